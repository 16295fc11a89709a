/-
  The document's Do, of an action that the graph has: what changes nothing, and what sets a variable or a number. The document's Do: a field is read. PLAIN: what an action that the graph has makes of a state; a right one stays so. A state as it is, of its own memory: still.
-/
import Derived.Test.YtebmhadpkncgfaaDoorM08
import Derived.Test.YtebmhadpkncgfaaDoorM07
set_option maxHeartbeats 40000000
set_option maxRecDepth 100000
namespace Go.Proofs.YtebmhadpkncgfaaDoor
open Go.RowKit Go.Maps Go.Sort
open Aw.Ac (Acn Opd)
/-- And the heap, loaded, in a box at B. -/
structure D7 (w w5 wr : World) (g : GR) (s : SV) (a : Acn) (O : Nat) (t : SV) (B : Nat) (v : Value) (N : Nat → Prop) : Prop where
  d6 : D6 w w5 wr g s a O t
  box : Bk wr B 59 (RefA g.F v)
  heap : Out g.F wr N v (s.rs.map RC.c)
  new : ∀ b, N b → w5.heap.size ≤ b ∧ b ≠ O ∧ b ≠ B
  farB : w5.heap.size ≤ B ∧ B ≠ O
theorem Out.below' {F : Nat} {w w' : World} {N : Nat → Prop} {v : Value} {cs : List PC} (h : Out F w N v cs) (hb : RowKit.Below w.heap.size w w') : Out F w' N v cs := h.gr (Gr.of_below hb)
theorem D7.far' {w w5 wr w' : World} {g : GR} {s : SV} {a : Acn} {O B : Nat} {t : SV} {v : Value} {N : Nat → Prop} (h : D7 w w5 wr g s a O t B v N) (hb : RowKit.Below wr.heap.size wr w') : D7 w w5 w' g s a O t B v N :=
  ⟨h.d6.far' hb, h.box.below hb h.box.lt, h.heap.below' hb, h.new, h.farB⟩
theorem D7.start {w w5 w9 w10 w11 : World} {g : GR} {s : SV} {a : Acn} {O : Nat} {t : SV} {v : Value} {N : Nat → Prop} (h : D6 w w5 w9 g s a O t) (hb : RowKit.Below w9.heap.size w9 w10) (ho : Out g.F w10 N v (s.rs.map RC.c)) (hN : ∀ b, N b → w9.heap.size ≤ b)
    (hB : Bk w11 w10.heap.size 59 (RefA g.F v)) (hg : (w10.alloc (.cells #[.int .i64 0, .slice none 0 0, .bool false] 59)).grownBy w11 (some w10.heap.size)) : D7 w w5 w11 g s a O t w10.heap.size v N := by
  have b7 : RowKit.Below w10.heap.size w10 w11 := (alloc_below w10 _).grown hg (by simp) (fun j hj => by injection hj with hj; omega)
  have hO := h.out.lt
  have hs := hb.size
  have hl := h.low.size
  exact ⟨(h.far' hb).far' b7, hB, ho.below' b7, fun b hb' => by have := hN b hb'; have := ho.1 b hb'; omega, by omega, by omega⟩
theorem D6.putv {w w5 wq wr : World} {g : GR} {s : SV} {a : Acn} {O g1 c : Nat} {t : SV} {l : List Int} (h : D6 w w5 wr g s a O t) (hn : Nw wq wr g1 l) (h5w : w.heap.size + 5 ≤ w5.heap.size) (_hw : w5.heap.size ≤ wq.heap.size) (hO : O < wq.heap.size) :
    D6 w w5 (wr.setCell ⟨O, 1, none⟩ (.slice (some ⟨g1, 0, none⟩) l.length c)) g s a O { t with vp := some ⟨g1, 0, none⟩, vs := l, vc := c } := by
  have hlo := hn.lo
  have hz := h.d5.sz
  have hf := h.far
  have h5 := h.low.size
  have hg : Gr wr (wr.setCell ⟨O, 1, none⟩ (.slice (some ⟨g1, 0, none⟩) l.length c)) (fun k => k = O) := Gr.setCell (S := fun k => k = O) (Gr.refl _ _) (p := ⟨O, 1, none⟩) (fun _ => rfl) _
  have hb := h.out.set_ 1 (.slice (some ⟨g1, 0, none⟩) l.length c)
  have e : t.A.setIfInBounds 1 (.slice (some ⟨g1, 0, none⟩) l.length c) = ({ t with vp := some ⟨g1, 0, none⟩, vs := l, vc := c } : SV).A := by simp [SV.A]
  rw [e] at hb
  have hbel : RowKit.Below w5.heap.size wr (wr.setCell ⟨O, 1, none⟩ (.slice (some ⟨g1, 0, none⟩) l.length c)) := hg.below h5 (fun k h => by omega)
  refine ⟨⟨hg.bk h.d5.gr (fun e => by omega), hg.bk h.d5.st (fun e => by omega), hg.bk h.d5.ac (fun e => by omega), hg.bk h.d5.r1 (fun e => by omega), hg.bk h.d5.r2 (fun e => by omega), h.d5.low.trans (hg.below h.d5.low.size (fun k h' => by omega)), by have := hg.size; omega⟩, hb, h.far, fun w' h' => ?_, h.low.trans hbel⟩
  have hall : Gr wr w' (fun k => k < w5.heap.size ∨ k = O) := (hg.mono (fun _ _ h => .inr h)).trans h'
  have ht := h.lies w' hall
  exact ⟨hn.gr hall (by omega), ht.i, ht.c⟩
theorem D6.puti {w w5 wq wr : World} {g : GR} {s : SV} {a : Acn} {O g1 c : Nat} {t : SV} {l : List Int} (h : D6 w w5 wr g s a O t) (hn : Nw wq wr g1 l) (h5w : w.heap.size + 5 ≤ w5.heap.size) (_hw : w5.heap.size ≤ wq.heap.size) (hO : O < wq.heap.size) :
    D6 w w5 (wr.setCell ⟨O, 2, none⟩ (.slice (some ⟨g1, 0, none⟩) l.length c)) g s a O { t with ip := some ⟨g1, 0, none⟩, is := l, ic := c } := by
  have hlo := hn.lo
  have hz := h.d5.sz
  have hf := h.far
  have h5 := h.low.size
  have hg : Gr wr (wr.setCell ⟨O, 2, none⟩ (.slice (some ⟨g1, 0, none⟩) l.length c)) (fun k => k = O) := Gr.setCell (S := fun k => k = O) (Gr.refl _ _) (p := ⟨O, 2, none⟩) (fun _ => rfl) _
  have hb := h.out.set_ 2 (.slice (some ⟨g1, 0, none⟩) l.length c)
  have e : t.A.setIfInBounds 2 (.slice (some ⟨g1, 0, none⟩) l.length c) = ({ t with ip := some ⟨g1, 0, none⟩, is := l, ic := c } : SV).A := by simp [SV.A]
  rw [e] at hb
  have hbel : RowKit.Below w5.heap.size wr (wr.setCell ⟨O, 2, none⟩ (.slice (some ⟨g1, 0, none⟩) l.length c)) := hg.below h5 (fun k h => by omega)
  refine ⟨⟨hg.bk h.d5.gr (fun e => by omega), hg.bk h.d5.st (fun e => by omega), hg.bk h.d5.ac (fun e => by omega), hg.bk h.d5.r1 (fun e => by omega), hg.bk h.d5.r2 (fun e => by omega), h.d5.low.trans (hg.below h.d5.low.size (fun k h' => by omega)), by have := hg.size; omega⟩, hb, h.far, fun w' h' => ?_, h.low.trans hbel⟩
  have hall : Gr wr w' (fun k => k < w5.heap.size ∨ k = O) := (hg.mono (fun _ _ h => .inr h)).trans h'
  have ht := h.lies w' hall
  exact ⟨ht.v, hn.gr hall (by omega), ht.c⟩
theorem do8_0 (g : GR) (s : SV) (a : Acn) (inp : Int) (w : World) (hg : Gok g) (hs : Rt g s) (hl : s.lies w) (hh : hasB g a = true) (hk : a.kind = 0) : Calls Tryd.prog 8 #[.agg g.cs, .agg s.A, .agg a.cs, .int .i64 inp] w (DoP w s (evA 0 0 0)) := by
  obtain ⟨w5, hw5⟩ : ∃ w5, ((((w.alloc (.cells g.cs 30)).alloc (.cells s.A 33)).alloc (.cells a.cs 43)).alloc (.cells (stA 0 none 0 0 none 0 0 none 0 0) 33)).alloc (.cells (evA 0 0 0) 37) = w5 := ⟨_, rfl⟩
  have HW : Hid (((((w.alloc (.cells g.cs 30)).alloc (.cells s.A 33)).alloc (.cells a.cs 43)).alloc (.cells #[.int .i64 0, .slice none 0 0, .slice none 0 0, .slice none 0 0] 33)).alloc (.cells #[.int .i64 0, .int .i64 0, .int .i64 0] 37) = w5) := hdn hw5
  have HD : Hid (D5 w w5 g s a) := hdn (by rw [← hw5]; exact D5.start w g s a)
  have HS5 := hdn HD.out.st
  have HL : Hid (s.lies w5) := hdn (hl.below HD.out.low)
  have HC := hdn (own21_any g.F s w5 HL.out (by have := hs.vl; have := hg.V; omega) (by have := hs.il; have := hg.I; omega) hs.n hs.lens hg.F)
  have HRI := hdn (fun wz (hz : RowKit.Below w5.heap.size w5 wz) => right22_any g s wz hg hs (HL.out.below hz))
  have HHA := hdn (fun wz => has23_any g a wz)
  rw [hh] at HHA
  have HLO : Hid (∀ wz, RowKit.Below w5.heap.size w5 wz → Calls Tryd.prog 24 #[.slice g.fp g.F g.fc, .slice s.cp s.rs.length s.cc] wz fun e w' => ∃ v N, e = .returned (.agg #[.int .i64 g.F, v, .bool true]) ∧ Out g.F w' N v (s.rs.map RC.c) ∧ (∀ b, N b → wz.heap.size ≤ b) ∧ RowKit.Below wz.heap.size wz w') := hdn (fun wz hz => by
    have := refLoad_any g.F g.fc s.cc g.fp s.cp s.rs wz (HL.out.c.below hz (fun x h => RC.lies_below' h hz)) hg.F hs.n
    rw [hs.loaded] at this
    exact this)
  have CV := fun (x : Int) (wz : World) (hz : RowKit.Below w5.heap.size w5 wz) => qb_call (wB := wz) (F := 25) (ar := #[.slice s.vp s.vs.length s.vc, .int .i64 x]) (v := .int .i64 (atL s.vs x)) (fun wr hb' => (at25_any s.vp s.vs s.vc x wr ((HL.out.below hz).v.below hb')).mono (fun e w' he => ⟨he.1, same_below he.2⟩))
  have HVX := hdn (CV a.x)
  have HVY := hdn (CV a.y)
  have HWV : Hid (∀ x wz, RowKit.Below w5.heap.size w5 wz → Calls Tryd.prog 26 #[.slice s.vp s.vs.length s.vc, .int .i64 a.x, .int .i64 x] wz (WithP wz (withL s.vs a.x x))) := hdn (fun x wz hz => with_any s.vp s.vs s.vc a.x x wz (HL.out.v.below hz) (by have := hs.vl; have := hg.V; omega))
  have HWI : Hid (∀ x wz, RowKit.Below w5.heap.size w5 wz → Calls Tryd.prog 26 #[.slice s.ip s.is.length s.ic, .int .i64 a.x, .int .i64 x] wz (WithP wz (withL s.is a.x x))) := hdn (fun x wz hz => with_any s.ip s.is s.ic a.x x wz (HL.out.i.below hz) (by have := hs.il; have := hg.I; omega))
  have HK := hdn hk
  clear CV hk
  clear hw5 hl hs hg hh
  go_enter Tryd.func8, Tryd.ntmps8
  go_upto_region 1 with fail
  rw [HW.out]
  clear HW
  go_upto_region 2 with (first
    | ((with_reducible show wpList _ _ _ (Oper.mk _ (Op.load 33 _) _ _ _ _ :: _) _ _); refine wpList_load_bk rfl 33 _ rfl (w.heap.size + 1) 33 s.A rfl _ HS5.out Tryd.underlying33 rfl size33 ?_)
    | (go_at_call 21; refine HC.out.mono ?_; rintro e w6 ⟨t, rfl, hs6, hv6, hb6⟩; have HT := hdn hs6; have HV := hdn hv6; have HB6 := hdn hb6; have HZ6 : Hid (Bk (w6.alloc (.cells #[.int .i64 0, .slice none 0 0, .slice none 0 0, .slice none 0 0] 33)) w6.heap.size 33 (stA 0 none 0 0 none 0 0 none 0 0)) := hdn (MapKept.heap_alloc w6 _).1; clear hs6 hv6 hb6)
    | ((with_reducible show wpList _ _ _ (Oper.mk none (Op.store 33 _ _) _ _ _ _ :: _) _ _); refine wpList_store_all rfl 33 _ _ rfl w6.heap.size 33 _ t.A rfl rfl HZ6.out size33 rfl (SV.A_one t) ?_; intro w7 h7 g7))
  have H6 : Hid (D6 w w5 w7 g s a w6.heap.size t) := hdn (D6.start HD.out HB6.out HV.out h7.out g7.out)
  clear h7 g7 HC HS5 HV HB6 HZ6
  generalize w6.heap.size = O at H6 ⊢
  have HG7 := hdn H6.out.d5.gr
  have HS7 := hdn H6.out.d5.st
  go_upto_region 4 with (first
    | ((with_reducible show wpList _ _ _ (Oper.mk (some 25) (Op.load 30 _) _ _ _ _ :: _) _ _); refine wpList_load_bk rfl 30 _ rfl w.heap.size 30 g.cs rfl _ HG7.out Tryd.underlying30 rfl size30 ?_)
    | ((with_reducible show wpList _ _ _ (Oper.mk (some 26) (Op.load 33 _) _ _ _ _ :: _) _ _); refine wpList_load_bk rfl 33 _ rfl (w.heap.size + 1) 33 s.A rfl _ HS7.out Tryd.underlying33 rfl size33 ?_)
    | (go_at_call 22; refine (HRI.out w7 H6.out.low).mono ?_; rintro e w8 ⟨rfl, hb8⟩; have H8 := hdn (H6.out.far' hb8); have HG8 := hdn H8.out.d5.gr; have HA8 := hdn H8.out.d5.ac; obtain ⟨c0, c1, c2, c3, c4, c5, c6, c7, c8, c9⟩ := G10.of HG8.out; obtain ⟨a0, a1, a2, a3, a4, a5, a6, a7, a8, a9, a10, a11⟩ := A12f.of HA8.out; clear hb8)
    | (go_at_call 23; refine (HHA.out w8).mono ?_; rintro e w9 ⟨rfl, hb9⟩; have H9 := hdn (H8.out.far' hb9); clear hb9))
  clear c0 c1 c2 c3 c4 c5 c6 c7 c8 c9 a0 a1 a2 a3 a4 a5 a6 a7 a8 a9 a10 a11 HG8 HA8 HRI HHA HG7 HS7 H8
  obtain ⟨_, _, _, _, _, _, _, _, _, c9⟩ := G10.of H9.out.d5.gr
  obtain ⟨_, _, _, s3⟩ := Z33.of H9.out.d5.st
  go_upto_region 5 with (first
    | (go_at_call 24; refine (HLO.out w9 H9.out.low).mono ?_; rintro e w10 ⟨v, N, rfl, hov, hnv, hbv⟩; have HOV := hdn hov; have HNV := hdn hnv; have HBV := hdn hbv; have HZ10 : Hid (Bk (w10.alloc (.cells #[.int .i64 0, .slice none 0 0, .bool false] 59)) w10.heap.size 59 #[.int .i64 0, .slice none 0 0, .bool false]) := hdn (MapKept.heap_alloc w10 _).1; have H1C : Hid ((#[.int .i64 g.F, v, .bool true] : Array Value).all (·.oneCell') = true) := hdn (Kin.Lie.oneA hov); clear hov hnv hbv)
    | ((with_reducible show wpList _ _ _ (Oper.mk none (Op.store 59 _ _) _ _ _ _ :: _) _ _); refine wpList_store_all rfl 59 _ _ rfl w10.heap.size 59 _ #[.int .i64 g.F, v, .bool true] rfl rfl HZ10.out size29 rfl H1C.out ?_; intro w11 h11 g11))
  have H7 : Hid (D7 w w5 w11 g s a O t w10.heap.size v N) := hdn (D7.start H9.out HBV.out HOV.out HNV.out h11.out g11.out)
  clear h11 g11 HOV HNV HBV HZ10 H1C c9 s3
  generalize w10.heap.size = B at H7 ⊢
  simp only [Act.put]
  obtain ⟨a0, a1, a2, a3, a4, a5, a6, a7, a8, a9, a10, a11⟩ := A12f.of H7.out.d6.d5.ac
  obtain ⟨s0, s1, s2, s3⟩ := Z33.of H7.out.d6.d5.st
  have cX := HVX.out w11 H7.out.d6.low
  have cY := HVY.out w11 H7.out.d6.low
  have p1 := cell_regrown a1; have p2 := cell_regrown a2; have p3 := cell_regrown s1
  refine wp_region_quiet_below (by kernel_rfl) (by kernel_rfl) ?_
  repeat (go_big_quiet_step (first | (with_reducible exact cX _ _) | (with_reducible exact cY _ _)))
  refine wpQuiet_nil ?_
  intro _ hw'
  obtain ⟨⟨dz, osz⟩, hw''⟩ := hw'
  subst hw''
  have H12 : Hid (D7 w w5 (grow (redrawn w11 dz) osz) g s a O t B v N) := hdn (H7.out.far' (below_regrown w11 dz osz))
  generalize grow (redrawn w11 dz) osz = w12 at H12 ⊢
  clear p1 p2 p3 cX cY a0 a1 a2 a3 a4 a5 a6 a7 a8 a9 a10 a11 s0 s1 s2 s3 H7 H9 HVX HVY HLO
  obtain ⟨a0, a1, a2, a3, a4, a5, a6, a7, a8, a9, a10, a11⟩ := A12f.of H12.out.d6.d5.ac
  obtain ⟨s0, s1, s2, s3⟩ := Z33.of H12.out.d6.d5.st
  rw [HK.out] at a0
  have HO9 := hdn H12.out.d6.out
  have HR1 := hdn H12.out.d6.d5.r1
  have HR2 := hdn H12.out.d6.d5.r2
  go_wp2_with (first
    | ((with_reducible show wpList _ _ _ (Oper.mk (some 221) (Op.load 33 _) _ _ _ _ :: _) _ _); refine wpList_load_bk rfl 33 _ rfl O 33 (t).A rfl _ HO9.out Tryd.underlying33 rfl size33 ?_)
    | ((with_reducible show wpList _ _ _ (Oper.mk none (Op.store 33 _ _) _ _ _ _ :: _) _ _); refine wpList_store_all rfl 33 _ _ rfl (w.heap.size + 1 + 1 + 1) 33 _ (t).A rfl rfl HR1.out size33 rfl (SV.A_one _) ?_; intro w20 h20 g20; have HR3 := hdn ((Gr.of_grown g20.out).bk HR2.out (by intro h; injection h; omega)))
    | ((with_reducible show wpList _ _ _ (Oper.mk none (Op.store 37 _ _) _ _ _ _ :: _) _ _); refine wpList_store_all rfl 37 _ _ rfl (w.heap.size + 1 + 1 + 1 + 1) 37 _ (evA 0 0 0) rfl rfl HR3.out size37 rfl (evA_one _ _ _) ?_; intro w21 h21 g21))
  have q1 : Bk w21 (w.heap.size + 1 + 1 + 1) 33 (t).A := (Gr.of_grown g21.out).bk h20.out (by intro h; injection h; omega)
  exact bodyPost_ret (results_two Tryd.results8 rfl rfl rfl rfl q1 h21.out) rfl (D6.fin HD.out.sz H12.out.d6 HT.out g20.out g21.out)
theorem do8_8 (g : GR) (s : SV) (a : Acn) (inp : Int) (w : World) (hg : Gok g) (hs : Rt g s) (hl : s.lies w) (hh : hasB g a = true) (hk : a.kind = 8) : Calls Tryd.prog 8 #[.agg g.cs, .agg s.A, .agg a.cs, .int .i64 inp] w (DoP w s (evA 0 0 0)) := by
  obtain ⟨w5, hw5⟩ : ∃ w5, ((((w.alloc (.cells g.cs 30)).alloc (.cells s.A 33)).alloc (.cells a.cs 43)).alloc (.cells (stA 0 none 0 0 none 0 0 none 0 0) 33)).alloc (.cells (evA 0 0 0) 37) = w5 := ⟨_, rfl⟩
  have HW : Hid (((((w.alloc (.cells g.cs 30)).alloc (.cells s.A 33)).alloc (.cells a.cs 43)).alloc (.cells #[.int .i64 0, .slice none 0 0, .slice none 0 0, .slice none 0 0] 33)).alloc (.cells #[.int .i64 0, .int .i64 0, .int .i64 0] 37) = w5) := hdn hw5
  have HD : Hid (D5 w w5 g s a) := hdn (by rw [← hw5]; exact D5.start w g s a)
  have HS5 := hdn HD.out.st
  have HL : Hid (s.lies w5) := hdn (hl.below HD.out.low)
  have HC := hdn (own21_any g.F s w5 HL.out (by have := hs.vl; have := hg.V; omega) (by have := hs.il; have := hg.I; omega) hs.n hs.lens hg.F)
  have HRI := hdn (fun wz (hz : RowKit.Below w5.heap.size w5 wz) => right22_any g s wz hg hs (HL.out.below hz))
  have HHA := hdn (fun wz => has23_any g a wz)
  rw [hh] at HHA
  have HLO : Hid (∀ wz, RowKit.Below w5.heap.size w5 wz → Calls Tryd.prog 24 #[.slice g.fp g.F g.fc, .slice s.cp s.rs.length s.cc] wz fun e w' => ∃ v N, e = .returned (.agg #[.int .i64 g.F, v, .bool true]) ∧ Out g.F w' N v (s.rs.map RC.c) ∧ (∀ b, N b → wz.heap.size ≤ b) ∧ RowKit.Below wz.heap.size wz w') := hdn (fun wz hz => by
    have := refLoad_any g.F g.fc s.cc g.fp s.cp s.rs wz (HL.out.c.below hz (fun x h => RC.lies_below' h hz)) hg.F hs.n
    rw [hs.loaded] at this
    exact this)
  have CV := fun (x : Int) (wz : World) (hz : RowKit.Below w5.heap.size w5 wz) => qb_call (wB := wz) (F := 25) (ar := #[.slice s.vp s.vs.length s.vc, .int .i64 x]) (v := .int .i64 (atL s.vs x)) (fun wr hb' => (at25_any s.vp s.vs s.vc x wr ((HL.out.below hz).v.below hb')).mono (fun e w' he => ⟨he.1, same_below he.2⟩))
  have HVX := hdn (CV a.x)
  have HVY := hdn (CV a.y)
  have HWV : Hid (∀ x wz, RowKit.Below w5.heap.size w5 wz → Calls Tryd.prog 26 #[.slice s.vp s.vs.length s.vc, .int .i64 a.x, .int .i64 x] wz (WithP wz (withL s.vs a.x x))) := hdn (fun x wz hz => with_any s.vp s.vs s.vc a.x x wz (HL.out.v.below hz) (by have := hs.vl; have := hg.V; omega))
  have HWI : Hid (∀ x wz, RowKit.Below w5.heap.size w5 wz → Calls Tryd.prog 26 #[.slice s.ip s.is.length s.ic, .int .i64 a.x, .int .i64 x] wz (WithP wz (withL s.is a.x x))) := hdn (fun x wz hz => with_any s.ip s.is s.ic a.x x wz (HL.out.i.below hz) (by have := hs.il; have := hg.I; omega))
  have HK := hdn hk
  clear CV hk
  clear hw5 hl hs hg hh
  go_enter Tryd.func8, Tryd.ntmps8
  go_upto_region 1 with fail
  rw [HW.out]
  clear HW
  go_upto_region 2 with (first
    | ((with_reducible show wpList _ _ _ (Oper.mk _ (Op.load 33 _) _ _ _ _ :: _) _ _); refine wpList_load_bk rfl 33 _ rfl (w.heap.size + 1) 33 s.A rfl _ HS5.out Tryd.underlying33 rfl size33 ?_)
    | (go_at_call 21; refine HC.out.mono ?_; rintro e w6 ⟨t, rfl, hs6, hv6, hb6⟩; have HT := hdn hs6; have HV := hdn hv6; have HB6 := hdn hb6; have HZ6 : Hid (Bk (w6.alloc (.cells #[.int .i64 0, .slice none 0 0, .slice none 0 0, .slice none 0 0] 33)) w6.heap.size 33 (stA 0 none 0 0 none 0 0 none 0 0)) := hdn (MapKept.heap_alloc w6 _).1; clear hs6 hv6 hb6)
    | ((with_reducible show wpList _ _ _ (Oper.mk none (Op.store 33 _ _) _ _ _ _ :: _) _ _); refine wpList_store_all rfl 33 _ _ rfl w6.heap.size 33 _ t.A rfl rfl HZ6.out size33 rfl (SV.A_one t) ?_; intro w7 h7 g7))
  have H6 : Hid (D6 w w5 w7 g s a w6.heap.size t) := hdn (D6.start HD.out HB6.out HV.out h7.out g7.out)
  clear h7 g7 HC HS5 HV HB6 HZ6
  generalize w6.heap.size = O at H6 ⊢
  have HG7 := hdn H6.out.d5.gr
  have HS7 := hdn H6.out.d5.st
  go_upto_region 4 with (first
    | ((with_reducible show wpList _ _ _ (Oper.mk (some 25) (Op.load 30 _) _ _ _ _ :: _) _ _); refine wpList_load_bk rfl 30 _ rfl w.heap.size 30 g.cs rfl _ HG7.out Tryd.underlying30 rfl size30 ?_)
    | ((with_reducible show wpList _ _ _ (Oper.mk (some 26) (Op.load 33 _) _ _ _ _ :: _) _ _); refine wpList_load_bk rfl 33 _ rfl (w.heap.size + 1) 33 s.A rfl _ HS7.out Tryd.underlying33 rfl size33 ?_)
    | (go_at_call 22; refine (HRI.out w7 H6.out.low).mono ?_; rintro e w8 ⟨rfl, hb8⟩; have H8 := hdn (H6.out.far' hb8); have HG8 := hdn H8.out.d5.gr; have HA8 := hdn H8.out.d5.ac; obtain ⟨c0, c1, c2, c3, c4, c5, c6, c7, c8, c9⟩ := G10.of HG8.out; obtain ⟨a0, a1, a2, a3, a4, a5, a6, a7, a8, a9, a10, a11⟩ := A12f.of HA8.out; clear hb8)
    | (go_at_call 23; refine (HHA.out w8).mono ?_; rintro e w9 ⟨rfl, hb9⟩; have H9 := hdn (H8.out.far' hb9); clear hb9))
  clear c0 c1 c2 c3 c4 c5 c6 c7 c8 c9 a0 a1 a2 a3 a4 a5 a6 a7 a8 a9 a10 a11 HG8 HA8 HRI HHA HG7 HS7 H8
  obtain ⟨_, _, _, _, _, _, _, _, _, c9⟩ := G10.of H9.out.d5.gr
  obtain ⟨_, _, _, s3⟩ := Z33.of H9.out.d5.st
  go_upto_region 5 with (first
    | (go_at_call 24; refine (HLO.out w9 H9.out.low).mono ?_; rintro e w10 ⟨v, N, rfl, hov, hnv, hbv⟩; have HOV := hdn hov; have HNV := hdn hnv; have HBV := hdn hbv; have HZ10 : Hid (Bk (w10.alloc (.cells #[.int .i64 0, .slice none 0 0, .bool false] 59)) w10.heap.size 59 #[.int .i64 0, .slice none 0 0, .bool false]) := hdn (MapKept.heap_alloc w10 _).1; have H1C : Hid ((#[.int .i64 g.F, v, .bool true] : Array Value).all (·.oneCell') = true) := hdn (Kin.Lie.oneA hov); clear hov hnv hbv)
    | ((with_reducible show wpList _ _ _ (Oper.mk none (Op.store 59 _ _) _ _ _ _ :: _) _ _); refine wpList_store_all rfl 59 _ _ rfl w10.heap.size 59 _ #[.int .i64 g.F, v, .bool true] rfl rfl HZ10.out size29 rfl H1C.out ?_; intro w11 h11 g11))
  have H7 : Hid (D7 w w5 w11 g s a O t w10.heap.size v N) := hdn (D7.start H9.out HBV.out HOV.out HNV.out h11.out g11.out)
  clear h11 g11 HOV HNV HBV HZ10 H1C c9 s3
  generalize w10.heap.size = B at H7 ⊢
  simp only [Act.put]
  obtain ⟨a0, a1, a2, a3, a4, a5, a6, a7, a8, a9, a10, a11⟩ := A12f.of H7.out.d6.d5.ac
  obtain ⟨s0, s1, s2, s3⟩ := Z33.of H7.out.d6.d5.st
  have cX := HVX.out w11 H7.out.d6.low
  have cY := HVY.out w11 H7.out.d6.low
  have p1 := cell_regrown a1; have p2 := cell_regrown a2; have p3 := cell_regrown s1
  refine wp_region_quiet_below (by kernel_rfl) (by kernel_rfl) ?_
  repeat (go_big_quiet_step (first | (with_reducible exact cX _ _) | (with_reducible exact cY _ _)))
  refine wpQuiet_nil ?_
  intro _ hw'
  obtain ⟨⟨dz, osz⟩, hw''⟩ := hw'
  subst hw''
  have H12 : Hid (D7 w w5 (grow (redrawn w11 dz) osz) g s a O t B v N) := hdn (H7.out.far' (below_regrown w11 dz osz))
  generalize grow (redrawn w11 dz) osz = w12 at H12 ⊢
  clear p1 p2 p3 cX cY a0 a1 a2 a3 a4 a5 a6 a7 a8 a9 a10 a11 s0 s1 s2 s3 H7 H9 HVX HVY HLO
  obtain ⟨a0, a1, a2, a3, a4, a5, a6, a7, a8, a9, a10, a11⟩ := A12f.of H12.out.d6.d5.ac
  obtain ⟨s0, s1, s2, s3⟩ := Z33.of H12.out.d6.d5.st
  rw [HK.out] at a0
  have HO9 := hdn H12.out.d6.out
  have HR1 := hdn H12.out.d6.d5.r1
  have HR2 := hdn H12.out.d6.d5.r2
  go_wp2_with (first
    | ((with_reducible show wpList _ _ _ (Oper.mk (some 221) (Op.load 33 _) _ _ _ _ :: _) _ _); refine wpList_load_bk rfl 33 _ rfl O 33 (t).A rfl _ HO9.out Tryd.underlying33 rfl size33 ?_)
    | ((with_reducible show wpList _ _ _ (Oper.mk none (Op.store 33 _ _) _ _ _ _ :: _) _ _); refine wpList_store_all rfl 33 _ _ rfl (w.heap.size + 1 + 1 + 1) 33 _ (t).A rfl rfl HR1.out size33 rfl (SV.A_one _) ?_; intro w20 h20 g20; have HR3 := hdn ((Gr.of_grown g20.out).bk HR2.out (by intro h; injection h; omega)))
    | ((with_reducible show wpList _ _ _ (Oper.mk none (Op.store 37 _ _) _ _ _ _ :: _) _ _); refine wpList_store_all rfl 37 _ _ rfl (w.heap.size + 1 + 1 + 1 + 1) 37 _ (evA 0 0 0) rfl rfl HR3.out size37 rfl (evA_one _ _ _) ?_; intro w21 h21 g21))
  have q1 : Bk w21 (w.heap.size + 1 + 1 + 1) 33 (t).A := (Gr.of_grown g21.out).bk h20.out (by intro h; injection h; omega)
  exact bodyPost_ret (results_two Tryd.results8 rfl rfl rfl rfl q1 h21.out) rfl (D6.fin HD.out.sz H12.out.d6 HT.out g20.out g21.out)
theorem do8_9 (g : GR) (s : SV) (a : Acn) (inp : Int) (w : World) (hg : Gok g) (hs : Rt g s) (hl : s.lies w) (hh : hasB g a = true) (hk : a.kind = 9) : Calls Tryd.prog 8 #[.agg g.cs, .agg s.A, .agg a.cs, .int .i64 inp] w (DoP w s (evA 0 0 0)) := by
  obtain ⟨w5, hw5⟩ : ∃ w5, ((((w.alloc (.cells g.cs 30)).alloc (.cells s.A 33)).alloc (.cells a.cs 43)).alloc (.cells (stA 0 none 0 0 none 0 0 none 0 0) 33)).alloc (.cells (evA 0 0 0) 37) = w5 := ⟨_, rfl⟩
  have HW : Hid (((((w.alloc (.cells g.cs 30)).alloc (.cells s.A 33)).alloc (.cells a.cs 43)).alloc (.cells #[.int .i64 0, .slice none 0 0, .slice none 0 0, .slice none 0 0] 33)).alloc (.cells #[.int .i64 0, .int .i64 0, .int .i64 0] 37) = w5) := hdn hw5
  have HD : Hid (D5 w w5 g s a) := hdn (by rw [← hw5]; exact D5.start w g s a)
  have HS5 := hdn HD.out.st
  have HL : Hid (s.lies w5) := hdn (hl.below HD.out.low)
  have HC := hdn (own21_any g.F s w5 HL.out (by have := hs.vl; have := hg.V; omega) (by have := hs.il; have := hg.I; omega) hs.n hs.lens hg.F)
  have HRI := hdn (fun wz (hz : RowKit.Below w5.heap.size w5 wz) => right22_any g s wz hg hs (HL.out.below hz))
  have HHA := hdn (fun wz => has23_any g a wz)
  rw [hh] at HHA
  have HLO : Hid (∀ wz, RowKit.Below w5.heap.size w5 wz → Calls Tryd.prog 24 #[.slice g.fp g.F g.fc, .slice s.cp s.rs.length s.cc] wz fun e w' => ∃ v N, e = .returned (.agg #[.int .i64 g.F, v, .bool true]) ∧ Out g.F w' N v (s.rs.map RC.c) ∧ (∀ b, N b → wz.heap.size ≤ b) ∧ RowKit.Below wz.heap.size wz w') := hdn (fun wz hz => by
    have := refLoad_any g.F g.fc s.cc g.fp s.cp s.rs wz (HL.out.c.below hz (fun x h => RC.lies_below' h hz)) hg.F hs.n
    rw [hs.loaded] at this
    exact this)
  have CV := fun (x : Int) (wz : World) (hz : RowKit.Below w5.heap.size w5 wz) => qb_call (wB := wz) (F := 25) (ar := #[.slice s.vp s.vs.length s.vc, .int .i64 x]) (v := .int .i64 (atL s.vs x)) (fun wr hb' => (at25_any s.vp s.vs s.vc x wr ((HL.out.below hz).v.below hb')).mono (fun e w' he => ⟨he.1, same_below he.2⟩))
  have HVX := hdn (CV a.x)
  have HVY := hdn (CV a.y)
  have HWV : Hid (∀ x wz, RowKit.Below w5.heap.size w5 wz → Calls Tryd.prog 26 #[.slice s.vp s.vs.length s.vc, .int .i64 a.x, .int .i64 x] wz (WithP wz (withL s.vs a.x x))) := hdn (fun x wz hz => with_any s.vp s.vs s.vc a.x x wz (HL.out.v.below hz) (by have := hs.vl; have := hg.V; omega))
  have HWI : Hid (∀ x wz, RowKit.Below w5.heap.size w5 wz → Calls Tryd.prog 26 #[.slice s.ip s.is.length s.ic, .int .i64 a.x, .int .i64 x] wz (WithP wz (withL s.is a.x x))) := hdn (fun x wz hz => with_any s.ip s.is s.ic a.x x wz (HL.out.i.below hz) (by have := hs.il; have := hg.I; omega))
  have HK := hdn hk
  clear CV hk
  clear hw5 hl hs hg hh
  go_enter Tryd.func8, Tryd.ntmps8
  go_upto_region 1 with fail
  rw [HW.out]
  clear HW
  go_upto_region 2 with (first
    | ((with_reducible show wpList _ _ _ (Oper.mk _ (Op.load 33 _) _ _ _ _ :: _) _ _); refine wpList_load_bk rfl 33 _ rfl (w.heap.size + 1) 33 s.A rfl _ HS5.out Tryd.underlying33 rfl size33 ?_)
    | (go_at_call 21; refine HC.out.mono ?_; rintro e w6 ⟨t, rfl, hs6, hv6, hb6⟩; have HT := hdn hs6; have HV := hdn hv6; have HB6 := hdn hb6; have HZ6 : Hid (Bk (w6.alloc (.cells #[.int .i64 0, .slice none 0 0, .slice none 0 0, .slice none 0 0] 33)) w6.heap.size 33 (stA 0 none 0 0 none 0 0 none 0 0)) := hdn (MapKept.heap_alloc w6 _).1; clear hs6 hv6 hb6)
    | ((with_reducible show wpList _ _ _ (Oper.mk none (Op.store 33 _ _) _ _ _ _ :: _) _ _); refine wpList_store_all rfl 33 _ _ rfl w6.heap.size 33 _ t.A rfl rfl HZ6.out size33 rfl (SV.A_one t) ?_; intro w7 h7 g7))
  have H6 : Hid (D6 w w5 w7 g s a w6.heap.size t) := hdn (D6.start HD.out HB6.out HV.out h7.out g7.out)
  clear h7 g7 HC HS5 HV HB6 HZ6
  generalize w6.heap.size = O at H6 ⊢
  have HG7 := hdn H6.out.d5.gr
  have HS7 := hdn H6.out.d5.st
  go_upto_region 4 with (first
    | ((with_reducible show wpList _ _ _ (Oper.mk (some 25) (Op.load 30 _) _ _ _ _ :: _) _ _); refine wpList_load_bk rfl 30 _ rfl w.heap.size 30 g.cs rfl _ HG7.out Tryd.underlying30 rfl size30 ?_)
    | ((with_reducible show wpList _ _ _ (Oper.mk (some 26) (Op.load 33 _) _ _ _ _ :: _) _ _); refine wpList_load_bk rfl 33 _ rfl (w.heap.size + 1) 33 s.A rfl _ HS7.out Tryd.underlying33 rfl size33 ?_)
    | (go_at_call 22; refine (HRI.out w7 H6.out.low).mono ?_; rintro e w8 ⟨rfl, hb8⟩; have H8 := hdn (H6.out.far' hb8); have HG8 := hdn H8.out.d5.gr; have HA8 := hdn H8.out.d5.ac; obtain ⟨c0, c1, c2, c3, c4, c5, c6, c7, c8, c9⟩ := G10.of HG8.out; obtain ⟨a0, a1, a2, a3, a4, a5, a6, a7, a8, a9, a10, a11⟩ := A12f.of HA8.out; clear hb8)
    | (go_at_call 23; refine (HHA.out w8).mono ?_; rintro e w9 ⟨rfl, hb9⟩; have H9 := hdn (H8.out.far' hb9); clear hb9))
  clear c0 c1 c2 c3 c4 c5 c6 c7 c8 c9 a0 a1 a2 a3 a4 a5 a6 a7 a8 a9 a10 a11 HG8 HA8 HRI HHA HG7 HS7 H8
  obtain ⟨_, _, _, _, _, _, _, _, _, c9⟩ := G10.of H9.out.d5.gr
  obtain ⟨_, _, _, s3⟩ := Z33.of H9.out.d5.st
  go_upto_region 5 with (first
    | (go_at_call 24; refine (HLO.out w9 H9.out.low).mono ?_; rintro e w10 ⟨v, N, rfl, hov, hnv, hbv⟩; have HOV := hdn hov; have HNV := hdn hnv; have HBV := hdn hbv; have HZ10 : Hid (Bk (w10.alloc (.cells #[.int .i64 0, .slice none 0 0, .bool false] 59)) w10.heap.size 59 #[.int .i64 0, .slice none 0 0, .bool false]) := hdn (MapKept.heap_alloc w10 _).1; have H1C : Hid ((#[.int .i64 g.F, v, .bool true] : Array Value).all (·.oneCell') = true) := hdn (Kin.Lie.oneA hov); clear hov hnv hbv)
    | ((with_reducible show wpList _ _ _ (Oper.mk none (Op.store 59 _ _) _ _ _ _ :: _) _ _); refine wpList_store_all rfl 59 _ _ rfl w10.heap.size 59 _ #[.int .i64 g.F, v, .bool true] rfl rfl HZ10.out size29 rfl H1C.out ?_; intro w11 h11 g11))
  have H7 : Hid (D7 w w5 w11 g s a O t w10.heap.size v N) := hdn (D7.start H9.out HBV.out HOV.out HNV.out h11.out g11.out)
  clear h11 g11 HOV HNV HBV HZ10 H1C c9 s3
  generalize w10.heap.size = B at H7 ⊢
  simp only [Act.put]
  obtain ⟨a0, a1, a2, a3, a4, a5, a6, a7, a8, a9, a10, a11⟩ := A12f.of H7.out.d6.d5.ac
  obtain ⟨s0, s1, s2, s3⟩ := Z33.of H7.out.d6.d5.st
  have cX := HVX.out w11 H7.out.d6.low
  have cY := HVY.out w11 H7.out.d6.low
  have p1 := cell_regrown a1; have p2 := cell_regrown a2; have p3 := cell_regrown s1
  refine wp_region_quiet_below (by kernel_rfl) (by kernel_rfl) ?_
  repeat (go_big_quiet_step (first | (with_reducible exact cX _ _) | (with_reducible exact cY _ _)))
  refine wpQuiet_nil ?_
  intro _ hw'
  obtain ⟨⟨dz, osz⟩, hw''⟩ := hw'
  subst hw''
  have H12 : Hid (D7 w w5 (grow (redrawn w11 dz) osz) g s a O t B v N) := hdn (H7.out.far' (below_regrown w11 dz osz))
  generalize grow (redrawn w11 dz) osz = w12 at H12 ⊢
  clear p1 p2 p3 cX cY a0 a1 a2 a3 a4 a5 a6 a7 a8 a9 a10 a11 s0 s1 s2 s3 H7 H9 HVX HVY HLO
  obtain ⟨a0, a1, a2, a3, a4, a5, a6, a7, a8, a9, a10, a11⟩ := A12f.of H12.out.d6.d5.ac
  obtain ⟨s0, s1, s2, s3⟩ := Z33.of H12.out.d6.d5.st
  rw [HK.out] at a0
  have HO9 := hdn H12.out.d6.out
  have HR1 := hdn H12.out.d6.d5.r1
  have HR2 := hdn H12.out.d6.d5.r2
  go_wp2_with (first
    | ((with_reducible show wpList _ _ _ (Oper.mk (some 221) (Op.load 33 _) _ _ _ _ :: _) _ _); refine wpList_load_bk rfl 33 _ rfl O 33 (t).A rfl _ HO9.out Tryd.underlying33 rfl size33 ?_)
    | ((with_reducible show wpList _ _ _ (Oper.mk none (Op.store 33 _ _) _ _ _ _ :: _) _ _); refine wpList_store_all rfl 33 _ _ rfl (w.heap.size + 1 + 1 + 1) 33 _ (t).A rfl rfl HR1.out size33 rfl (SV.A_one _) ?_; intro w20 h20 g20; have HR3 := hdn ((Gr.of_grown g20.out).bk HR2.out (by intro h; injection h; omega)))
    | ((with_reducible show wpList _ _ _ (Oper.mk none (Op.store 37 _ _) _ _ _ _ :: _) _ _); refine wpList_store_all rfl 37 _ _ rfl (w.heap.size + 1 + 1 + 1 + 1) 37 _ (evA 0 0 0) rfl rfl HR3.out size37 rfl (evA_one _ _ _) ?_; intro w21 h21 g21))
  have q1 : Bk w21 (w.heap.size + 1 + 1 + 1) 33 (t).A := (Gr.of_grown g21.out).bk h20.out (by intro h; injection h; omega)
  exact bodyPost_ret (results_two Tryd.results8 rfl rfl rfl rfl q1 h21.out) rfl (D6.fin HD.out.sz H12.out.d6 HT.out g20.out g21.out)
theorem do8_12 (g : GR) (s : SV) (a : Acn) (inp : Int) (w : World) (hg : Gok g) (hs : Rt g s) (hl : s.lies w) (hh : hasB g a = true) (hk : a.kind = 12) : Calls Tryd.prog 8 #[.agg g.cs, .agg s.A, .agg a.cs, .int .i64 inp] w (DoP w s (evA 0 0 0)) := by
  obtain ⟨w5, hw5⟩ : ∃ w5, ((((w.alloc (.cells g.cs 30)).alloc (.cells s.A 33)).alloc (.cells a.cs 43)).alloc (.cells (stA 0 none 0 0 none 0 0 none 0 0) 33)).alloc (.cells (evA 0 0 0) 37) = w5 := ⟨_, rfl⟩
  have HW : Hid (((((w.alloc (.cells g.cs 30)).alloc (.cells s.A 33)).alloc (.cells a.cs 43)).alloc (.cells #[.int .i64 0, .slice none 0 0, .slice none 0 0, .slice none 0 0] 33)).alloc (.cells #[.int .i64 0, .int .i64 0, .int .i64 0] 37) = w5) := hdn hw5
  have HD : Hid (D5 w w5 g s a) := hdn (by rw [← hw5]; exact D5.start w g s a)
  have HS5 := hdn HD.out.st
  have HL : Hid (s.lies w5) := hdn (hl.below HD.out.low)
  have HC := hdn (own21_any g.F s w5 HL.out (by have := hs.vl; have := hg.V; omega) (by have := hs.il; have := hg.I; omega) hs.n hs.lens hg.F)
  have HRI := hdn (fun wz (hz : RowKit.Below w5.heap.size w5 wz) => right22_any g s wz hg hs (HL.out.below hz))
  have HHA := hdn (fun wz => has23_any g a wz)
  rw [hh] at HHA
  have HLO : Hid (∀ wz, RowKit.Below w5.heap.size w5 wz → Calls Tryd.prog 24 #[.slice g.fp g.F g.fc, .slice s.cp s.rs.length s.cc] wz fun e w' => ∃ v N, e = .returned (.agg #[.int .i64 g.F, v, .bool true]) ∧ Out g.F w' N v (s.rs.map RC.c) ∧ (∀ b, N b → wz.heap.size ≤ b) ∧ RowKit.Below wz.heap.size wz w') := hdn (fun wz hz => by
    have := refLoad_any g.F g.fc s.cc g.fp s.cp s.rs wz (HL.out.c.below hz (fun x h => RC.lies_below' h hz)) hg.F hs.n
    rw [hs.loaded] at this
    exact this)
  have CV := fun (x : Int) (wz : World) (hz : RowKit.Below w5.heap.size w5 wz) => qb_call (wB := wz) (F := 25) (ar := #[.slice s.vp s.vs.length s.vc, .int .i64 x]) (v := .int .i64 (atL s.vs x)) (fun wr hb' => (at25_any s.vp s.vs s.vc x wr ((HL.out.below hz).v.below hb')).mono (fun e w' he => ⟨he.1, same_below he.2⟩))
  have HVX := hdn (CV a.x)
  have HVY := hdn (CV a.y)
  have HWV : Hid (∀ x wz, RowKit.Below w5.heap.size w5 wz → Calls Tryd.prog 26 #[.slice s.vp s.vs.length s.vc, .int .i64 a.x, .int .i64 x] wz (WithP wz (withL s.vs a.x x))) := hdn (fun x wz hz => with_any s.vp s.vs s.vc a.x x wz (HL.out.v.below hz) (by have := hs.vl; have := hg.V; omega))
  have HWI : Hid (∀ x wz, RowKit.Below w5.heap.size w5 wz → Calls Tryd.prog 26 #[.slice s.ip s.is.length s.ic, .int .i64 a.x, .int .i64 x] wz (WithP wz (withL s.is a.x x))) := hdn (fun x wz hz => with_any s.ip s.is s.ic a.x x wz (HL.out.i.below hz) (by have := hs.il; have := hg.I; omega))
  have HK := hdn hk
  clear CV hk
  clear hw5 hl hs hg hh
  go_enter Tryd.func8, Tryd.ntmps8
  go_upto_region 1 with fail
  rw [HW.out]
  clear HW
  go_upto_region 2 with (first
    | ((with_reducible show wpList _ _ _ (Oper.mk _ (Op.load 33 _) _ _ _ _ :: _) _ _); refine wpList_load_bk rfl 33 _ rfl (w.heap.size + 1) 33 s.A rfl _ HS5.out Tryd.underlying33 rfl size33 ?_)
    | (go_at_call 21; refine HC.out.mono ?_; rintro e w6 ⟨t, rfl, hs6, hv6, hb6⟩; have HT := hdn hs6; have HV := hdn hv6; have HB6 := hdn hb6; have HZ6 : Hid (Bk (w6.alloc (.cells #[.int .i64 0, .slice none 0 0, .slice none 0 0, .slice none 0 0] 33)) w6.heap.size 33 (stA 0 none 0 0 none 0 0 none 0 0)) := hdn (MapKept.heap_alloc w6 _).1; clear hs6 hv6 hb6)
    | ((with_reducible show wpList _ _ _ (Oper.mk none (Op.store 33 _ _) _ _ _ _ :: _) _ _); refine wpList_store_all rfl 33 _ _ rfl w6.heap.size 33 _ t.A rfl rfl HZ6.out size33 rfl (SV.A_one t) ?_; intro w7 h7 g7))
  have H6 : Hid (D6 w w5 w7 g s a w6.heap.size t) := hdn (D6.start HD.out HB6.out HV.out h7.out g7.out)
  clear h7 g7 HC HS5 HV HB6 HZ6
  generalize w6.heap.size = O at H6 ⊢
  have HG7 := hdn H6.out.d5.gr
  have HS7 := hdn H6.out.d5.st
  go_upto_region 4 with (first
    | ((with_reducible show wpList _ _ _ (Oper.mk (some 25) (Op.load 30 _) _ _ _ _ :: _) _ _); refine wpList_load_bk rfl 30 _ rfl w.heap.size 30 g.cs rfl _ HG7.out Tryd.underlying30 rfl size30 ?_)
    | ((with_reducible show wpList _ _ _ (Oper.mk (some 26) (Op.load 33 _) _ _ _ _ :: _) _ _); refine wpList_load_bk rfl 33 _ rfl (w.heap.size + 1) 33 s.A rfl _ HS7.out Tryd.underlying33 rfl size33 ?_)
    | (go_at_call 22; refine (HRI.out w7 H6.out.low).mono ?_; rintro e w8 ⟨rfl, hb8⟩; have H8 := hdn (H6.out.far' hb8); have HG8 := hdn H8.out.d5.gr; have HA8 := hdn H8.out.d5.ac; obtain ⟨c0, c1, c2, c3, c4, c5, c6, c7, c8, c9⟩ := G10.of HG8.out; obtain ⟨a0, a1, a2, a3, a4, a5, a6, a7, a8, a9, a10, a11⟩ := A12f.of HA8.out; clear hb8)
    | (go_at_call 23; refine (HHA.out w8).mono ?_; rintro e w9 ⟨rfl, hb9⟩; have H9 := hdn (H8.out.far' hb9); clear hb9))
  clear c0 c1 c2 c3 c4 c5 c6 c7 c8 c9 a0 a1 a2 a3 a4 a5 a6 a7 a8 a9 a10 a11 HG8 HA8 HRI HHA HG7 HS7 H8
  obtain ⟨_, _, _, _, _, _, _, _, _, c9⟩ := G10.of H9.out.d5.gr
  obtain ⟨_, _, _, s3⟩ := Z33.of H9.out.d5.st
  go_upto_region 5 with (first
    | (go_at_call 24; refine (HLO.out w9 H9.out.low).mono ?_; rintro e w10 ⟨v, N, rfl, hov, hnv, hbv⟩; have HOV := hdn hov; have HNV := hdn hnv; have HBV := hdn hbv; have HZ10 : Hid (Bk (w10.alloc (.cells #[.int .i64 0, .slice none 0 0, .bool false] 59)) w10.heap.size 59 #[.int .i64 0, .slice none 0 0, .bool false]) := hdn (MapKept.heap_alloc w10 _).1; have H1C : Hid ((#[.int .i64 g.F, v, .bool true] : Array Value).all (·.oneCell') = true) := hdn (Kin.Lie.oneA hov); clear hov hnv hbv)
    | ((with_reducible show wpList _ _ _ (Oper.mk none (Op.store 59 _ _) _ _ _ _ :: _) _ _); refine wpList_store_all rfl 59 _ _ rfl w10.heap.size 59 _ #[.int .i64 g.F, v, .bool true] rfl rfl HZ10.out size29 rfl H1C.out ?_; intro w11 h11 g11))
  have H7 : Hid (D7 w w5 w11 g s a O t w10.heap.size v N) := hdn (D7.start H9.out HBV.out HOV.out HNV.out h11.out g11.out)
  clear h11 g11 HOV HNV HBV HZ10 H1C c9 s3
  generalize w10.heap.size = B at H7 ⊢
  simp only [Act.put]
  obtain ⟨a0, a1, a2, a3, a4, a5, a6, a7, a8, a9, a10, a11⟩ := A12f.of H7.out.d6.d5.ac
  obtain ⟨s0, s1, s2, s3⟩ := Z33.of H7.out.d6.d5.st
  have cX := HVX.out w11 H7.out.d6.low
  have cY := HVY.out w11 H7.out.d6.low
  have p1 := cell_regrown a1; have p2 := cell_regrown a2; have p3 := cell_regrown s1
  refine wp_region_quiet_below (by kernel_rfl) (by kernel_rfl) ?_
  repeat (go_big_quiet_step (first | (with_reducible exact cX _ _) | (with_reducible exact cY _ _)))
  refine wpQuiet_nil ?_
  intro _ hw'
  obtain ⟨⟨dz, osz⟩, hw''⟩ := hw'
  subst hw''
  have H12 : Hid (D7 w w5 (grow (redrawn w11 dz) osz) g s a O t B v N) := hdn (H7.out.far' (below_regrown w11 dz osz))
  generalize grow (redrawn w11 dz) osz = w12 at H12 ⊢
  clear p1 p2 p3 cX cY a0 a1 a2 a3 a4 a5 a6 a7 a8 a9 a10 a11 s0 s1 s2 s3 H7 H9 HVX HVY HLO
  obtain ⟨a0, a1, a2, a3, a4, a5, a6, a7, a8, a9, a10, a11⟩ := A12f.of H12.out.d6.d5.ac
  obtain ⟨s0, s1, s2, s3⟩ := Z33.of H12.out.d6.d5.st
  rw [HK.out] at a0
  have HO9 := hdn H12.out.d6.out
  have HR1 := hdn H12.out.d6.d5.r1
  have HR2 := hdn H12.out.d6.d5.r2
  go_wp2_with (first
    | ((with_reducible show wpList _ _ _ (Oper.mk (some 221) (Op.load 33 _) _ _ _ _ :: _) _ _); refine wpList_load_bk rfl 33 _ rfl O 33 (t).A rfl _ HO9.out Tryd.underlying33 rfl size33 ?_)
    | ((with_reducible show wpList _ _ _ (Oper.mk none (Op.store 33 _ _) _ _ _ _ :: _) _ _); refine wpList_store_all rfl 33 _ _ rfl (w.heap.size + 1 + 1 + 1) 33 _ (t).A rfl rfl HR1.out size33 rfl (SV.A_one _) ?_; intro w20 h20 g20; have HR3 := hdn ((Gr.of_grown g20.out).bk HR2.out (by intro h; injection h; omega)))
    | ((with_reducible show wpList _ _ _ (Oper.mk none (Op.store 37 _ _) _ _ _ _ :: _) _ _); refine wpList_store_all rfl 37 _ _ rfl (w.heap.size + 1 + 1 + 1 + 1) 37 _ (evA 0 0 0) rfl rfl HR3.out size37 rfl (evA_one _ _ _) ?_; intro w21 h21 g21))
  have q1 : Bk w21 (w.heap.size + 1 + 1 + 1) 33 (t).A := (Gr.of_grown g21.out).bk h20.out (by intro h; injection h; omega)
  exact bodyPost_ret (results_two Tryd.results8 rfl rfl rfl rfl q1 h21.out) rfl (D6.fin HD.out.sz H12.out.d6 HT.out g20.out g21.out)
theorem do8_1 (g : GR) (s : SV) (a : Acn) (inp : Int) (w : World) (hg : Gok g) (hs : Rt g s) (hl : s.lies w) (hh : hasB g a = true) (hk : a.kind = 1) : Calls Tryd.prog 8 #[.agg g.cs, .agg s.A, .agg a.cs, .int .i64 inp] w (DoP w { s with vs := withL s.vs a.x 0 } (evA 0 0 0)) := by
  obtain ⟨w5, hw5⟩ : ∃ w5, ((((w.alloc (.cells g.cs 30)).alloc (.cells s.A 33)).alloc (.cells a.cs 43)).alloc (.cells (stA 0 none 0 0 none 0 0 none 0 0) 33)).alloc (.cells (evA 0 0 0) 37) = w5 := ⟨_, rfl⟩
  have HW : Hid (((((w.alloc (.cells g.cs 30)).alloc (.cells s.A 33)).alloc (.cells a.cs 43)).alloc (.cells #[.int .i64 0, .slice none 0 0, .slice none 0 0, .slice none 0 0] 33)).alloc (.cells #[.int .i64 0, .int .i64 0, .int .i64 0] 37) = w5) := hdn hw5
  have HD : Hid (D5 w w5 g s a) := hdn (by rw [← hw5]; exact D5.start w g s a)
  have HS5 := hdn HD.out.st
  have HL : Hid (s.lies w5) := hdn (hl.below HD.out.low)
  have HC := hdn (own21_any g.F s w5 HL.out (by have := hs.vl; have := hg.V; omega) (by have := hs.il; have := hg.I; omega) hs.n hs.lens hg.F)
  have HRI := hdn (fun wz (hz : RowKit.Below w5.heap.size w5 wz) => right22_any g s wz hg hs (HL.out.below hz))
  have HHA := hdn (fun wz => has23_any g a wz)
  rw [hh] at HHA
  have HLO : Hid (∀ wz, RowKit.Below w5.heap.size w5 wz → Calls Tryd.prog 24 #[.slice g.fp g.F g.fc, .slice s.cp s.rs.length s.cc] wz fun e w' => ∃ v N, e = .returned (.agg #[.int .i64 g.F, v, .bool true]) ∧ Out g.F w' N v (s.rs.map RC.c) ∧ (∀ b, N b → wz.heap.size ≤ b) ∧ RowKit.Below wz.heap.size wz w') := hdn (fun wz hz => by
    have := refLoad_any g.F g.fc s.cc g.fp s.cp s.rs wz (HL.out.c.below hz (fun x h => RC.lies_below' h hz)) hg.F hs.n
    rw [hs.loaded] at this
    exact this)
  have CV := fun (x : Int) (wz : World) (hz : RowKit.Below w5.heap.size w5 wz) => qb_call (wB := wz) (F := 25) (ar := #[.slice s.vp s.vs.length s.vc, .int .i64 x]) (v := .int .i64 (atL s.vs x)) (fun wr hb' => (at25_any s.vp s.vs s.vc x wr ((HL.out.below hz).v.below hb')).mono (fun e w' he => ⟨he.1, same_below he.2⟩))
  have HVX := hdn (CV a.x)
  have HVY := hdn (CV a.y)
  have HWV : Hid (∀ x wz, RowKit.Below w5.heap.size w5 wz → Calls Tryd.prog 26 #[.slice s.vp s.vs.length s.vc, .int .i64 a.x, .int .i64 x] wz (WithP wz (withL s.vs a.x x))) := hdn (fun x wz hz => with_any s.vp s.vs s.vc a.x x wz (HL.out.v.below hz) (by have := hs.vl; have := hg.V; omega))
  have HWI : Hid (∀ x wz, RowKit.Below w5.heap.size w5 wz → Calls Tryd.prog 26 #[.slice s.ip s.is.length s.ic, .int .i64 a.x, .int .i64 x] wz (WithP wz (withL s.is a.x x))) := hdn (fun x wz hz => with_any s.ip s.is s.ic a.x x wz (HL.out.i.below hz) (by have := hs.il; have := hg.I; omega))
  have HK := hdn hk
  clear CV hk
  clear hw5 hl hs hg hh
  go_enter Tryd.func8, Tryd.ntmps8
  go_upto_region 1 with fail
  rw [HW.out]
  clear HW
  go_upto_region 2 with (first
    | ((with_reducible show wpList _ _ _ (Oper.mk _ (Op.load 33 _) _ _ _ _ :: _) _ _); refine wpList_load_bk rfl 33 _ rfl (w.heap.size + 1) 33 s.A rfl _ HS5.out Tryd.underlying33 rfl size33 ?_)
    | (go_at_call 21; refine HC.out.mono ?_; rintro e w6 ⟨t, rfl, hs6, hv6, hb6⟩; have HT := hdn hs6; have HV := hdn hv6; have HB6 := hdn hb6; have HZ6 : Hid (Bk (w6.alloc (.cells #[.int .i64 0, .slice none 0 0, .slice none 0 0, .slice none 0 0] 33)) w6.heap.size 33 (stA 0 none 0 0 none 0 0 none 0 0)) := hdn (MapKept.heap_alloc w6 _).1; clear hs6 hv6 hb6)
    | ((with_reducible show wpList _ _ _ (Oper.mk none (Op.store 33 _ _) _ _ _ _ :: _) _ _); refine wpList_store_all rfl 33 _ _ rfl w6.heap.size 33 _ t.A rfl rfl HZ6.out size33 rfl (SV.A_one t) ?_; intro w7 h7 g7))
  have H6 : Hid (D6 w w5 w7 g s a w6.heap.size t) := hdn (D6.start HD.out HB6.out HV.out h7.out g7.out)
  clear h7 g7 HC HS5 HV HB6 HZ6
  generalize w6.heap.size = O at H6 ⊢
  have HG7 := hdn H6.out.d5.gr
  have HS7 := hdn H6.out.d5.st
  go_upto_region 4 with (first
    | ((with_reducible show wpList _ _ _ (Oper.mk (some 25) (Op.load 30 _) _ _ _ _ :: _) _ _); refine wpList_load_bk rfl 30 _ rfl w.heap.size 30 g.cs rfl _ HG7.out Tryd.underlying30 rfl size30 ?_)
    | ((with_reducible show wpList _ _ _ (Oper.mk (some 26) (Op.load 33 _) _ _ _ _ :: _) _ _); refine wpList_load_bk rfl 33 _ rfl (w.heap.size + 1) 33 s.A rfl _ HS7.out Tryd.underlying33 rfl size33 ?_)
    | (go_at_call 22; refine (HRI.out w7 H6.out.low).mono ?_; rintro e w8 ⟨rfl, hb8⟩; have H8 := hdn (H6.out.far' hb8); have HG8 := hdn H8.out.d5.gr; have HA8 := hdn H8.out.d5.ac; obtain ⟨c0, c1, c2, c3, c4, c5, c6, c7, c8, c9⟩ := G10.of HG8.out; obtain ⟨a0, a1, a2, a3, a4, a5, a6, a7, a8, a9, a10, a11⟩ := A12f.of HA8.out; clear hb8)
    | (go_at_call 23; refine (HHA.out w8).mono ?_; rintro e w9 ⟨rfl, hb9⟩; have H9 := hdn (H8.out.far' hb9); clear hb9))
  clear c0 c1 c2 c3 c4 c5 c6 c7 c8 c9 a0 a1 a2 a3 a4 a5 a6 a7 a8 a9 a10 a11 HG8 HA8 HRI HHA HG7 HS7 H8
  obtain ⟨_, _, _, _, _, _, _, _, _, c9⟩ := G10.of H9.out.d5.gr
  obtain ⟨_, _, _, s3⟩ := Z33.of H9.out.d5.st
  go_upto_region 5 with (first
    | (go_at_call 24; refine (HLO.out w9 H9.out.low).mono ?_; rintro e w10 ⟨v, N, rfl, hov, hnv, hbv⟩; have HOV := hdn hov; have HNV := hdn hnv; have HBV := hdn hbv; have HZ10 : Hid (Bk (w10.alloc (.cells #[.int .i64 0, .slice none 0 0, .bool false] 59)) w10.heap.size 59 #[.int .i64 0, .slice none 0 0, .bool false]) := hdn (MapKept.heap_alloc w10 _).1; have H1C : Hid ((#[.int .i64 g.F, v, .bool true] : Array Value).all (·.oneCell') = true) := hdn (Kin.Lie.oneA hov); clear hov hnv hbv)
    | ((with_reducible show wpList _ _ _ (Oper.mk none (Op.store 59 _ _) _ _ _ _ :: _) _ _); refine wpList_store_all rfl 59 _ _ rfl w10.heap.size 59 _ #[.int .i64 g.F, v, .bool true] rfl rfl HZ10.out size29 rfl H1C.out ?_; intro w11 h11 g11))
  have H7 : Hid (D7 w w5 w11 g s a O t w10.heap.size v N) := hdn (D7.start H9.out HBV.out HOV.out HNV.out h11.out g11.out)
  clear h11 g11 HOV HNV HBV HZ10 H1C c9 s3
  generalize w10.heap.size = B at H7 ⊢
  simp only [Act.put]
  obtain ⟨a0, a1, a2, a3, a4, a5, a6, a7, a8, a9, a10, a11⟩ := A12f.of H7.out.d6.d5.ac
  obtain ⟨s0, s1, s2, s3⟩ := Z33.of H7.out.d6.d5.st
  have cX := HVX.out w11 H7.out.d6.low
  have cY := HVY.out w11 H7.out.d6.low
  have p1 := cell_regrown a1; have p2 := cell_regrown a2; have p3 := cell_regrown s1
  refine wp_region_quiet_below (by kernel_rfl) (by kernel_rfl) ?_
  repeat (go_big_quiet_step (first | (with_reducible exact cX _ _) | (with_reducible exact cY _ _)))
  refine wpQuiet_nil ?_
  intro _ hw'
  obtain ⟨⟨dz, osz⟩, hw''⟩ := hw'
  subst hw''
  have H12 : Hid (D7 w w5 (grow (redrawn w11 dz) osz) g s a O t B v N) := hdn (H7.out.far' (below_regrown w11 dz osz))
  generalize grow (redrawn w11 dz) osz = w12 at H12 ⊢
  clear p1 p2 p3 cX cY a0 a1 a2 a3 a4 a5 a6 a7 a8 a9 a10 a11 s0 s1 s2 s3 H7 H9 HVX HVY HLO
  obtain ⟨a0, a1, a2, a3, a4, a5, a6, a7, a8, a9, a10, a11⟩ := A12f.of H12.out.d6.d5.ac
  obtain ⟨s0, s1, s2, s3⟩ := Z33.of H12.out.d6.d5.st
  rw [HK.out] at a0
  go_upto_region 46 with (go_at_call 26; refine (HWV.out (0) w12 H12.out.d6.low).mono ?_; rintro e w13 ⟨g1, cp1, rfl, hnw⟩; have HNW := hdn hnw; have H13 := hdn (H12.out.d6.far' hnw.below); have f13 := H13.out.out.frozen 1; have g13 : w13.cell? ⟨O, 1, none⟩ = some (.slice t.vp t.vs.length t.vc) := H13.out.out.cell 1; clear hnw)
  have H14 := hdn (H13.out.putv (c := cp1) HNW.out HD.out.sz H12.out.d6.low.size H12.out.d6.out.lt)
  clear f13 g13
  generalize w13.setCell ⟨O, 1, none⟩ (.slice (some ⟨g1, 0, none⟩) (withL s.vs a.x (0)).length cp1) = w14 at H14 ⊢
  have HO9 := hdn H14.out.out
  have HR1 := hdn H14.out.d5.r1
  have HR2 := hdn H14.out.d5.r2
  go_wp2_with (first
    | ((with_reducible show wpList _ _ _ (Oper.mk (some 221) (Op.load 33 _) _ _ _ _ :: _) _ _); refine wpList_load_bk rfl 33 _ rfl O 33 ({ t with vp := some ⟨g1, 0, none⟩, vs := withL s.vs a.x (0), vc := cp1 } : SV).A rfl _ HO9.out Tryd.underlying33 rfl size33 ?_)
    | ((with_reducible show wpList _ _ _ (Oper.mk none (Op.store 33 _ _) _ _ _ _ :: _) _ _); refine wpList_store_all rfl 33 _ _ rfl (w.heap.size + 1 + 1 + 1) 33 _ ({ t with vp := some ⟨g1, 0, none⟩, vs := withL s.vs a.x (0), vc := cp1 } : SV).A rfl rfl HR1.out size33 rfl (SV.A_one _) ?_; intro w20 h20 g20; have HR3 := hdn ((Gr.of_grown g20.out).bk HR2.out (by intro h; injection h; omega)))
    | ((with_reducible show wpList _ _ _ (Oper.mk none (Op.store 37 _ _) _ _ _ _ :: _) _ _); refine wpList_store_all rfl 37 _ _ rfl (w.heap.size + 1 + 1 + 1 + 1) 37 _ (evA 0 0 0) rfl rfl HR3.out size37 rfl (evA_one _ _ _) ?_; intro w21 h21 g21))
  have q1 : Bk w21 (w.heap.size + 1 + 1 + 1) 33 ({ t with vp := some ⟨g1, 0, none⟩, vs := withL s.vs a.x (0), vc := cp1 } : SV).A := (Gr.of_grown g21.out).bk h20.out (by intro h; injection h; omega)
  exact bodyPost_ret (results_two Tryd.results8 rfl rfl rfl rfl q1 h21.out) rfl (D6.fin HD.out.sz H14.out ⟨HT.out.pt, rfl, HT.out.is, HT.out.cs⟩ g20.out g21.out)
theorem do8_2 (g : GR) (s : SV) (a : Acn) (inp : Int) (w : World) (hg : Gok g) (hs : Rt g s) (hl : s.lies w) (hh : hasB g a = true) (hk : a.kind = 2) : Calls Tryd.prog 8 #[.agg g.cs, .agg s.A, .agg a.cs, .int .i64 inp] w (DoP w { s with vs := withL s.vs a.x (atL s.vs a.y) } (evA 0 0 0)) := by
  obtain ⟨w5, hw5⟩ : ∃ w5, ((((w.alloc (.cells g.cs 30)).alloc (.cells s.A 33)).alloc (.cells a.cs 43)).alloc (.cells (stA 0 none 0 0 none 0 0 none 0 0) 33)).alloc (.cells (evA 0 0 0) 37) = w5 := ⟨_, rfl⟩
  have HW : Hid (((((w.alloc (.cells g.cs 30)).alloc (.cells s.A 33)).alloc (.cells a.cs 43)).alloc (.cells #[.int .i64 0, .slice none 0 0, .slice none 0 0, .slice none 0 0] 33)).alloc (.cells #[.int .i64 0, .int .i64 0, .int .i64 0] 37) = w5) := hdn hw5
  have HD : Hid (D5 w w5 g s a) := hdn (by rw [← hw5]; exact D5.start w g s a)
  have HS5 := hdn HD.out.st
  have HL : Hid (s.lies w5) := hdn (hl.below HD.out.low)
  have HC := hdn (own21_any g.F s w5 HL.out (by have := hs.vl; have := hg.V; omega) (by have := hs.il; have := hg.I; omega) hs.n hs.lens hg.F)
  have HRI := hdn (fun wz (hz : RowKit.Below w5.heap.size w5 wz) => right22_any g s wz hg hs (HL.out.below hz))
  have HHA := hdn (fun wz => has23_any g a wz)
  rw [hh] at HHA
  have HLO : Hid (∀ wz, RowKit.Below w5.heap.size w5 wz → Calls Tryd.prog 24 #[.slice g.fp g.F g.fc, .slice s.cp s.rs.length s.cc] wz fun e w' => ∃ v N, e = .returned (.agg #[.int .i64 g.F, v, .bool true]) ∧ Out g.F w' N v (s.rs.map RC.c) ∧ (∀ b, N b → wz.heap.size ≤ b) ∧ RowKit.Below wz.heap.size wz w') := hdn (fun wz hz => by
    have := refLoad_any g.F g.fc s.cc g.fp s.cp s.rs wz (HL.out.c.below hz (fun x h => RC.lies_below' h hz)) hg.F hs.n
    rw [hs.loaded] at this
    exact this)
  have CV := fun (x : Int) (wz : World) (hz : RowKit.Below w5.heap.size w5 wz) => qb_call (wB := wz) (F := 25) (ar := #[.slice s.vp s.vs.length s.vc, .int .i64 x]) (v := .int .i64 (atL s.vs x)) (fun wr hb' => (at25_any s.vp s.vs s.vc x wr ((HL.out.below hz).v.below hb')).mono (fun e w' he => ⟨he.1, same_below he.2⟩))
  have HVX := hdn (CV a.x)
  have HVY := hdn (CV a.y)
  have HWV : Hid (∀ x wz, RowKit.Below w5.heap.size w5 wz → Calls Tryd.prog 26 #[.slice s.vp s.vs.length s.vc, .int .i64 a.x, .int .i64 x] wz (WithP wz (withL s.vs a.x x))) := hdn (fun x wz hz => with_any s.vp s.vs s.vc a.x x wz (HL.out.v.below hz) (by have := hs.vl; have := hg.V; omega))
  have HWI : Hid (∀ x wz, RowKit.Below w5.heap.size w5 wz → Calls Tryd.prog 26 #[.slice s.ip s.is.length s.ic, .int .i64 a.x, .int .i64 x] wz (WithP wz (withL s.is a.x x))) := hdn (fun x wz hz => with_any s.ip s.is s.ic a.x x wz (HL.out.i.below hz) (by have := hs.il; have := hg.I; omega))
  have HK := hdn hk
  clear CV hk
  clear hw5 hl hs hg hh
  go_enter Tryd.func8, Tryd.ntmps8
  go_upto_region 1 with fail
  rw [HW.out]
  clear HW
  go_upto_region 2 with (first
    | ((with_reducible show wpList _ _ _ (Oper.mk _ (Op.load 33 _) _ _ _ _ :: _) _ _); refine wpList_load_bk rfl 33 _ rfl (w.heap.size + 1) 33 s.A rfl _ HS5.out Tryd.underlying33 rfl size33 ?_)
    | (go_at_call 21; refine HC.out.mono ?_; rintro e w6 ⟨t, rfl, hs6, hv6, hb6⟩; have HT := hdn hs6; have HV := hdn hv6; have HB6 := hdn hb6; have HZ6 : Hid (Bk (w6.alloc (.cells #[.int .i64 0, .slice none 0 0, .slice none 0 0, .slice none 0 0] 33)) w6.heap.size 33 (stA 0 none 0 0 none 0 0 none 0 0)) := hdn (MapKept.heap_alloc w6 _).1; clear hs6 hv6 hb6)
    | ((with_reducible show wpList _ _ _ (Oper.mk none (Op.store 33 _ _) _ _ _ _ :: _) _ _); refine wpList_store_all rfl 33 _ _ rfl w6.heap.size 33 _ t.A rfl rfl HZ6.out size33 rfl (SV.A_one t) ?_; intro w7 h7 g7))
  have H6 : Hid (D6 w w5 w7 g s a w6.heap.size t) := hdn (D6.start HD.out HB6.out HV.out h7.out g7.out)
  clear h7 g7 HC HS5 HV HB6 HZ6
  generalize w6.heap.size = O at H6 ⊢
  have HG7 := hdn H6.out.d5.gr
  have HS7 := hdn H6.out.d5.st
  go_upto_region 4 with (first
    | ((with_reducible show wpList _ _ _ (Oper.mk (some 25) (Op.load 30 _) _ _ _ _ :: _) _ _); refine wpList_load_bk rfl 30 _ rfl w.heap.size 30 g.cs rfl _ HG7.out Tryd.underlying30 rfl size30 ?_)
    | ((with_reducible show wpList _ _ _ (Oper.mk (some 26) (Op.load 33 _) _ _ _ _ :: _) _ _); refine wpList_load_bk rfl 33 _ rfl (w.heap.size + 1) 33 s.A rfl _ HS7.out Tryd.underlying33 rfl size33 ?_)
    | (go_at_call 22; refine (HRI.out w7 H6.out.low).mono ?_; rintro e w8 ⟨rfl, hb8⟩; have H8 := hdn (H6.out.far' hb8); have HG8 := hdn H8.out.d5.gr; have HA8 := hdn H8.out.d5.ac; obtain ⟨c0, c1, c2, c3, c4, c5, c6, c7, c8, c9⟩ := G10.of HG8.out; obtain ⟨a0, a1, a2, a3, a4, a5, a6, a7, a8, a9, a10, a11⟩ := A12f.of HA8.out; clear hb8)
    | (go_at_call 23; refine (HHA.out w8).mono ?_; rintro e w9 ⟨rfl, hb9⟩; have H9 := hdn (H8.out.far' hb9); clear hb9))
  clear c0 c1 c2 c3 c4 c5 c6 c7 c8 c9 a0 a1 a2 a3 a4 a5 a6 a7 a8 a9 a10 a11 HG8 HA8 HRI HHA HG7 HS7 H8
  obtain ⟨_, _, _, _, _, _, _, _, _, c9⟩ := G10.of H9.out.d5.gr
  obtain ⟨_, _, _, s3⟩ := Z33.of H9.out.d5.st
  go_upto_region 5 with (first
    | (go_at_call 24; refine (HLO.out w9 H9.out.low).mono ?_; rintro e w10 ⟨v, N, rfl, hov, hnv, hbv⟩; have HOV := hdn hov; have HNV := hdn hnv; have HBV := hdn hbv; have HZ10 : Hid (Bk (w10.alloc (.cells #[.int .i64 0, .slice none 0 0, .bool false] 59)) w10.heap.size 59 #[.int .i64 0, .slice none 0 0, .bool false]) := hdn (MapKept.heap_alloc w10 _).1; have H1C : Hid ((#[.int .i64 g.F, v, .bool true] : Array Value).all (·.oneCell') = true) := hdn (Kin.Lie.oneA hov); clear hov hnv hbv)
    | ((with_reducible show wpList _ _ _ (Oper.mk none (Op.store 59 _ _) _ _ _ _ :: _) _ _); refine wpList_store_all rfl 59 _ _ rfl w10.heap.size 59 _ #[.int .i64 g.F, v, .bool true] rfl rfl HZ10.out size29 rfl H1C.out ?_; intro w11 h11 g11))
  have H7 : Hid (D7 w w5 w11 g s a O t w10.heap.size v N) := hdn (D7.start H9.out HBV.out HOV.out HNV.out h11.out g11.out)
  clear h11 g11 HOV HNV HBV HZ10 H1C c9 s3
  generalize w10.heap.size = B at H7 ⊢
  simp only [Act.put]
  obtain ⟨a0, a1, a2, a3, a4, a5, a6, a7, a8, a9, a10, a11⟩ := A12f.of H7.out.d6.d5.ac
  obtain ⟨s0, s1, s2, s3⟩ := Z33.of H7.out.d6.d5.st
  have cX := HVX.out w11 H7.out.d6.low
  have cY := HVY.out w11 H7.out.d6.low
  have p1 := cell_regrown a1; have p2 := cell_regrown a2; have p3 := cell_regrown s1
  refine wp_region_quiet_below (by kernel_rfl) (by kernel_rfl) ?_
  repeat (go_big_quiet_step (first | (with_reducible exact cX _ _) | (with_reducible exact cY _ _)))
  refine wpQuiet_nil ?_
  intro _ hw'
  obtain ⟨⟨dz, osz⟩, hw''⟩ := hw'
  subst hw''
  have H12 : Hid (D7 w w5 (grow (redrawn w11 dz) osz) g s a O t B v N) := hdn (H7.out.far' (below_regrown w11 dz osz))
  generalize grow (redrawn w11 dz) osz = w12 at H12 ⊢
  clear p1 p2 p3 cX cY a0 a1 a2 a3 a4 a5 a6 a7 a8 a9 a10 a11 s0 s1 s2 s3 H7 H9 HVX HVY HLO
  obtain ⟨a0, a1, a2, a3, a4, a5, a6, a7, a8, a9, a10, a11⟩ := A12f.of H12.out.d6.d5.ac
  obtain ⟨s0, s1, s2, s3⟩ := Z33.of H12.out.d6.d5.st
  rw [HK.out] at a0
  go_upto_region 46 with (go_at_call 26; refine (HWV.out (atL s.vs a.y) w12 H12.out.d6.low).mono ?_; rintro e w13 ⟨g1, cp1, rfl, hnw⟩; have HNW := hdn hnw; have H13 := hdn (H12.out.d6.far' hnw.below); have f13 := H13.out.out.frozen 1; have g13 : w13.cell? ⟨O, 1, none⟩ = some (.slice t.vp t.vs.length t.vc) := H13.out.out.cell 1; clear hnw)
  have H14 := hdn (H13.out.putv (c := cp1) HNW.out HD.out.sz H12.out.d6.low.size H12.out.d6.out.lt)
  clear f13 g13
  generalize w13.setCell ⟨O, 1, none⟩ (.slice (some ⟨g1, 0, none⟩) (withL s.vs a.x (atL s.vs a.y)).length cp1) = w14 at H14 ⊢
  have HO9 := hdn H14.out.out
  have HR1 := hdn H14.out.d5.r1
  have HR2 := hdn H14.out.d5.r2
  go_wp2_with (first
    | ((with_reducible show wpList _ _ _ (Oper.mk (some 221) (Op.load 33 _) _ _ _ _ :: _) _ _); refine wpList_load_bk rfl 33 _ rfl O 33 ({ t with vp := some ⟨g1, 0, none⟩, vs := withL s.vs a.x (atL s.vs a.y), vc := cp1 } : SV).A rfl _ HO9.out Tryd.underlying33 rfl size33 ?_)
    | ((with_reducible show wpList _ _ _ (Oper.mk none (Op.store 33 _ _) _ _ _ _ :: _) _ _); refine wpList_store_all rfl 33 _ _ rfl (w.heap.size + 1 + 1 + 1) 33 _ ({ t with vp := some ⟨g1, 0, none⟩, vs := withL s.vs a.x (atL s.vs a.y), vc := cp1 } : SV).A rfl rfl HR1.out size33 rfl (SV.A_one _) ?_; intro w20 h20 g20; have HR3 := hdn ((Gr.of_grown g20.out).bk HR2.out (by intro h; injection h; omega)))
    | ((with_reducible show wpList _ _ _ (Oper.mk none (Op.store 37 _ _) _ _ _ _ :: _) _ _); refine wpList_store_all rfl 37 _ _ rfl (w.heap.size + 1 + 1 + 1 + 1) 37 _ (evA 0 0 0) rfl rfl HR3.out size37 rfl (evA_one _ _ _) ?_; intro w21 h21 g21))
  have q1 : Bk w21 (w.heap.size + 1 + 1 + 1) 33 ({ t with vp := some ⟨g1, 0, none⟩, vs := withL s.vs a.x (atL s.vs a.y), vc := cp1 } : SV).A := (Gr.of_grown g21.out).bk h20.out (by intro h; injection h; omega)
  exact bodyPost_ret (results_two Tryd.results8 rfl rfl rfl rfl q1 h21.out) rfl (D6.fin HD.out.sz H14.out ⟨HT.out.pt, rfl, HT.out.is, HT.out.cs⟩ g20.out g21.out)
theorem do8_10 (g : GR) (s : SV) (a : Acn) (inp : Int) (w : World) (hg : Gok g) (hs : Rt g s) (hl : s.lies w) (hh : hasB g a = true) (hk : a.kind = 10) : Calls Tryd.prog 8 #[.agg g.cs, .agg s.A, .agg a.cs, .int .i64 inp] w (DoP w { s with is := withL s.is a.x inp } (evA 0 0 0)) := by
  obtain ⟨w5, hw5⟩ : ∃ w5, ((((w.alloc (.cells g.cs 30)).alloc (.cells s.A 33)).alloc (.cells a.cs 43)).alloc (.cells (stA 0 none 0 0 none 0 0 none 0 0) 33)).alloc (.cells (evA 0 0 0) 37) = w5 := ⟨_, rfl⟩
  have HW : Hid (((((w.alloc (.cells g.cs 30)).alloc (.cells s.A 33)).alloc (.cells a.cs 43)).alloc (.cells #[.int .i64 0, .slice none 0 0, .slice none 0 0, .slice none 0 0] 33)).alloc (.cells #[.int .i64 0, .int .i64 0, .int .i64 0] 37) = w5) := hdn hw5
  have HD : Hid (D5 w w5 g s a) := hdn (by rw [← hw5]; exact D5.start w g s a)
  have HS5 := hdn HD.out.st
  have HL : Hid (s.lies w5) := hdn (hl.below HD.out.low)
  have HC := hdn (own21_any g.F s w5 HL.out (by have := hs.vl; have := hg.V; omega) (by have := hs.il; have := hg.I; omega) hs.n hs.lens hg.F)
  have HRI := hdn (fun wz (hz : RowKit.Below w5.heap.size w5 wz) => right22_any g s wz hg hs (HL.out.below hz))
  have HHA := hdn (fun wz => has23_any g a wz)
  rw [hh] at HHA
  have HLO : Hid (∀ wz, RowKit.Below w5.heap.size w5 wz → Calls Tryd.prog 24 #[.slice g.fp g.F g.fc, .slice s.cp s.rs.length s.cc] wz fun e w' => ∃ v N, e = .returned (.agg #[.int .i64 g.F, v, .bool true]) ∧ Out g.F w' N v (s.rs.map RC.c) ∧ (∀ b, N b → wz.heap.size ≤ b) ∧ RowKit.Below wz.heap.size wz w') := hdn (fun wz hz => by
    have := refLoad_any g.F g.fc s.cc g.fp s.cp s.rs wz (HL.out.c.below hz (fun x h => RC.lies_below' h hz)) hg.F hs.n
    rw [hs.loaded] at this
    exact this)
  have CV := fun (x : Int) (wz : World) (hz : RowKit.Below w5.heap.size w5 wz) => qb_call (wB := wz) (F := 25) (ar := #[.slice s.vp s.vs.length s.vc, .int .i64 x]) (v := .int .i64 (atL s.vs x)) (fun wr hb' => (at25_any s.vp s.vs s.vc x wr ((HL.out.below hz).v.below hb')).mono (fun e w' he => ⟨he.1, same_below he.2⟩))
  have HVX := hdn (CV a.x)
  have HVY := hdn (CV a.y)
  have HWV : Hid (∀ x wz, RowKit.Below w5.heap.size w5 wz → Calls Tryd.prog 26 #[.slice s.vp s.vs.length s.vc, .int .i64 a.x, .int .i64 x] wz (WithP wz (withL s.vs a.x x))) := hdn (fun x wz hz => with_any s.vp s.vs s.vc a.x x wz (HL.out.v.below hz) (by have := hs.vl; have := hg.V; omega))
  have HWI : Hid (∀ x wz, RowKit.Below w5.heap.size w5 wz → Calls Tryd.prog 26 #[.slice s.ip s.is.length s.ic, .int .i64 a.x, .int .i64 x] wz (WithP wz (withL s.is a.x x))) := hdn (fun x wz hz => with_any s.ip s.is s.ic a.x x wz (HL.out.i.below hz) (by have := hs.il; have := hg.I; omega))
  have HK := hdn hk
  clear CV hk
  clear hw5 hl hs hg hh
  go_enter Tryd.func8, Tryd.ntmps8
  go_upto_region 1 with fail
  rw [HW.out]
  clear HW
  go_upto_region 2 with (first
    | ((with_reducible show wpList _ _ _ (Oper.mk _ (Op.load 33 _) _ _ _ _ :: _) _ _); refine wpList_load_bk rfl 33 _ rfl (w.heap.size + 1) 33 s.A rfl _ HS5.out Tryd.underlying33 rfl size33 ?_)
    | (go_at_call 21; refine HC.out.mono ?_; rintro e w6 ⟨t, rfl, hs6, hv6, hb6⟩; have HT := hdn hs6; have HV := hdn hv6; have HB6 := hdn hb6; have HZ6 : Hid (Bk (w6.alloc (.cells #[.int .i64 0, .slice none 0 0, .slice none 0 0, .slice none 0 0] 33)) w6.heap.size 33 (stA 0 none 0 0 none 0 0 none 0 0)) := hdn (MapKept.heap_alloc w6 _).1; clear hs6 hv6 hb6)
    | ((with_reducible show wpList _ _ _ (Oper.mk none (Op.store 33 _ _) _ _ _ _ :: _) _ _); refine wpList_store_all rfl 33 _ _ rfl w6.heap.size 33 _ t.A rfl rfl HZ6.out size33 rfl (SV.A_one t) ?_; intro w7 h7 g7))
  have H6 : Hid (D6 w w5 w7 g s a w6.heap.size t) := hdn (D6.start HD.out HB6.out HV.out h7.out g7.out)
  clear h7 g7 HC HS5 HV HB6 HZ6
  generalize w6.heap.size = O at H6 ⊢
  have HG7 := hdn H6.out.d5.gr
  have HS7 := hdn H6.out.d5.st
  go_upto_region 4 with (first
    | ((with_reducible show wpList _ _ _ (Oper.mk (some 25) (Op.load 30 _) _ _ _ _ :: _) _ _); refine wpList_load_bk rfl 30 _ rfl w.heap.size 30 g.cs rfl _ HG7.out Tryd.underlying30 rfl size30 ?_)
    | ((with_reducible show wpList _ _ _ (Oper.mk (some 26) (Op.load 33 _) _ _ _ _ :: _) _ _); refine wpList_load_bk rfl 33 _ rfl (w.heap.size + 1) 33 s.A rfl _ HS7.out Tryd.underlying33 rfl size33 ?_)
    | (go_at_call 22; refine (HRI.out w7 H6.out.low).mono ?_; rintro e w8 ⟨rfl, hb8⟩; have H8 := hdn (H6.out.far' hb8); have HG8 := hdn H8.out.d5.gr; have HA8 := hdn H8.out.d5.ac; obtain ⟨c0, c1, c2, c3, c4, c5, c6, c7, c8, c9⟩ := G10.of HG8.out; obtain ⟨a0, a1, a2, a3, a4, a5, a6, a7, a8, a9, a10, a11⟩ := A12f.of HA8.out; clear hb8)
    | (go_at_call 23; refine (HHA.out w8).mono ?_; rintro e w9 ⟨rfl, hb9⟩; have H9 := hdn (H8.out.far' hb9); clear hb9))
  clear c0 c1 c2 c3 c4 c5 c6 c7 c8 c9 a0 a1 a2 a3 a4 a5 a6 a7 a8 a9 a10 a11 HG8 HA8 HRI HHA HG7 HS7 H8
  obtain ⟨_, _, _, _, _, _, _, _, _, c9⟩ := G10.of H9.out.d5.gr
  obtain ⟨_, _, _, s3⟩ := Z33.of H9.out.d5.st
  go_upto_region 5 with (first
    | (go_at_call 24; refine (HLO.out w9 H9.out.low).mono ?_; rintro e w10 ⟨v, N, rfl, hov, hnv, hbv⟩; have HOV := hdn hov; have HNV := hdn hnv; have HBV := hdn hbv; have HZ10 : Hid (Bk (w10.alloc (.cells #[.int .i64 0, .slice none 0 0, .bool false] 59)) w10.heap.size 59 #[.int .i64 0, .slice none 0 0, .bool false]) := hdn (MapKept.heap_alloc w10 _).1; have H1C : Hid ((#[.int .i64 g.F, v, .bool true] : Array Value).all (·.oneCell') = true) := hdn (Kin.Lie.oneA hov); clear hov hnv hbv)
    | ((with_reducible show wpList _ _ _ (Oper.mk none (Op.store 59 _ _) _ _ _ _ :: _) _ _); refine wpList_store_all rfl 59 _ _ rfl w10.heap.size 59 _ #[.int .i64 g.F, v, .bool true] rfl rfl HZ10.out size29 rfl H1C.out ?_; intro w11 h11 g11))
  have H7 : Hid (D7 w w5 w11 g s a O t w10.heap.size v N) := hdn (D7.start H9.out HBV.out HOV.out HNV.out h11.out g11.out)
  clear h11 g11 HOV HNV HBV HZ10 H1C c9 s3
  generalize w10.heap.size = B at H7 ⊢
  simp only [Act.put]
  obtain ⟨a0, a1, a2, a3, a4, a5, a6, a7, a8, a9, a10, a11⟩ := A12f.of H7.out.d6.d5.ac
  obtain ⟨s0, s1, s2, s3⟩ := Z33.of H7.out.d6.d5.st
  have cX := HVX.out w11 H7.out.d6.low
  have cY := HVY.out w11 H7.out.d6.low
  have p1 := cell_regrown a1; have p2 := cell_regrown a2; have p3 := cell_regrown s1
  refine wp_region_quiet_below (by kernel_rfl) (by kernel_rfl) ?_
  repeat (go_big_quiet_step (first | (with_reducible exact cX _ _) | (with_reducible exact cY _ _)))
  refine wpQuiet_nil ?_
  intro _ hw'
  obtain ⟨⟨dz, osz⟩, hw''⟩ := hw'
  subst hw''
  have H12 : Hid (D7 w w5 (grow (redrawn w11 dz) osz) g s a O t B v N) := hdn (H7.out.far' (below_regrown w11 dz osz))
  generalize grow (redrawn w11 dz) osz = w12 at H12 ⊢
  clear p1 p2 p3 cX cY a0 a1 a2 a3 a4 a5 a6 a7 a8 a9 a10 a11 s0 s1 s2 s3 H7 H9 HVX HVY HLO
  obtain ⟨a0, a1, a2, a3, a4, a5, a6, a7, a8, a9, a10, a11⟩ := A12f.of H12.out.d6.d5.ac
  obtain ⟨s0, s1, s2, s3⟩ := Z33.of H12.out.d6.d5.st
  rw [HK.out] at a0
  go_upto_region 46 with (go_at_call 26; refine (HWI.out (inp) w12 H12.out.d6.low).mono ?_; rintro e w13 ⟨g1, cp1, rfl, hnw⟩; have HNW := hdn hnw; have H13 := hdn (H12.out.d6.far' hnw.below); have f13 := H13.out.out.frozen 2; have g13 : w13.cell? ⟨O, 2, none⟩ = some (.slice t.ip t.is.length t.ic) := H13.out.out.cell 2; clear hnw)
  have H14 := hdn (H13.out.puti (c := cp1) HNW.out HD.out.sz H12.out.d6.low.size H12.out.d6.out.lt)
  clear f13 g13
  generalize w13.setCell ⟨O, 2, none⟩ (.slice (some ⟨g1, 0, none⟩) (withL s.is a.x (inp)).length cp1) = w14 at H14 ⊢
  have HO9 := hdn H14.out.out
  have HR1 := hdn H14.out.d5.r1
  have HR2 := hdn H14.out.d5.r2
  go_wp2_with (first
    | ((with_reducible show wpList _ _ _ (Oper.mk (some 221) (Op.load 33 _) _ _ _ _ :: _) _ _); refine wpList_load_bk rfl 33 _ rfl O 33 ({ t with ip := some ⟨g1, 0, none⟩, is := withL s.is a.x (inp), ic := cp1 } : SV).A rfl _ HO9.out Tryd.underlying33 rfl size33 ?_)
    | ((with_reducible show wpList _ _ _ (Oper.mk none (Op.store 33 _ _) _ _ _ _ :: _) _ _); refine wpList_store_all rfl 33 _ _ rfl (w.heap.size + 1 + 1 + 1) 33 _ ({ t with ip := some ⟨g1, 0, none⟩, is := withL s.is a.x (inp), ic := cp1 } : SV).A rfl rfl HR1.out size33 rfl (SV.A_one _) ?_; intro w20 h20 g20; have HR3 := hdn ((Gr.of_grown g20.out).bk HR2.out (by intro h; injection h; omega)))
    | ((with_reducible show wpList _ _ _ (Oper.mk none (Op.store 37 _ _) _ _ _ _ :: _) _ _); refine wpList_store_all rfl 37 _ _ rfl (w.heap.size + 1 + 1 + 1 + 1) 37 _ (evA 0 0 0) rfl rfl HR3.out size37 rfl (evA_one _ _ _) ?_; intro w21 h21 g21))
  have q1 : Bk w21 (w.heap.size + 1 + 1 + 1) 33 ({ t with ip := some ⟨g1, 0, none⟩, is := withL s.is a.x (inp), ic := cp1 } : SV).A := (Gr.of_grown g21.out).bk h20.out (by intro h; injection h; omega)
  exact bodyPost_ret (results_two Tryd.results8 rfl rfl rfl rfl q1 h21.out) rfl (D6.fin HD.out.sz H14.out ⟨HT.out.pt, HT.out.vs, rfl, HT.out.cs⟩ g20.out g21.out)
end Go.Proofs.YtebmhadpkncgfaaDoor
namespace Go.Proofs.YtebmhadpkncgfaaDoor
open Go.RowKit Go.Maps Go.Sort
open Aw.Ac (Acn Opd)
theorem D5.finF {w wq wr w8 w9 : World} {g : GR} {s t : SV} {a : Acn} {ev : Array Value} (hq : w.heap.size + 5 ≤ wq.heap.size) (h : D5 w wr g s a) (hs : Sal s t) (hv : Lv wq wr t) (g1 : wr.grownBy w8 (some (w.heap.size + 1 + 1 + 1))) (g2 : w8.grownBy w9 (some (w.heap.size + 1 + 1 + 1 + 1))) :
    DoP w s ev (.returned (.tuple #[.agg t.A, .agg ev])) w9 := by
  have hg : Gr wr w9 (fun k => k = w.heap.size + 1 + 1 + 1 ∨ k = w.heap.size + 1 + 1 + 1 + 1) := ((Gr.of_grown g1).mono (fun k _ h => .inl (by injection h))).trans ((Gr.of_grown g2).mono (fun k _ h => .inr (by injection h)))
  have hz := h.low.size
  exact ⟨t, rfl, hs, fun w'' h'' => hv w'' ((hg.mono (fun k _ h => by omega)).trans (h''.mono (fun k _ h => by omega))), h.low.trans (hg.below hz (fun k h => by omega))⟩
theorem do8_3no (g : GR) (s : SV) (a : Acn) (inp : Int) (w : World) (hg : Gok g) (hs : Rt g s) (hl : s.lies w) (hh : hasB g a = true) (hk : a.kind = 3) (hf : faultC (s.rs.map RC.c) (atL s.vs a.y) ≠ 0) : Calls Tryd.prog 8 #[.agg g.cs, .agg s.A, .agg a.cs, .int .i64 inp] w (DoP w s (evA 3 a.pl (faultC (s.rs.map RC.c) (atL s.vs a.y)))) := by
  have HF0 := hdn hf
  obtain ⟨w5, hw5⟩ : ∃ w5, ((((w.alloc (.cells g.cs 30)).alloc (.cells s.A 33)).alloc (.cells a.cs 43)).alloc (.cells (stA 0 none 0 0 none 0 0 none 0 0) 33)).alloc (.cells (evA 0 0 0) 37) = w5 := ⟨_, rfl⟩
  have HW : Hid (((((w.alloc (.cells g.cs 30)).alloc (.cells s.A 33)).alloc (.cells a.cs 43)).alloc (.cells #[.int .i64 0, .slice none 0 0, .slice none 0 0, .slice none 0 0] 33)).alloc (.cells #[.int .i64 0, .int .i64 0, .int .i64 0] 37) = w5) := hdn hw5
  have HD : Hid (D5 w w5 g s a) := hdn (by rw [← hw5]; exact D5.start w g s a)
  have HS5 := hdn HD.out.st
  have HL : Hid (s.lies w5) := hdn (hl.below HD.out.low)
  have HC := hdn (own21_any g.F s w5 HL.out (by have := hs.vl; have := hg.V; omega) (by have := hs.il; have := hg.I; omega) hs.n hs.lens hg.F)
  have HRI := hdn (fun wz (hz : RowKit.Below w5.heap.size w5 wz) => right22_any g s wz hg hs (HL.out.below hz))
  have HHA := hdn (fun wz => has23_any g a wz)
  rw [hh] at HHA
  have HLO : Hid (∀ wz, RowKit.Below w5.heap.size w5 wz → Calls Tryd.prog 24 #[.slice g.fp g.F g.fc, .slice s.cp s.rs.length s.cc] wz fun e w' => ∃ v N, e = .returned (.agg #[.int .i64 g.F, v, .bool true]) ∧ Out g.F w' N v (s.rs.map RC.c) ∧ (∀ b, N b → wz.heap.size ≤ b) ∧ RowKit.Below wz.heap.size wz w') := hdn (fun wz hz => by
    have := refLoad_any g.F g.fc s.cc g.fp s.cp s.rs wz (HL.out.c.below hz (fun x h => RC.lies_below' h hz)) hg.F hs.n
    rw [hs.loaded] at this
    exact this)
  have CV := fun (x : Int) (wz : World) (hz : RowKit.Below w5.heap.size w5 wz) => qb_call (wB := wz) (F := 25) (ar := #[.slice s.vp s.vs.length s.vc, .int .i64 x]) (v := .int .i64 (atL s.vs x)) (fun wr hb' => (at25_any s.vp s.vs s.vc x wr ((HL.out.below hz).v.below hb')).mono (fun e w' he => ⟨he.1, same_below he.2⟩))
  have HVX := hdn (CV a.x)
  have HVY := hdn (CV a.y)
  have HWV : Hid (∀ x wz, RowKit.Below w5.heap.size w5 wz → Calls Tryd.prog 26 #[.slice s.vp s.vs.length s.vc, .int .i64 a.x, .int .i64 x] wz (WithP wz (withL s.vs a.x x))) := hdn (fun x wz hz => with_any s.vp s.vs s.vc a.x x wz (HL.out.v.below hz) (by have := hs.vl; have := hg.V; omega))
  have HWI : Hid (∀ x wz, RowKit.Below w5.heap.size w5 wz → Calls Tryd.prog 26 #[.slice s.ip s.is.length s.ic, .int .i64 a.x, .int .i64 x] wz (WithP wz (withL s.is a.x x))) := hdn (fun x wz hz => with_any s.ip s.is s.ic a.x x wz (HL.out.i.below hz) (by have := hs.il; have := hg.I; omega))
  have HFA := hdn (fun n wz (hz : RowKit.Below w5.heap.size w5 wz) => fails_any g.F s a n wz (HL.out.below hz) (by have := hs.vl; have := hg.V; omega) (by have := hs.il; have := hg.I; omega) hs.n hs.lens hg.F)
  have HGE : Hid (∀ v N wz y, Out g.F wz N v (s.rs.map RC.c) → Calls Tryd.prog 27 #[.agg #[.int .i64 g.F, v, .bool true], .int .i64 y, .int .i64 a.f] wz fun e w' => e = .returned (.tuple #[.int .i64 (getV g.F (s.rs.map RC.c) y a.f), .int .i64 (faultC (s.rs.map RC.c) y)]) ∧ RowKit.Below wz.heap.size wz w') := hdn (fun v N wz y h => refGet_any g.F N _ v y a.f wz h (by rw [List.length_map]; exact hs.n))
  have HK := hdn hk
  clear CV hk
  clear hw5 hl hs hg hh hf
  go_enter Tryd.func8, Tryd.ntmps8
  go_upto_region 1 with fail
  rw [HW.out]
  clear HW
  go_upto_region 2 with (first
    | ((with_reducible show wpList _ _ _ (Oper.mk _ (Op.load 33 _) _ _ _ _ :: _) _ _); refine wpList_load_bk rfl 33 _ rfl (w.heap.size + 1) 33 s.A rfl _ HS5.out Tryd.underlying33 rfl size33 ?_)
    | (go_at_call 21; refine HC.out.mono ?_; rintro e w6 ⟨t, rfl, hs6, hv6, hb6⟩; have HT := hdn hs6; have HV := hdn hv6; have HB6 := hdn hb6; have HZ6 : Hid (Bk (w6.alloc (.cells #[.int .i64 0, .slice none 0 0, .slice none 0 0, .slice none 0 0] 33)) w6.heap.size 33 (stA 0 none 0 0 none 0 0 none 0 0)) := hdn (MapKept.heap_alloc w6 _).1; clear hs6 hv6 hb6)
    | ((with_reducible show wpList _ _ _ (Oper.mk none (Op.store 33 _ _) _ _ _ _ :: _) _ _); refine wpList_store_all rfl 33 _ _ rfl w6.heap.size 33 _ t.A rfl rfl HZ6.out size33 rfl (SV.A_one t) ?_; intro w7 h7 g7))
  have H6 : Hid (D6 w w5 w7 g s a w6.heap.size t) := hdn (D6.start HD.out HB6.out HV.out h7.out g7.out)
  clear h7 g7 HC HS5 HV HB6 HZ6
  generalize w6.heap.size = O at H6 ⊢
  have HG7 := hdn H6.out.d5.gr
  have HS7 := hdn H6.out.d5.st
  go_upto_region 4 with (first
    | ((with_reducible show wpList _ _ _ (Oper.mk (some 25) (Op.load 30 _) _ _ _ _ :: _) _ _); refine wpList_load_bk rfl 30 _ rfl w.heap.size 30 g.cs rfl _ HG7.out Tryd.underlying30 rfl size30 ?_)
    | ((with_reducible show wpList _ _ _ (Oper.mk (some 26) (Op.load 33 _) _ _ _ _ :: _) _ _); refine wpList_load_bk rfl 33 _ rfl (w.heap.size + 1) 33 s.A rfl _ HS7.out Tryd.underlying33 rfl size33 ?_)
    | (go_at_call 22; refine (HRI.out w7 H6.out.low).mono ?_; rintro e w8 ⟨rfl, hb8⟩; have H8 := hdn (H6.out.far' hb8); have HG8 := hdn H8.out.d5.gr; have HA8 := hdn H8.out.d5.ac; obtain ⟨c0, c1, c2, c3, c4, c5, c6, c7, c8, c9⟩ := G10.of HG8.out; obtain ⟨a0, a1, a2, a3, a4, a5, a6, a7, a8, a9, a10, a11⟩ := A12f.of HA8.out; clear hb8)
    | (go_at_call 23; refine (HHA.out w8).mono ?_; rintro e w9 ⟨rfl, hb9⟩; have H9 := hdn (H8.out.far' hb9); clear hb9))
  clear c0 c1 c2 c3 c4 c5 c6 c7 c8 c9 a0 a1 a2 a3 a4 a5 a6 a7 a8 a9 a10 a11 HG8 HA8 HRI HHA HG7 HS7 H8
  obtain ⟨_, _, _, _, _, _, _, _, _, c9⟩ := G10.of H9.out.d5.gr
  obtain ⟨_, _, _, s3⟩ := Z33.of H9.out.d5.st
  go_upto_region 5 with (first
    | (go_at_call 24; refine (HLO.out w9 H9.out.low).mono ?_; rintro e w10 ⟨v, N, rfl, hov, hnv, hbv⟩; have HOV := hdn hov; have HNV := hdn hnv; have HBV := hdn hbv; have HZ10 : Hid (Bk (w10.alloc (.cells #[.int .i64 0, .slice none 0 0, .bool false] 59)) w10.heap.size 59 #[.int .i64 0, .slice none 0 0, .bool false]) := hdn (MapKept.heap_alloc w10 _).1; have H1C : Hid ((#[.int .i64 g.F, v, .bool true] : Array Value).all (·.oneCell') = true) := hdn (Kin.Lie.oneA hov); clear hov hnv hbv)
    | ((with_reducible show wpList _ _ _ (Oper.mk none (Op.store 59 _ _) _ _ _ _ :: _) _ _); refine wpList_store_all rfl 59 _ _ rfl w10.heap.size 59 _ #[.int .i64 g.F, v, .bool true] rfl rfl HZ10.out size29 rfl H1C.out ?_; intro w11 h11 g11))
  have H7 : Hid (D7 w w5 w11 g s a O t w10.heap.size v N) := hdn (D7.start H9.out HBV.out HOV.out HNV.out h11.out g11.out)
  clear h11 g11 HOV HNV HBV HZ10 H1C c9 s3
  generalize w10.heap.size = B at H7 ⊢
  simp only [Act.put]
  obtain ⟨a0, a1, a2, a3, a4, a5, a6, a7, a8, a9, a10, a11⟩ := A12f.of H7.out.d6.d5.ac
  obtain ⟨s0, s1, s2, s3⟩ := Z33.of H7.out.d6.d5.st
  have cX := HVX.out w11 H7.out.d6.low
  have cY := HVY.out w11 H7.out.d6.low
  have p1 := cell_regrown a1; have p2 := cell_regrown a2; have p3 := cell_regrown s1
  refine wp_region_quiet_below (by kernel_rfl) (by kernel_rfl) ?_
  repeat (go_big_quiet_step (first | (with_reducible exact cX _ _) | (with_reducible exact cY _ _)))
  refine wpQuiet_nil ?_
  intro _ hw'
  obtain ⟨⟨dz, osz⟩, hw''⟩ := hw'
  subst hw''
  have H12 : Hid (D7 w w5 (grow (redrawn w11 dz) osz) g s a O t B v N) := hdn (H7.out.far' (below_regrown w11 dz osz))
  generalize grow (redrawn w11 dz) osz = w12 at H12 ⊢
  clear p1 p2 p3 cX cY a0 a1 a2 a3 a4 a5 a6 a7 a8 a9 a10 a11 s0 s1 s2 s3 H7 H9 HVX HVY HLO
  obtain ⟨a0, a1, a2, a3, a4, a5, a6, a7, a8, a9, a10, a11⟩ := A12f.of H12.out.d6.d5.ac
  obtain ⟨s0, s1, s2, s3⟩ := Z33.of H12.out.d6.d5.st
  rw [HK.out] at a0
  have HB12 := hdn H12.out.box
  have HGY := hdn (HGE.out v N w12 (atL s.vs a.y) H12.out.heap)
  generalize getV g.F (s.rs.map RC.c) (atL s.vs a.y) a.f = gv at *
  generalize faultC (s.rs.map RC.c) (atL s.vs a.y) = kk at *
  have hkk : (kk != 0) = true := by have := HF0.out; simpa using this
  go_upto_region 14 with (first
    | ((with_reducible show wpList _ _ _ (Oper.mk (some 74) (Op.load 59 _) _ _ _ _ :: _) _ _); refine wpList_load_bk rfl 59 _ rfl B 59 #[.int .i64 g.F, v, .bool true] rfl _ HB12.out Tryd.underlying59 rfl size29 ?_)
    | (go_at_call 27; refine HGY.out.mono ?_; rintro e w12b ⟨rfl, hbz⟩; have H12b := hdn (H12.out.far' hbz); clear hbz))
  have HS12 := hdn H12b.out.d6.d5.st
  have HA12 := hdn H12b.out.d6.d5.ac
  go_wp2_with (first
    | ((with_reducible show wpList _ _ _ (Oper.mk (some 83) (Op.load 33 _) _ _ _ _ :: _) _ _); refine wpList_load_bk rfl 33 _ rfl (w.heap.size + 1) 33 s.A rfl _ HS12.out Tryd.underlying33 rfl size33 ?_)
    | ((with_reducible show wpList _ _ _ (Oper.mk (some 84) (Op.load 43 _) _ _ _ _ :: _) _ _); refine wpList_load_bk rfl 43 _ rfl (w.heap.size + 1 + 1) 43 a.cs rfl _ HA12.out Tryd.underlying43 rfl size43 ?_)
    | (go_at_call 28; refine (HFA.out _ w12b H12b.out.d6.low).mono ?_; rintro e w13 ⟨t2, rfl, hs2, hv2, hb2⟩; have HT2 := hdn hs2; have HV2 := hdn hv2; have H13 := hdn (H12b.out.d6.d5.far hb2); have HR1 := hdn H13.out.r1; have HR2 := hdn H13.out.r2; clear hs2 hv2 hb2)
    | ((with_reducible show wpList _ _ _ (Oper.mk none (Op.store 33 _ _) _ _ _ _ :: _) _ _); refine wpList_store_all rfl 33 _ _ rfl (w.heap.size + 1 + 1 + 1) 33 _ t2.A rfl rfl HR1.out size33 rfl (SV.A_one _) ?_; intro w20 h20 g20; have HR3 := hdn ((Gr.of_grown g20.out).bk HR2.out (by intro h; injection h; omega)))
    | ((with_reducible show wpList _ _ _ (Oper.mk none (Op.store 37 _ _) _ _ _ _ :: _) _ _); refine wpList_store_all rfl 37 _ _ rfl (w.heap.size + 1 + 1 + 1 + 1) 37 _ (evA 3 a.pl kk) rfl rfl HR3.out size37 rfl (evA_one _ _ _) ?_; intro w21 h21 g21))
  have q1 : Bk w21 (w.heap.size + 1 + 1 + 1) 33 t2.A := (Gr.of_grown g21.out).bk h20.out (by intro h; injection h; omega)
  exact bodyPost_ret (results_two Tryd.results8 rfl rfl rfl rfl q1 h21.out) rfl (D5.finF H12b.out.d6.d5.sz H13.out HT2.out HV2.out g20.out g21.out)
theorem do8_3ok (g : GR) (s : SV) (a : Acn) (inp : Int) (w : World) (hg : Gok g) (hs : Rt g s) (hl : s.lies w) (hh : hasB g a = true) (hk : a.kind = 3) (hf : faultC (s.rs.map RC.c) (atL s.vs a.y) = 0) : Calls Tryd.prog 8 #[.agg g.cs, .agg s.A, .agg a.cs, .int .i64 inp] w (DoP w { s with vs := withL s.vs a.x (getV g.F (s.rs.map RC.c) (atL s.vs a.y) a.f) } (evA 0 0 0)) := by
  have HF0 := hdn hf
  obtain ⟨w5, hw5⟩ : ∃ w5, ((((w.alloc (.cells g.cs 30)).alloc (.cells s.A 33)).alloc (.cells a.cs 43)).alloc (.cells (stA 0 none 0 0 none 0 0 none 0 0) 33)).alloc (.cells (evA 0 0 0) 37) = w5 := ⟨_, rfl⟩
  have HW : Hid (((((w.alloc (.cells g.cs 30)).alloc (.cells s.A 33)).alloc (.cells a.cs 43)).alloc (.cells #[.int .i64 0, .slice none 0 0, .slice none 0 0, .slice none 0 0] 33)).alloc (.cells #[.int .i64 0, .int .i64 0, .int .i64 0] 37) = w5) := hdn hw5
  have HD : Hid (D5 w w5 g s a) := hdn (by rw [← hw5]; exact D5.start w g s a)
  have HS5 := hdn HD.out.st
  have HL : Hid (s.lies w5) := hdn (hl.below HD.out.low)
  have HC := hdn (own21_any g.F s w5 HL.out (by have := hs.vl; have := hg.V; omega) (by have := hs.il; have := hg.I; omega) hs.n hs.lens hg.F)
  have HRI := hdn (fun wz (hz : RowKit.Below w5.heap.size w5 wz) => right22_any g s wz hg hs (HL.out.below hz))
  have HHA := hdn (fun wz => has23_any g a wz)
  rw [hh] at HHA
  have HLO : Hid (∀ wz, RowKit.Below w5.heap.size w5 wz → Calls Tryd.prog 24 #[.slice g.fp g.F g.fc, .slice s.cp s.rs.length s.cc] wz fun e w' => ∃ v N, e = .returned (.agg #[.int .i64 g.F, v, .bool true]) ∧ Out g.F w' N v (s.rs.map RC.c) ∧ (∀ b, N b → wz.heap.size ≤ b) ∧ RowKit.Below wz.heap.size wz w') := hdn (fun wz hz => by
    have := refLoad_any g.F g.fc s.cc g.fp s.cp s.rs wz (HL.out.c.below hz (fun x h => RC.lies_below' h hz)) hg.F hs.n
    rw [hs.loaded] at this
    exact this)
  have CV := fun (x : Int) (wz : World) (hz : RowKit.Below w5.heap.size w5 wz) => qb_call (wB := wz) (F := 25) (ar := #[.slice s.vp s.vs.length s.vc, .int .i64 x]) (v := .int .i64 (atL s.vs x)) (fun wr hb' => (at25_any s.vp s.vs s.vc x wr ((HL.out.below hz).v.below hb')).mono (fun e w' he => ⟨he.1, same_below he.2⟩))
  have HVX := hdn (CV a.x)
  have HVY := hdn (CV a.y)
  have HWV : Hid (∀ x wz, RowKit.Below w5.heap.size w5 wz → Calls Tryd.prog 26 #[.slice s.vp s.vs.length s.vc, .int .i64 a.x, .int .i64 x] wz (WithP wz (withL s.vs a.x x))) := hdn (fun x wz hz => with_any s.vp s.vs s.vc a.x x wz (HL.out.v.below hz) (by have := hs.vl; have := hg.V; omega))
  have HWI : Hid (∀ x wz, RowKit.Below w5.heap.size w5 wz → Calls Tryd.prog 26 #[.slice s.ip s.is.length s.ic, .int .i64 a.x, .int .i64 x] wz (WithP wz (withL s.is a.x x))) := hdn (fun x wz hz => with_any s.ip s.is s.ic a.x x wz (HL.out.i.below hz) (by have := hs.il; have := hg.I; omega))
  have HFA := hdn (fun n wz (hz : RowKit.Below w5.heap.size w5 wz) => fails_any g.F s a n wz (HL.out.below hz) (by have := hs.vl; have := hg.V; omega) (by have := hs.il; have := hg.I; omega) hs.n hs.lens hg.F)
  have HGE : Hid (∀ v N wz y, Out g.F wz N v (s.rs.map RC.c) → Calls Tryd.prog 27 #[.agg #[.int .i64 g.F, v, .bool true], .int .i64 y, .int .i64 a.f] wz fun e w' => e = .returned (.tuple #[.int .i64 (getV g.F (s.rs.map RC.c) y a.f), .int .i64 (faultC (s.rs.map RC.c) y)]) ∧ RowKit.Below wz.heap.size wz w') := hdn (fun v N wz y h => refGet_any g.F N _ v y a.f wz h (by rw [List.length_map]; exact hs.n))
  have HK := hdn hk
  clear CV hk
  clear hw5 hl hs hg hh hf
  go_enter Tryd.func8, Tryd.ntmps8
  go_upto_region 1 with fail
  rw [HW.out]
  clear HW
  go_upto_region 2 with (first
    | ((with_reducible show wpList _ _ _ (Oper.mk _ (Op.load 33 _) _ _ _ _ :: _) _ _); refine wpList_load_bk rfl 33 _ rfl (w.heap.size + 1) 33 s.A rfl _ HS5.out Tryd.underlying33 rfl size33 ?_)
    | (go_at_call 21; refine HC.out.mono ?_; rintro e w6 ⟨t, rfl, hs6, hv6, hb6⟩; have HT := hdn hs6; have HV := hdn hv6; have HB6 := hdn hb6; have HZ6 : Hid (Bk (w6.alloc (.cells #[.int .i64 0, .slice none 0 0, .slice none 0 0, .slice none 0 0] 33)) w6.heap.size 33 (stA 0 none 0 0 none 0 0 none 0 0)) := hdn (MapKept.heap_alloc w6 _).1; clear hs6 hv6 hb6)
    | ((with_reducible show wpList _ _ _ (Oper.mk none (Op.store 33 _ _) _ _ _ _ :: _) _ _); refine wpList_store_all rfl 33 _ _ rfl w6.heap.size 33 _ t.A rfl rfl HZ6.out size33 rfl (SV.A_one t) ?_; intro w7 h7 g7))
  have H6 : Hid (D6 w w5 w7 g s a w6.heap.size t) := hdn (D6.start HD.out HB6.out HV.out h7.out g7.out)
  clear h7 g7 HC HS5 HV HB6 HZ6
  generalize w6.heap.size = O at H6 ⊢
  have HG7 := hdn H6.out.d5.gr
  have HS7 := hdn H6.out.d5.st
  go_upto_region 4 with (first
    | ((with_reducible show wpList _ _ _ (Oper.mk (some 25) (Op.load 30 _) _ _ _ _ :: _) _ _); refine wpList_load_bk rfl 30 _ rfl w.heap.size 30 g.cs rfl _ HG7.out Tryd.underlying30 rfl size30 ?_)
    | ((with_reducible show wpList _ _ _ (Oper.mk (some 26) (Op.load 33 _) _ _ _ _ :: _) _ _); refine wpList_load_bk rfl 33 _ rfl (w.heap.size + 1) 33 s.A rfl _ HS7.out Tryd.underlying33 rfl size33 ?_)
    | (go_at_call 22; refine (HRI.out w7 H6.out.low).mono ?_; rintro e w8 ⟨rfl, hb8⟩; have H8 := hdn (H6.out.far' hb8); have HG8 := hdn H8.out.d5.gr; have HA8 := hdn H8.out.d5.ac; obtain ⟨c0, c1, c2, c3, c4, c5, c6, c7, c8, c9⟩ := G10.of HG8.out; obtain ⟨a0, a1, a2, a3, a4, a5, a6, a7, a8, a9, a10, a11⟩ := A12f.of HA8.out; clear hb8)
    | (go_at_call 23; refine (HHA.out w8).mono ?_; rintro e w9 ⟨rfl, hb9⟩; have H9 := hdn (H8.out.far' hb9); clear hb9))
  clear c0 c1 c2 c3 c4 c5 c6 c7 c8 c9 a0 a1 a2 a3 a4 a5 a6 a7 a8 a9 a10 a11 HG8 HA8 HRI HHA HG7 HS7 H8
  obtain ⟨_, _, _, _, _, _, _, _, _, c9⟩ := G10.of H9.out.d5.gr
  obtain ⟨_, _, _, s3⟩ := Z33.of H9.out.d5.st
  go_upto_region 5 with (first
    | (go_at_call 24; refine (HLO.out w9 H9.out.low).mono ?_; rintro e w10 ⟨v, N, rfl, hov, hnv, hbv⟩; have HOV := hdn hov; have HNV := hdn hnv; have HBV := hdn hbv; have HZ10 : Hid (Bk (w10.alloc (.cells #[.int .i64 0, .slice none 0 0, .bool false] 59)) w10.heap.size 59 #[.int .i64 0, .slice none 0 0, .bool false]) := hdn (MapKept.heap_alloc w10 _).1; have H1C : Hid ((#[.int .i64 g.F, v, .bool true] : Array Value).all (·.oneCell') = true) := hdn (Kin.Lie.oneA hov); clear hov hnv hbv)
    | ((with_reducible show wpList _ _ _ (Oper.mk none (Op.store 59 _ _) _ _ _ _ :: _) _ _); refine wpList_store_all rfl 59 _ _ rfl w10.heap.size 59 _ #[.int .i64 g.F, v, .bool true] rfl rfl HZ10.out size29 rfl H1C.out ?_; intro w11 h11 g11))
  have H7 : Hid (D7 w w5 w11 g s a O t w10.heap.size v N) := hdn (D7.start H9.out HBV.out HOV.out HNV.out h11.out g11.out)
  clear h11 g11 HOV HNV HBV HZ10 H1C c9 s3
  generalize w10.heap.size = B at H7 ⊢
  simp only [Act.put]
  obtain ⟨a0, a1, a2, a3, a4, a5, a6, a7, a8, a9, a10, a11⟩ := A12f.of H7.out.d6.d5.ac
  obtain ⟨s0, s1, s2, s3⟩ := Z33.of H7.out.d6.d5.st
  have cX := HVX.out w11 H7.out.d6.low
  have cY := HVY.out w11 H7.out.d6.low
  have p1 := cell_regrown a1; have p2 := cell_regrown a2; have p3 := cell_regrown s1
  refine wp_region_quiet_below (by kernel_rfl) (by kernel_rfl) ?_
  repeat (go_big_quiet_step (first | (with_reducible exact cX _ _) | (with_reducible exact cY _ _)))
  refine wpQuiet_nil ?_
  intro _ hw'
  obtain ⟨⟨dz, osz⟩, hw''⟩ := hw'
  subst hw''
  have H12 : Hid (D7 w w5 (grow (redrawn w11 dz) osz) g s a O t B v N) := hdn (H7.out.far' (below_regrown w11 dz osz))
  generalize grow (redrawn w11 dz) osz = w12 at H12 ⊢
  clear p1 p2 p3 cX cY a0 a1 a2 a3 a4 a5 a6 a7 a8 a9 a10 a11 s0 s1 s2 s3 H7 H9 HVX HVY HLO
  obtain ⟨a0, a1, a2, a3, a4, a5, a6, a7, a8, a9, a10, a11⟩ := A12f.of H12.out.d6.d5.ac
  obtain ⟨s0, s1, s2, s3⟩ := Z33.of H12.out.d6.d5.st
  rw [HK.out] at a0
  have HB12 := hdn H12.out.box
  have HGY := hdn (HGE.out v N w12 (atL s.vs a.y) H12.out.heap)
  generalize getV g.F (s.rs.map RC.c) (atL s.vs a.y) a.f = gv at *
  generalize faultC (s.rs.map RC.c) (atL s.vs a.y) = kk at *
  have hkk : (kk != 0) = false := by have := HF0.out; simpa using this
  go_upto_region 15 with (first
    | ((with_reducible show wpList _ _ _ (Oper.mk (some 74) (Op.load 59 _) _ _ _ _ :: _) _ _); refine wpList_load_bk rfl 59 _ rfl B 59 #[.int .i64 g.F, v, .bool true] rfl _ HB12.out Tryd.underlying59 rfl size29 ?_)
    | (go_at_call 27; refine HGY.out.mono ?_; rintro e w12b ⟨rfl, hbz⟩; have H12b := hdn (H12.out.far' hbz); clear hbz))
  clear a0 a1 a2 a3 a4 a5 a6 a7 a8 a9 a10 a11 s0 s1 s2 s3
  obtain ⟨a0, a1, a2, a3, a4, a5, a6, a7, a8, a9, a10, a11⟩ := A12f.of H12b.out.d6.d5.ac
  obtain ⟨s0, s1, s2, s3⟩ := Z33.of H12b.out.d6.d5.st
  go_upto_region 46 with (go_at_call 26; refine (HWV.out gv w12b H12b.out.d6.low).mono ?_; rintro e w13 ⟨g1, cp1, rfl, hnw⟩; have HNW := hdn hnw; have H13 := hdn (H12b.out.d6.far' hnw.below); have f13 := H13.out.out.frozen 1; have g13 : w13.cell? ⟨O, 1, none⟩ = some (.slice t.vp t.vs.length t.vc) := H13.out.out.cell 1; clear hnw)
  have H14 := hdn (H13.out.putv (c := cp1) HNW.out HD.out.sz H12b.out.d6.low.size H12b.out.d6.out.lt)
  clear f13 g13
  generalize w13.setCell ⟨O, 1, none⟩ (.slice (some ⟨g1, 0, none⟩) (withL s.vs a.x gv).length cp1) = w14 at H14 ⊢
  have HO9 := hdn H14.out.out
  have HR1 := hdn H14.out.d5.r1
  have HR2 := hdn H14.out.d5.r2
  go_wp2_with (first
    | ((with_reducible show wpList _ _ _ (Oper.mk (some 221) (Op.load 33 _) _ _ _ _ :: _) _ _); refine wpList_load_bk rfl 33 _ rfl O 33 ({ t with vp := some ⟨g1, 0, none⟩, vs := withL s.vs a.x gv, vc := cp1 } : SV).A rfl _ HO9.out Tryd.underlying33 rfl size33 ?_)
    | ((with_reducible show wpList _ _ _ (Oper.mk none (Op.store 33 _ _) _ _ _ _ :: _) _ _); refine wpList_store_all rfl 33 _ _ rfl (w.heap.size + 1 + 1 + 1) 33 _ ({ t with vp := some ⟨g1, 0, none⟩, vs := withL s.vs a.x gv, vc := cp1 } : SV).A rfl rfl HR1.out size33 rfl (SV.A_one _) ?_; intro w20 h20 g20; have HR3 := hdn ((Gr.of_grown g20.out).bk HR2.out (by intro h; injection h; omega)))
    | ((with_reducible show wpList _ _ _ (Oper.mk none (Op.store 37 _ _) _ _ _ _ :: _) _ _); refine wpList_store_all rfl 37 _ _ rfl (w.heap.size + 1 + 1 + 1 + 1) 37 _ (evA 0 0 0) rfl rfl HR3.out size37 rfl (evA_one _ _ _) ?_; intro w21 h21 g21))
  have q1 : Bk w21 (w.heap.size + 1 + 1 + 1) 33 ({ t with vp := some ⟨g1, 0, none⟩, vs := withL s.vs a.x gv, vc := cp1 } : SV).A := (Gr.of_grown g21.out).bk h20.out (by intro h; injection h; omega)
  exact bodyPost_ret (results_two Tryd.results8 rfl rfl rfl rfl q1 h21.out) rfl (D6.fin HD.out.sz H14.out ⟨HT.out.pt, rfl, HT.out.is, HT.out.cs⟩ g20.out g21.out)
end Go.Proofs.YtebmhadpkncgfaaDoor
namespace Go.Proofs.YtebmhadpkncgfaaDoor
open Go.RowKit Go.Maps Go.Sort
open Aw.Ac (Acn Opd)
theorem okI_iff {n : Int} : okI n ↔ -9223372036854775808 ≤ n ∧ n ≤ 9223372036854775807 := by
  unfold okI; simp [Lit.wf, IntKind.min, IntKind.max, IntKind.signed, IntKind.bits]
theorem okI_small {n : Int} (h : 0 ≤ n ∧ n ≤ 2000000) : okI n := okI_iff.2 (by omega)
theorem okI_wrap (n : Int) : okI (IntKind.i64.wrap n) := by
  rw [okI_iff, IntKind.wrap_i64]; omega
def nxV (F : Nat) (s : SV) (a : Acn) (inp : Int) : List Int :=
  if a.kind = 1 then withL s.vs a.x 0
  else if a.kind = 2 then withL s.vs a.x (atL s.vs a.y)
  else if a.kind = 3 then (if faultC s.cs (atL s.vs a.y) = 0 then withL s.vs a.x (getV F s.cs (atL s.vs a.y) a.f) else s.vs)
  else if a.kind = 6 then withL s.vs a.x (if inp = 0 then 0 else (s.cs.length + 1 : Nat))
  else s.vs
def nxC (F : Nat) (s : SV) (a : Acn) (inp : Int) : List PC :=
  if a.kind = 4 then putC F s.cs (atL s.vs a.x) a.f 0
  else if a.kind = 5 then putC F s.cs (atL s.vs a.x) a.f (atL s.vs a.y)
  else if a.kind = 6 then (if inp = 0 then s.cs else s.cs ++ [newC F a.t])
  else if a.kind = 7 then freeC F s.cs (atL s.vs a.x)
  else s.cs
def nxN (s : SV) (a : Acn) : Int := if a.op = 1 then IntKind.i64.wrap (numL s.is a.l + numL s.is a.r) else if a.op = 2 then IntKind.i64.wrap (numL s.is a.l - numL s.is a.r) else numL s.is a.l
def nxI (s : SV) (a : Acn) (inp : Int) : List Int :=
  if a.kind = 10 then withL s.is a.x inp else if a.kind = 11 then withL s.is a.x (nxN s a) else s.is
def nxE (s : SV) (a : Acn) (inp : Int) : Array Value :=
  if a.kind = 3 then evE a (faultC s.cs (atL s.vs a.y))
  else if a.kind = 4 ∨ a.kind = 5 then evE a (faultC s.cs (atL s.vs a.x))
  else if a.kind = 6 then evA 1 a.pl (if inp = 0 then 0 else 1)
  else if a.kind = 7 then frEv a s.cs (atL s.vs a.x)
  else evA 0 0 0
/-- Places that are there. -/
theorem rights_pos {a : Acn} (h : Aw.Ac.rights a = true) : (a.kind = 1 ∨ a.kind = 2 ∨ a.kind = 3 ∨ a.kind = 4 ∨ a.kind = 5 ∨ a.kind = 6 ∨ a.kind = 7 ∨ a.kind = 10 ∨ a.kind = 11 → 0 ≤ a.x) ∧ (a.kind = 2 ∨ a.kind = 3 ∨ a.kind = 5 → 0 ≤ a.y) ∧ (a.kind = 3 ∨ a.kind = 4 ∨ a.kind = 5 → 0 ≤ a.f) ∧ (a.kind = 6 → 0 ≤ a.t) ∧ (a.kind = 11 → a.op = 0 ∨ a.op = 1 ∨ a.op = 2) := by
  have h1 := (Aw.Ac.rights_k h).2.2
  refine ⟨fun hk => ?_, fun hk => ?_, fun hk => ?_, fun hk => ?_, fun hk => ?_⟩
  · rcases hk with hk | hk | hk | hk | hk | hk | hk | hk | hk <;> rw [hk] at h1 <;> simp [Aw.Ac.formOf, Aw.Ac.goR, Aw.Ac.tk, Aw.Ac.numOf, Aw.Ac.loOf, Aw.Ac.hiOf, Aw.Ac.setNum, Aw.Ac.within] at h1 <;> omega
  · rcases hk with hk | hk | hk <;> rw [hk] at h1 <;> simp [Aw.Ac.formOf, Aw.Ac.goR, Aw.Ac.tk, Aw.Ac.numOf, Aw.Ac.loOf, Aw.Ac.hiOf, Aw.Ac.setNum, Aw.Ac.within] at h1 <;> omega
  · rcases hk with hk | hk | hk <;> rw [hk] at h1 <;> simp [Aw.Ac.formOf, Aw.Ac.goR, Aw.Ac.tk, Aw.Ac.numOf, Aw.Ac.loOf, Aw.Ac.hiOf, Aw.Ac.setNum, Aw.Ac.within] at h1 <;> omega
  · rw [hk] at h1; simp [Aw.Ac.formOf, Aw.Ac.goR, Aw.Ac.tk, Aw.Ac.numOf, Aw.Ac.loOf, Aw.Ac.hiOf, Aw.Ac.setNum, Aw.Ac.within] at h1; omega
  · rw [hk] at h1
    by_cases q : 0 ≤ a.op ∧ a.op ≤ 2
    · omega
    · simp [Aw.Ac.formOf, Aw.Ac.goR, Aw.Ac.tk, Aw.Ac.numOf, Aw.Ac.loOf, Aw.Ac.hiOf, Aw.Ac.setNum, Aw.Ac.within, q] at h1
theorem has_right {g : GR} {a : Acn} (h : hasB g a = true) : Aw.Ac.rights a = true ∧ inG g a = true := by unfold hasB at h; simpa using h
theorem withL_mem {l : List Int} {x v y : Int} (h : y ∈ withL l x v) : y = v ∨ y ∈ l := by
  unfold withL at h
  split at h
  · exact (List.mem_or_eq_of_mem_set h).symm
  · exact .inr h
theorem atL_mem (l : List Int) (x : Int) : atL l x = 0 ∨ atL l x ∈ l := by
  unfold atL
  split
  · rename_i h
    unfold inB at h; simp at h
    right
    have hx : x.toNat < l.length := by omega
    rw [List.getD_eq_getElem?_getD, List.getElem?_eq_getElem hx]
    exact List.getElem_mem hx
  · exact .inl rfl
theorem okTo_id {n : Nat} {x : Int} (h : 0 ≤ x ∧ x ≤ n) : okTo n x = x := by
  unfold okTo isCell
  split
  · rfl
  · rename_i h'; simp at h'; omega
/-- A loaded cell: its places are in range, and null if it is freed. -/
theorem loadC_iff {F n : Nat} {c : PC} : loadC F n c = c ↔ c.to.length = F ∧ ∀ k, k < F → 0 ≤ c.at k ∧ c.at k ≤ n ∧ (c.fr = true → c.at k = 0) := by
  constructor
  · intro h
    have hl : c.to.length = F := by rw [← h]; simp [loadC]
    refine ⟨hl, fun k hk => ?_⟩
    have e : c.at k = if c.fr = true then 0 else okTo n (c.at k) := by
      have h2 : (loadC F n c).at k = if c.fr = true then 0 else okTo n (c.at k) := by
        unfold loadC PC.at
        rw [List.getD_eq_getElem?_getD, List.getElem?_map, List.getElem?_range hk]
        rfl
      rw [h] at h2; exact h2
    cases hf : c.fr with
    | true => rw [hf] at e; simp at e; exact ⟨by omega, by omega, fun _ => e⟩
    | false =>
      rw [hf] at e; simp at e
      have := okTo_in n (c.at k)
      exact ⟨by omega, by omega, fun h => by cases h⟩
  · rintro ⟨hl, h⟩
    refine pc_ext rfl rfl (by simp [loadC, hl]) (fun k hk => ?_)
    have hk : k < F := by simpa [loadC] using hk
    obtain ⟨h1, h2, h3⟩ := h k hk
    unfold loadC PC.at at *
    rw [List.getD_eq_getElem?_getD, List.getElem?_map, List.getElem?_range hk]
    show (if c.fr = true then 0 else okTo n (c.to.getD k 0)) = _
    cases hf : c.fr with
    | true => rw [if_pos rfl, h3 hf]
    | false => rw [if_neg (by decide), okTo_id ⟨h1, h2⟩]
theorem loadC_mono {F n m : Nat} {c : PC} (h : loadC F n c = c) (hm : n ≤ m) : loadC F m c = c := by
  rw [loadC_iff] at h ⊢
  exact ⟨h.1, fun k hk => by obtain ⟨a, b, d⟩ := h.2 k hk; exact ⟨a, by omega, d⟩⟩
theorem loadC_ok {F n : Nat} {c : PC} (h : loadC F n c = c) (hn : n ≤ 2000000) : c.ok := fun k => by
  rw [loadC_iff] at h
  by_cases hk : k < F
  · obtain ⟨a, b, _⟩ := h.2 k hk; exact okI_small (by omega)
  · rw [at_over c k (by omega)]; exact okI_small (by omega)
theorem newC_load (F n : Nat) (t : Int) : loadC F n (newC F t) = newC F t := by
  rw [loadC_iff]
  refine ⟨by simp [newC, zeros], fun k hk => ?_⟩
  have : (newC F t).at k = 0 := zeros_at F k
  rw [this]; exact ⟨by omega, by omega, fun _ => rfl⟩
/-- Cells that are right: their structs, and where they lead. -/
def CsOk (F : Nat) (S : Int) (cs : List PC) : Prop := ∀ c ∈ cs, (0 ≤ c.ty ∧ c.ty < S) ∧ loadC F cs.length c = c
theorem putC_ok {F : Nat} {S : Int} {cs : List PC} (h : CsOk F S cs) (c f t : Int) (ht : 0 ≤ t ∧ t ≤ cs.length) : CsOk F S (putC F cs c f t) := by
  intro y hy
  rw [putC_len]
  by_cases hq : faultC cs c = 0 ∧ isField F f = true
  · obtain ⟨i, x, rfl, hx, hi, hw⟩ : ∃ (i : Nat) (x : PC), c = (i : Int) + 1 ∧ cs[i]? = some x ∧ i < cs.length ∧ x.fr = false := by
      rcases fault_ways cs c with ⟨_, h1⟩ | ⟨i, x, a, b, d, e⟩
      · rw [h1] at hq; omega
      · rcases e with ⟨_, e⟩ | ⟨e, _⟩
        · rw [e] at hq; omega
        · exact ⟨i, x, a, b, d, e⟩
    obtain ⟨k, hk, rfl⟩ := isField_iff.1 hq.2
    rw [putC_at F cs i k t x hx hw hk, okTo_id ht] at hy
    rcases List.mem_or_eq_of_mem_set hy with e | e
    · exact h y e
    · subst e
      have h0 := h x (List.mem_of_getElem? hx)
      refine ⟨h0.1, ?_⟩
      have h1 := loadC_iff.1 h0.2
      rw [loadC_iff]
      refine ⟨by rw [putTo_len]; exact h1.1, fun j hj => ?_⟩
      rw [at_set x k j t (by omega)]
      obtain ⟨b1, b2, b3⟩ := h1.2 j hj
      split
      · exact ⟨ht.1, ht.2, fun e => by simp [putTo, hw] at e⟩
      · exact ⟨b1, b2, b3⟩
  · rw [putC_no F cs c f t (by
      by_cases h1 : faultC cs c = 0
      · right
        cases e : isField F f with
        | true => exact absurd ⟨h1, e⟩ hq
        | false => rfl
      · exact .inl h1)] at hy
    exact h y hy
theorem freeC_ok {F : Nat} {S : Int} {cs : List PC} (h : CsOk F S cs) (c : Int) : CsOk F S (freeC F cs c) := by
  intro y hy
  rw [freeC_len]
  by_cases hq : faultC cs c = 0
  · obtain ⟨i, x, rfl, hx, hi, hw⟩ : ∃ (i : Nat) (x : PC), c = (i : Int) + 1 ∧ cs[i]? = some x ∧ i < cs.length ∧ x.fr = false := by
      rcases fault_ways cs c with ⟨_, h1⟩ | ⟨i, x, a, b, d, e⟩
      · rw [h1] at hq; omega
      · rcases e with ⟨_, e⟩ | ⟨e, _⟩
        · rw [e] at hq; omega
        · exact ⟨i, x, a, b, d, e⟩
    rw [freeC_at F cs i x hx hw] at hy
    rcases List.mem_or_eq_of_mem_set hy with e | e
    · exact h y e
    · subst e
      have h0 := h x (List.mem_of_getElem? hx)
      refine ⟨h0.1, ?_⟩
      rw [loadC_iff]
      refine ⟨by simp [freed, zeros], fun j hj => ?_⟩
      have : (freed F x).at j = 0 := zeros_at F j
      rw [this]; exact ⟨by omega, by omega, fun _ => rfl⟩
  · rw [freeC_no F cs c hq] at hy
    exact h y hy
theorem Rt.csok {g : GR} {s : SV} (h : Rt g s) : CsOk g.F g.S s.cs := fun c hc => by
  obtain ⟨r, hr, rfl⟩ := List.mem_map.1 hc
  refine ⟨h.ty r hr, ?_⟩
  have := h.ld r hr
  unfold SV.cs; rw [List.length_map]; exact this
theorem SV.csl (s : SV) : s.cs.length = s.rs.length := by unfold SV.cs; rw [List.length_map]
theorem Rt.at_ {g : GR} {s : SV} (h : Rt g s) (x : Int) : 0 ≤ atL s.vs x ∧ atL s.vs x ≤ (s.cs.length : Int) := by
  rw [s.csl]
  rcases atL_mem s.vs x with e | e
  · rw [e]; omega
  · exact h.vs _ e
theorem Rt.get_ {g : GR} {s : SV} (h : Rt g s) (c f : Int) : 0 ≤ getV g.F s.cs c f ∧ getV g.F s.cs c f ≤ (s.cs.length : Int) := by
  unfold getV
  split
  · rename_i hq
    obtain ⟨k, hk, rfl⟩ := isField_iff.1 hq.2
    cases hc : s.cs[c.toNat - 1]? with
    | none => simp
    | some x =>
      have := (loadC_iff.1 (h.csok x (List.mem_of_getElem? hc)).2).2 k hk
      simp; omega
  · omega
theorem Rt.num_ {g : GR} {s : SV} (h : Rt g s) (o : Opd) (ho : okI o.n) : okI (numL s.is o) := by
  unfold numL
  split
  · exact ho
  · rcases atL_mem s.is o.v with e | e
    · rw [e]; exact okI_small (by omega)
    · exact h.iok _ e
/-- A state that was made: it is right, if its parts are. -/
theorem Rt.made {g : GR} {s t : SV} {a : Acn} {inp : Int} (h : Rt g s) (hh : hasB g a = true) (hn : s.rs.length < 2000000) (hi : okI inp) (hl : okI a.l.n) (e1 : t.pt = s.pt) (e2 : t.vs = nxV g.F s a inp) (e3 : t.is = nxI s a inp) (e4 : t.cs = nxC g.F s a inp) :
    Rt g t ∧ t.rs.length ≤ s.rs.length + 1 := by
  have hcl : t.rs.length = (nxC g.F s a inp).length := by rw [← e4, t.csl]
  have hsl := s.csl
  obtain ⟨hra, hin⟩ := has_right hh
  obtain ⟨hp1, hp2, hp3, hp4, _⟩ := rights_pos hra
  have hlen : s.cs.length ≤ (nxC g.F s a inp).length ∧ (nxC g.F s a inp).length ≤ s.cs.length + 1 := by
    unfold nxC
    repeat' split
    all_goals first | (rw [putC_len]; omega) | (rw [freeC_len]; omega) | (simp; done) | (simp; omega) | omega
  have hcs : CsOk g.F g.S (nxC g.F s a inp) := by
    unfold nxC
    split
    · exact putC_ok h.csok _ _ _ (by omega)
    split
    · exact putC_ok h.csok _ _ _ (h.at_ _)
    split
    · rename_i hk6
      split
      · exact h.csok
      · intro c hc
        rcases List.mem_append.1 hc with e | e
        · refine ⟨(h.csok c e).1, loadC_mono (h.csok c e).2 (by simp)⟩
        · rw [List.mem_singleton] at e; subst e
          refine ⟨⟨hp4 hk6, ?_⟩, newC_load _ _ _⟩
          unfold inG at hin
          rw [if_neg (by omega), if_neg (by omega), if_neg (by omega), if_neg (by omega), if_pos hk6] at hin
          simp at hin; exact hin.2
    split
    · exact freeC_ok h.csok _
    · exact h.csok
  have hvl : (nxV g.F s a inp).length = s.vs.length := by
    unfold nxV
    repeat' split
    all_goals first | rw [withL_len] | rfl
  have hvr : ∀ v ∈ nxV g.F s a inp, 0 ≤ v ∧ v ≤ ((nxC g.F s a inp).length : Int) := by
    intro v hv
    have hold : ∀ v ∈ s.vs, 0 ≤ v ∧ v ≤ (s.cs.length : Int) := fun v hv => by rw [hsl]; exact h.vs v hv
    have key : 0 ≤ v ∧ (v ≤ (s.cs.length : Int) ∨ (a.kind = 6 ∧ inp ≠ 0 ∧ v ≤ (s.cs.length : Int) + 1)) := by
      unfold nxV at hv
      split at hv
      · rcases withL_mem hv with e | e
        · subst e; omega
        · have := hold v e; omega
      split at hv
      · rcases withL_mem hv with e | e
        · subst e; have := h.at_ a.y; omega
        · have := hold v e; omega
      split at hv
      · split at hv
        · rcases withL_mem hv with e | e
          · subst e; have := h.get_ (atL s.vs a.y) a.f; omega
          · have := hold v e; omega
        · have := hold v hv; omega
      split at hv
      · rename_i hk6
        rcases withL_mem hv with e | e
        · subst e
          split
          · omega
          · rename_i h0; exact ⟨by omega, .inr ⟨hk6, h0, by omega⟩⟩
        · have := hold v e; omega
      · have := hold v hv; omega
    refine ⟨key.1, ?_⟩
    rcases key.2 with e | ⟨e1, e2, e3⟩
    · omega
    · have : (nxC g.F s a inp).length = s.cs.length + 1 := by
        unfold nxC
        rw [if_neg (by omega), if_neg (by omega), if_pos e1, if_neg e2]; simp
      omega
  have hil : (nxI s a inp).length = s.is.length := by
    unfold nxI
    repeat' split
    all_goals first | rw [withL_len] | rfl
  have hio : ∀ x ∈ nxI s a inp, okI x := by
    intro x hx
    unfold nxI at hx
    split at hx
    · rcases withL_mem hx with e | e
      · subst e; exact hi
      · exact h.iok x e
    split at hx
    · rcases withL_mem hx with e | e
      · subst e
        unfold nxN
        split
        · exact okI_wrap _
        split
        · exact okI_wrap _
        · exact h.num_ _ hl
      · exact h.iok x e
    · exact h.iok x hx
  refine ⟨⟨by rw [e1]; exact h.pt, by rw [e2, hvl]; exact h.vl, by rw [e3, hil]; exact h.il, by rw [e2, hcl]; exact hvr, fun r hr => ?_, fun r hr => ?_, by rw [e3]; exact hio, by omega⟩, by omega⟩
  · have : r.c ∈ t.cs := List.mem_map.2 ⟨r, hr, rfl⟩
    rw [e4] at this
    exact (hcs _ this).1
  · have : r.c ∈ t.cs := List.mem_map.2 ⟨r, hr, rfl⟩
    rw [e4] at this
    rw [hcl]; exact (hcs _ this).2
end Go.Proofs.YtebmhadpkncgfaaDoor
namespace Go.Proofs.YtebmhadpkncgfaaDoor
open Go.RowKit Go.Maps Go.Sort
open Aw.Ac (Acn Opd)
/-- A copy under way: k cells are there. -/
structure StI (w : World) (s : SV) (B : Nat) (wr : World) (k : Nat) : Prop where
  os : OwS w wr s
  far : w.heap.size + 2 ≤ B
  row : ∃ (cur : Array Value) (ys : List RC), Bk wr B 85 cur ∧ cur.size = s.rs.length * 3 ∧ ys.length = k ∧ ys.map RC.c = (s.rs.take k).map RC.c ∧
    ∀ i r, ys[i]? = some r → (∀ j v, r.cells[j]? = some v → cur[i * 3 + j]? = some v) ∧ ∃ q, r.q = some ⟨q, 0, none⟩ ∧ B < q ∧ Bk wr q 3 (ints r.c.to).toArray
theorem StI.start {w w2 : World} {s : SV} (h : OwS w w2 s) : StI w s w2.heap.size (w2.alloc (.cells (Zc s.rs.length) 85)) 0 :=
  ⟨h.far (alloc_below w2 _), h.sz, _, [], (MapKept.heap_alloc w2 _).1, Zc_size _, rfl, by simp, fun i r hr => by simp at hr⟩
theorem StI.far' {w wr w' : World} {s : SV} {B k : Nat} (h : StI w s B wr k) (hb : RowKit.Below wr.heap.size wr w') : StI w s B w' k := by
  obtain ⟨cur, ys, h1, h2, h3, h4, h5⟩ := h.row
  refine ⟨h.os.far hb, h.far, cur, ys, h1.below hb h1.lt, h2, h3, h4, fun i r hr => ?_⟩
  obtain ⟨a, q, b, c, d⟩ := h5 i r hr
  exact ⟨a, q, b, c, d.below hb d.lt⟩
theorem StI.blk {w wr : World} {s : SV} {B k : Nat} (h : StI w s B wr k) : B < wr.heap.size := by
  obtain ⟨cur, ys, h1, _⟩ := h.row; exact h1.lt
theorem StI.cell {w wr : World} {s : SV} {B k : Nat} (h : StI w s B wr k) (i : Nat) (hi : i < s.rs.length * 3) : (∃ u, wr.cell? ⟨B, i, none⟩ = some u) ∧ wr.frozen? ⟨B, i, none⟩ = false := by
  obtain ⟨cur, ys, h1, h2, _⟩ := h.row
  exact ⟨⟨_, by rw [h1.cell]; exact Array.getElem?_eq_getElem (by omega)⟩, h1.frozen _⟩
theorem StI.put {w wr : World} {s : SV} {B k q : Nat} {x : RC} (h : StI w s B wr k) (hx : s.rs[k]? = some x) (hq : B < q) (hb : Bk wr q 3 (ints x.c.to).toArray) :
    StI w s B (((wr.setCell ⟨B, k * 3, none⟩ (.int .i64 x.c.ty)).setCell ⟨B, k * 3 + 1, none⟩ (.bool x.c.fr)).setCell ⟨B, k * 3 + 2, none⟩ (.slice (some ⟨q, 0, none⟩) x.c.to.length x.c.to.length)) (k + 1) := by
  obtain ⟨cur, ys, h1, h2, h3, h4, h5⟩ := h.row
  have hg : Gr wr (((wr.setCell ⟨B, k * 3, none⟩ (.int .i64 x.c.ty)).setCell ⟨B, k * 3 + 1, none⟩ (.bool x.c.fr)).setCell ⟨B, k * 3 + 2, none⟩ (.slice (some ⟨q, 0, none⟩) x.c.to.length x.c.to.length)) (fun j => j = B) :=
    (((Gr.refl wr (fun j => j = B)).setCell (p := ⟨B, k * 3, none⟩) (fun _ => rfl) _).setCell (p := ⟨B, k * 3 + 1, none⟩) (fun _ => rfl) _).setCell (p := ⟨B, k * 3 + 2, none⟩) (fun _ => rfl) _
  have hfar := h.far
  have hk : k < s.rs.length := (List.getElem?_eq_some_iff.1 hx).1
  have hsz := hg.size
  refine ⟨⟨hg.bk h.os.box (by omega), hg.bk h.os.res (by omega), h.os.low.trans (hg.below h.os.low.size (fun j hj => by omega)), Nat.le_trans h.os.sz hsz⟩, h.far, _, ys ++ [⟨x.c, some ⟨q, 0, none⟩, x.c.to.length⟩], ((h1.set_ (k * 3) _).set_ (k * 3 + 1) _).set_ (k * 3 + 2) _, by simp [h2], by simp [h3], ?_, fun i r hr => ?_⟩
  · rw [List.map_append, h4, List.take_add_one, hx]; simp
  · by_cases hi : i < k
    · rw [List.getElem?_append_left (by omega)] at hr
      obtain ⟨a, q', b, c, d⟩ := h5 i r hr
      refine ⟨fun j v hv => ?_, q', b, c, hg.bk d (by omega)⟩
      have hj : j < 3 := by have := (List.getElem?_eq_some_iff.1 hv).1; simpa [RC.cells] using this
      rw [Array.getElem?_setIfInBounds_ne (by omega), Array.getElem?_setIfInBounds_ne (by omega), Array.getElem?_setIfInBounds_ne (by omega)]
      exact a j v hv
    · have hik : i = k := by
        have := (List.getElem?_eq_some_iff.1 hr).1
        simp [h3] at this; omega
      subst hik
      rw [List.getElem?_append_right (by omega), h3, Nat.sub_self] at hr
      simp at hr; subst hr
      refine ⟨fun j v hv => ?_, q, rfl, hq, hg.bk hb (by omega)⟩
      have hj : j < 3 := by have := (List.getElem?_eq_some_iff.1 hv).1; simpa [RC.cells] using this
      obtain rfl | rfl | rfl : j = 0 ∨ j = 1 ∨ j = 2 := by omega
      · rw [Array.getElem?_setIfInBounds_ne (by omega), Array.getElem?_setIfInBounds_ne (by omega), Nat.add_zero, Array.getElem?_setIfInBounds_self_of_lt (by omega)]
        simpa [RC.cells] using hv
      · rw [Array.getElem?_setIfInBounds_ne (by omega), Array.getElem?_setIfInBounds_self_of_lt (by simp; omega)]
        simpa [RC.cells] using hv
      · rw [Array.getElem?_setIfInBounds_self_of_lt (by simp; omega)]
        simpa [RC.cells] using hv
theorem LayR.blk {w : World} {B : Nat} {cur : Array Value} {ys : List RC} (h1 : Bk w B 85 cur) (h5 : ∀ i r, ys[i]? = some r → (∀ j v, r.cells[j]? = some v → cur[i * 3 + j]? = some v) ∧ ∃ q, r.q = some ⟨q, 0, none⟩ ∧ B < q ∧ Bk w q 3 (ints r.c.to).toArray) (hok : ∀ r ∈ ys, r.c.ok) : LayR 3 RC.cells RC.lies w (some ⟨B, 0, none⟩) ys := by
  refine .inr ⟨B, 0, rfl, fun k x hx => ?_⟩
  obtain ⟨a, q, b, c, d⟩ := h5 k x hx
  refine ⟨fun j v hv => ?_, .inr ⟨q, 0, b, by simpa using d.range⟩, hok x (List.mem_of_getElem? hx)⟩
  rw [Nat.zero_add, h1.cell]; exact a j v hv
/-- The end of a copy. -/
theorem StI.end_ {w wr W : World} {s : SV} {B va ia : Nat} (h : StI w s B wr s.rs.length) (hl : s.lies w) (hg : Gr wr W (fun j => j = w.heap.size + 1)) (hv : Bk W va 3 (ints s.vs).toArray) (hi : Bk W ia 3 (ints s.is).toArray) (h1 : w.heap.size ≤ va) (h2 : w.heap.size ≤ ia) :
    OwnSP w s (.returned (.agg (stA s.pt (some ⟨va, 0, none⟩) s.vs.length s.vs.length (some ⟨ia, 0, none⟩) s.is.length s.is.length (some ⟨B, 0, none⟩) s.rs.length s.rs.length))) W := by
  obtain ⟨cur, ys, k1, k2, k3, k4, k5⟩ := h.row
  have hfar := h.far
  rw [List.take_length] at k4
  have hok : ∀ r ∈ ys, r.c.ok := fun r hr => SV.oks hl _ (by rw [← k4]; exact List.mem_map.2 ⟨r, hr, rfl⟩)
  refine ⟨⟨s.pt, some ⟨va, 0, none⟩, s.vs, s.vs.length, some ⟨ia, 0, none⟩, s.is, s.is.length, some ⟨B, 0, none⟩, ys, s.rs.length⟩, by simp [SV.A, stA, k3], ⟨rfl, rfl, rfl, k4.symm⟩, fun w' hw => ?_, h.os.low.trans (hg.below h.os.low.size (fun j hj => by omega))⟩
  have ha : Gr wr w' (fun j => j < w.heap.size ∨ j = w.heap.size + 1) := (hg.mono (fun _ _ h => .inr h)).trans (hw.mono (fun _ _ h => .inl h))
  exact ⟨.inr ⟨va, 0, rfl, by simpa using (hw.bk hv (by omega)).range⟩, .inr ⟨ia, 0, rfl, by simpa using (hw.bk hi (by omega)).range⟩, LayR.blk (ha.bk k1 (by omega)) (fun i r hr => by
    obtain ⟨a, q, b, c, d⟩ := k5 i r hr
    exact ⟨a, q, b, c, ha.bk d (by omega)⟩) hok⟩
end Go.Proofs.YtebmhadpkncgfaaDoor
