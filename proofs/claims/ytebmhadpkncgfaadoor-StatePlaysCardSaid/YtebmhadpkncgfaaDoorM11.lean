/-
  The document's Do: a new cell. The document's Do: sums and differences. The program's Do, of an action that the graph has. The document's Do: a number is put. Both sides' Do, of any action, at a state that is right. The program's Do, of any action that the graph has, at a state that is right. Both s
-/
import Derived.Test.YtebmhadpkncgfaaDoorM10
import Derived.Test.YtebmhadpkncgfaaDoorM09
import Derived.Test.YtebmhadpkncgfaaDoorM06
set_option maxHeartbeats 40000000
set_option maxRecDepth 100000
namespace Go.Proofs.YtebmhadpkncgfaaDoor
open Go.RowKit Go.Maps Go.Sort
open Aw.Ac (Acn Opd)
def VarF (w5 : World) (O : Nat) (w : World) (p : Option Addr) (l : List Int) : Prop := ∀ w', Gr w w' (fun k => k < w5.heap.size ∨ k = O) → IR w' p l
theorem VarF.set {w5 wr : World} {O : Nat} {p : Option Addr} {l : List Int} (h : VarF w5 O wr p l) (i : Nat) (v : Value) : VarF w5 O (wr.setCell ⟨O, i, none⟩ v) p l := fun w' hg =>
  h w' ((Gr.setCell (S := fun k => k < w5.heap.size ∨ k = O) (Gr.refl _ _) (p := ⟨O, i, none⟩) (fun _ => .inr rfl) v).trans hg)
theorem Nw.varf {w w5 wr : World} {O g : Nat} {l : List Int} (h : Nw w wr g l) (h1 : w5.heap.size ≤ w.heap.size) (h2 : O < w.heap.size) : VarF w5 O wr (some ⟨g, 0, none⟩) l := fun w' hg => h.gr hg (by have := h.lo; omega)
theorem D6.putw {w w5 wr : World} {g : GR} {s : SV} {a : Acn} {O c : Nat} {t : SV} {p : Option Addr} {l : List Int} (h : D6 w w5 wr g s a O t) (h5w : w.heap.size + 5 ≤ w5.heap.size) (hl : VarF w5 O wr p l) :
    D6 w w5 (wr.setCell ⟨O, 1, none⟩ (.slice p l.length c)) g s a O { t with vp := p, vs := l, vc := c } := by
  have hz := h.d5.sz
  have hf := h.far
  have h5 := h.low.size
  have hg : Gr wr (wr.setCell ⟨O, 1, none⟩ (.slice p l.length c)) (fun k => k = O) := Gr.setCell (S := fun k => k = O) (Gr.refl _ _) (p := ⟨O, 1, none⟩) (fun _ => rfl) _
  have hb := h.out.set_ 1 (.slice p l.length c)
  have e : t.A.setIfInBounds 1 (.slice p l.length c) = ({ t with vp := p, vs := l, vc := c } : SV).A := by simp [SV.A]
  rw [e] at hb
  have hbel : RowKit.Below w5.heap.size wr (wr.setCell ⟨O, 1, none⟩ (.slice p l.length c)) := hg.below h5 (fun k h => by omega)
  refine ⟨⟨hg.bk h.d5.gr (fun e => by omega), hg.bk h.d5.st (fun e => by omega), hg.bk h.d5.ac (fun e => by omega), hg.bk h.d5.r1 (fun e => by omega), hg.bk h.d5.r2 (fun e => by omega), h.d5.low.trans (hg.below h.d5.low.size (fun k h' => by omega)), by have := hg.size; omega⟩, hb, h.far, fun w' h' => ?_, h.low.trans hbel⟩
  have hall : Gr wr w' (fun k => k < w5.heap.size ∨ k = O) := (hg.mono (fun _ _ h => .inr h)).trans h'
  have ht := h.lies w' hall
  exact ⟨hl w' hall, ht.i, ht.c⟩
theorem do8_6n (g : GR) (s : SV) (a : Acn) (inp : Int) (w : World) (hg : Gok g) (hs : Rt g s) (hl : s.lies w) (hh : hasB g a = true) (hk : a.kind = 6) (hi : inp = 0) : Calls Tryd.prog 8 #[.agg g.cs, .agg s.A, .agg a.cs, .int .i64 inp] w (DoQ w s.pt (withL s.vs a.x 0) s.is s.cs (evA 1 a.pl 0)) := by
  subst hi
  obtain ⟨w5, hw5⟩ : ∃ w5, ((((w.alloc (.cells g.cs 30)).alloc (.cells s.A 33)).alloc (.cells a.cs 43)).alloc (.cells (stA 0 none 0 0 none 0 0 none 0 0) 33)).alloc (.cells (evA 0 0 0) 37) = w5 := ⟨_, rfl⟩
  have HW : Hid (((((w.alloc (.cells g.cs 30)).alloc (.cells s.A 33)).alloc (.cells a.cs 43)).alloc (.cells #[.int .i64 0, .slice none 0 0, .slice none 0 0, .slice none 0 0] 33)).alloc (.cells #[.int .i64 0, .int .i64 0, .int .i64 0] 37) = w5) := hdn hw5
  have HD : Hid (D5 w w5 g s a) := hdn (by rw [← hw5]; exact D5.start w g s a)
  have HS5 := hdn HD.out.st
  have HL : Hid (s.lies w5) := hdn (hl.below HD.out.low)
  have HC := hdn (own21_any g.F s w5 HL.out (by have := hs.vl; have := hg.V; omega) (by have := hs.il; have := hg.I; omega) hs.n hs.lens hg.F)
  have HRI := hdn (fun wz (hz : RowKit.Below w5.heap.size w5 wz) => right22_any g s wz hg hs (HL.out.below hz))
  have HHA := hdn (fun wz => has23_any g a wz)
  rw [hh] at HHA
  have HLO : Hid (∀ wz, RowKit.Below w5.heap.size w5 wz → Calls Tryd.prog 24 #[.slice g.fp g.F g.fc, .slice s.cp s.rs.length s.cc] wz fun e w' => ∃ v N, e = .returned (.agg #[.int .i64 g.F, v, .bool true]) ∧ Out g.F w' N v (s.rs.map RC.c) ∧ (∀ b, N b → wz.heap.size ≤ b) ∧ RowKit.Below wz.heap.size wz w') := hdn (fun wz hz => by
    have := refLoad_any g.F g.fc s.cc g.fp s.cp s.rs wz (HL.out.c.below hz (fun x h => RC.lies_below' h hz)) hg.F hs.n
    rw [hs.loaded] at this
    exact this)
  have CV := fun (x : Int) (wz : World) (hz : RowKit.Below w5.heap.size w5 wz) => qb_call (wB := wz) (F := 25) (ar := #[.slice s.vp s.vs.length s.vc, .int .i64 x]) (v := .int .i64 (atL s.vs x)) (fun wr hb' => (at25_any s.vp s.vs s.vc x wr ((HL.out.below hz).v.below hb')).mono (fun e w' he => ⟨he.1, same_below he.2⟩))
  have HVX := hdn (CV a.x)
  have HVY := hdn (CV a.y)
  have HWV : Hid (∀ x wz, RowKit.Below w5.heap.size w5 wz → Calls Tryd.prog 26 #[.slice s.vp s.vs.length s.vc, .int .i64 a.x, .int .i64 x] wz (WithP wz (withL s.vs a.x x))) := hdn (fun x wz hz => with_any s.vp s.vs s.vc a.x x wz (HL.out.v.below hz) (by have := hs.vl; have := hg.V; omega))
  have HK := hdn hk
  clear CV hk
  clear hw5 hl hs hg hh
  go_enter Tryd.func8, Tryd.ntmps8
  go_upto_region 1 with fail
  rw [HW.out]
  clear HW
  go_upto_region 2 with (first
    | ((with_reducible show wpList _ _ _ (Oper.mk _ (Op.load 33 _) _ _ _ _ :: _) _ _); refine wpList_load_bk rfl 33 _ rfl (w.heap.size + 1) 33 s.A rfl _ HS5.out Tryd.underlying33 rfl size33 ?_)
    | (go_at_call 21; refine HC.out.mono ?_; rintro e w6 ⟨t, rfl, hs6, hv6, hb6⟩; have HT := hdn hs6; have HV := hdn hv6; have HB6 := hdn hb6; have HZ6 : Hid (Bk (w6.alloc (.cells #[.int .i64 0, .slice none 0 0, .slice none 0 0, .slice none 0 0] 33)) w6.heap.size 33 (stA 0 none 0 0 none 0 0 none 0 0)) := hdn (MapKept.heap_alloc w6 _).1; clear hs6 hv6 hb6)
    | ((with_reducible show wpList _ _ _ (Oper.mk none (Op.store 33 _ _) _ _ _ _ :: _) _ _); refine wpList_store_all rfl 33 _ _ rfl w6.heap.size 33 _ t.A rfl rfl HZ6.out size33 rfl (SV.A_one t) ?_; intro w7 h7 g7))
  have H6 : Hid (D6 w w5 w7 g s a w6.heap.size t) := hdn (D6.start HD.out HB6.out HV.out h7.out g7.out)
  clear h7 g7 HC HS5 HV HB6 HZ6
  generalize w6.heap.size = O at H6 ⊢
  have HG7 := hdn H6.out.d5.gr
  have HS7 := hdn H6.out.d5.st
  go_upto_region 4 with (first
    | ((with_reducible show wpList _ _ _ (Oper.mk (some 25) (Op.load 30 _) _ _ _ _ :: _) _ _); refine wpList_load_bk rfl 30 _ rfl w.heap.size 30 g.cs rfl _ HG7.out Tryd.underlying30 rfl size30 ?_)
    | ((with_reducible show wpList _ _ _ (Oper.mk (some 26) (Op.load 33 _) _ _ _ _ :: _) _ _); refine wpList_load_bk rfl 33 _ rfl (w.heap.size + 1) 33 s.A rfl _ HS7.out Tryd.underlying33 rfl size33 ?_)
    | (go_at_call 22; refine (HRI.out w7 H6.out.low).mono ?_; rintro e w8 ⟨rfl, hb8⟩; have H8 := hdn (H6.out.far' hb8); have HG8 := hdn H8.out.d5.gr; have HA8 := hdn H8.out.d5.ac; obtain ⟨c0, c1, c2, c3, c4, c5, c6, c7, c8, c9⟩ := G10.of HG8.out; obtain ⟨a0, a1, a2, a3, a4, a5, a6, a7, a8, a9, a10, a11⟩ := A12f.of HA8.out; clear hb8)
    | (go_at_call 23; refine (HHA.out w8).mono ?_; rintro e w9 ⟨rfl, hb9⟩; have H9 := hdn (H8.out.far' hb9); clear hb9))
  clear c0 c1 c2 c3 c4 c5 c6 c7 c8 c9 a0 a1 a2 a3 a4 a5 a6 a7 a8 a9 a10 a11 HG8 HA8 HRI HHA HG7 HS7 H8
  obtain ⟨_, _, _, _, _, _, _, _, _, c9⟩ := G10.of H9.out.d5.gr
  obtain ⟨_, _, _, s3⟩ := Z33.of H9.out.d5.st
  go_upto_region 5 with (first
    | (go_at_call 24; refine (HLO.out w9 H9.out.low).mono ?_; rintro e w10 ⟨v, N, rfl, hov, hnv, hbv⟩; have HOV := hdn hov; have HNV := hdn hnv; have HBV := hdn hbv; have HZ10 : Hid (Bk (w10.alloc (.cells #[.int .i64 0, .slice none 0 0, .bool false] 59)) w10.heap.size 59 #[.int .i64 0, .slice none 0 0, .bool false]) := hdn (MapKept.heap_alloc w10 _).1; have H1C : Hid ((#[.int .i64 g.F, v, .bool true] : Array Value).all (·.oneCell') = true) := hdn (Kin.Lie.oneA hov); clear hov hnv hbv)
    | ((with_reducible show wpList _ _ _ (Oper.mk none (Op.store 59 _ _) _ _ _ _ :: _) _ _); refine wpList_store_all rfl 59 _ _ rfl w10.heap.size 59 _ #[.int .i64 g.F, v, .bool true] rfl rfl HZ10.out size29 rfl H1C.out ?_; intro w11 h11 g11))
  have H7 : Hid (D7 w w5 w11 g s a O t w10.heap.size v N) := hdn (D7.start H9.out HBV.out HOV.out HNV.out h11.out g11.out)
  clear h11 g11 HOV HNV HBV HZ10 H1C c9 s3
  generalize w10.heap.size = B at H7 ⊢
  simp only [Act.put]
  obtain ⟨a0, a1, a2, a3, a4, a5, a6, a7, a8, a9, a10, a11⟩ := A12f.of H7.out.d6.d5.ac
  obtain ⟨s0, s1, s2, s3⟩ := Z33.of H7.out.d6.d5.st
  have cX := HVX.out w11 H7.out.d6.low
  have cY := HVY.out w11 H7.out.d6.low
  have p1 := cell_regrown a1; have p2 := cell_regrown a2; have p3 := cell_regrown s1
  refine wp_region_quiet_below (by kernel_rfl) (by kernel_rfl) ?_
  repeat (go_big_quiet_step (first | (with_reducible exact cX _ _) | (with_reducible exact cY _ _)))
  refine wpQuiet_nil ?_
  intro _ hw'
  obtain ⟨⟨dz, osz⟩, hw''⟩ := hw'
  subst hw''
  have H12 : Hid (D7 w w5 (grow (redrawn w11 dz) osz) g s a O t B v N) := hdn (H7.out.far' (below_regrown w11 dz osz))
  generalize grow (redrawn w11 dz) osz = w12 at H12 ⊢
  clear p1 p2 p3 cX cY a0 a1 a2 a3 a4 a5 a6 a7 a8 a9 a10 a11 s0 s1 s2 s3 H7 H9 HVX HVY HLO
  obtain ⟨a0, a1, a2, a3, a4, a5, a6, a7, a8, a9, a10, a11⟩ := A12f.of H12.out.d6.d5.ac
  obtain ⟨s0, s1, s2, s3⟩ := Z33.of H12.out.d6.d5.st
  rw [HK.out] at a0
  go_upto_region 27 with (go_at_call 26; refine (HWV.out 0 w12 H12.out.d6.low).mono ?_; rintro e w13 ⟨g1, cp1, rfl, hnw⟩; have HNW := hdn hnw; have H13 := hdn (H12.out.d6.far' hnw.below); have f13 := H13.out.out.frozen 1; have g13 : w13.cell? ⟨O, 1, none⟩ = some (.slice t.vp t.vs.length t.vc) := H13.out.out.cell 1; clear hnw)
  have H14 := hdn (H13.out.putv (c := cp1) HNW.out HD.out.sz H12.out.d6.low.size H12.out.d6.out.lt)
  clear f13 g13 a0 a1 a2 a3 a4 a5 a6 a7 a8 a9 a10 a11 s0 s1 s2 s3
  generalize w13.setCell ⟨O, 1, none⟩ (.slice (some ⟨g1, 0, none⟩) (withL s.vs a.x 0).length cp1) = w14 at H14 ⊢
  obtain ⟨tt, htt⟩ : ∃ tt : SV, tt = { t with vp := some ⟨g1, 0, none⟩, vs := withL s.vs a.x 0, vc := cp1 } := ⟨_, rfl⟩
  rw [← htt] at H14
  have HQ : Hid (tt.pt = s.pt ∧ tt.vs = withL s.vs a.x 0 ∧ tt.is = s.is ∧ tt.cs = s.cs) := hdn (by rw [htt]; exact ⟨HT.out.pt.symm, rfl, HT.out.is.symm, HT.out.cs.symm⟩)
  clear htt
  have HR1 := hdn H14.out.d5.r1
  have HR2 := hdn H14.out.d5.r2
  have HS := hdn (H14.out.tail HD.out.sz)
  have K0 : Gr w14 w14 (fun i => i = w.heap.size + 1 + 1 + 1 ∨ i = w.heap.size + 1 + 1 + 1 + 1) := Gr.refl _ _
  have z0 : w14.cell? ⟨w.heap.size + 1 + 1 + 1, 0, none⟩ = some (.int .i64 0) := HR1.out.cell 0
  have f0 := HR1.out.frozen 0
  have z1 : w14.cell? ⟨w.heap.size + 1 + 1 + 1, 1, none⟩ = some (.slice none 0 0) := HR1.out.cell 1
  have f1 := HR1.out.frozen 1
  have z2 : w14.cell? ⟨w.heap.size + 1 + 1 + 1, 2, none⟩ = some (.slice none 0 0) := HR1.out.cell 2
  have f2 := HR1.out.frozen 2
  have z3 : w14.cell? ⟨w.heap.size + 1 + 1 + 1, 3, none⟩ = some (.slice none 0 0) := HR1.out.cell 3
  have f3 := HR1.out.frozen 3
  have y0 : w14.cell? ⟨w.heap.size + 1 + 1 + 1 + 1, 0, none⟩ = some (.int .i64 0) := HR2.out.cell 0
  have x0 := HR2.out.frozen 0
  have y1 : w14.cell? ⟨w.heap.size + 1 + 1 + 1 + 1, 1, none⟩ = some (.int .i64 0) := HR2.out.cell 1
  have x1 := HR2.out.frozen 1
  have y2 : w14.cell? ⟨w.heap.size + 1 + 1 + 1 + 1, 2, none⟩ = some (.int .i64 0) := HR2.out.cell 2
  have x2 := HR2.out.frozen 2
  go_region_held3 (fun w' => w'.cell? ⟨O, 0, none⟩ = some (.int .i64 tt.pt) ∧ w'.cell? ⟨O, 1, none⟩ = some (.slice tt.vp tt.vs.length tt.vc) ∧ w'.cell? ⟨O, 2, none⟩ = some (.slice tt.ip tt.is.length tt.ic) ∧ w'.cell? ⟨O, 3, none⟩ = some (.slice tt.cp tt.rs.length tt.cc) ∧ w'.cell? ⟨w.heap.size + 1 + 1, 5, none⟩ = some (.int .i64 a.pl))
    (first | with_reducible exact HS.out _ K0.drew | with_reducible exact HS.out _ K0 | with_reducible exact HS.out _ (Gr.s4' K0 (.inl rfl) _ _ _ _).drew | with_reducible exact HS.out _ (Gr.s3 K0 (.inr rfl) _ _ _).drew | with_reducible exact HS.out _ (Gr.s3 (Gr.s4' K0 (.inl rfl) _ _ _ _) (.inr rfl) _ _ _).drew | with_reducible exact HS.out _ (Gr.s4' (Gr.s3 K0 (.inr rfl) _ _ _) (.inl rfl) _ _ _ _).drew | fail) (fail)
  go_wp2_with fail
  have q2 := Gr.s4' (S := fun i => i = w.heap.size + 1 + 1 + 1) (Gr.refl w14 _) (C := w.heap.size + 1 + 1 + 1) rfl (.int .i64 tt.pt) (.slice tt.vp tt.vs.length tt.vc) (.slice tt.ip tt.is.length tt.ic) (.slice tt.cp tt.rs.length tt.cc)
  have q3 := Gr.s3 (S := fun i => i = w.heap.size + 1 + 1 + 1 + 1) (Gr.refl ((((w14.setCell ⟨w.heap.size + 1 + 1 + 1, 0, none⟩ (.int .i64 tt.pt)).setCell ⟨w.heap.size + 1 + 1 + 1, 1, none⟩ (.slice tt.vp tt.vs.length tt.vc)).setCell ⟨w.heap.size + 1 + 1 + 1, 2, none⟩ (.slice tt.ip tt.is.length tt.ic)).setCell ⟨w.heap.size + 1 + 1 + 1, 3, none⟩ (.slice tt.cp tt.rs.length tt.cc)) _) (C := w.heap.size + 1 + 1 + 1 + 1) rfl (.int .i64 1) (.int .i64 a.pl) (.int .i64 0)
  have q4 := q3.bk (set4 HR1.out (.int .i64 tt.pt) (.slice tt.vp tt.vs.length tt.vc) (.slice tt.ip tt.is.length tt.ic) (.slice tt.cp tt.rs.length tt.cc)) (by simp)
  have q5 := bk3 (q2.bk HR2.out (by simp)) (.int .i64 1) (.int .i64 a.pl) (.int .i64 0)
  have hg := ((q2.mono (fun _ _ h => .inl h)).trans (q3.mono (fun k _ h => .inr h)) : Gr w14 _ (fun i => i = w.heap.size + 1 + 1 + 1 ∨ i = w.heap.size + 1 + 1 + 1 + 1))
  exact bodyPost_ret (results_two Tryd.results8 rfl rfl rfl rfl (Bk.drewN (n := 1) q4) (Bk.drewN (n := 1) q5)) rfl (D6.finG HD.out.sz H14.out HQ.out hg.drew)
theorem do8_6s (g : GR) (s : SV) (a : Acn) (inp : Int) (w : World) (hg : Gok g) (hs : Rt g s) (hl : s.lies w) (hh : hasB g a = true) (hk : a.kind = 6) (hi : inp ≠ 0) : Calls Tryd.prog 8 #[.agg g.cs, .agg s.A, .agg a.cs, .int .i64 inp] w (DoQ w s.pt (withL s.vs a.x ((s.rs.length : Int) + 1)) s.is (s.rs.map RC.c ++ [newC g.F a.t]) (evA 1 a.pl 1)) := by
  obtain ⟨w5, hw5⟩ : ∃ w5, ((((w.alloc (.cells g.cs 30)).alloc (.cells s.A 33)).alloc (.cells a.cs 43)).alloc (.cells (stA 0 none 0 0 none 0 0 none 0 0) 33)).alloc (.cells (evA 0 0 0) 37) = w5 := ⟨_, rfl⟩
  have HW : Hid (((((w.alloc (.cells g.cs 30)).alloc (.cells s.A 33)).alloc (.cells a.cs 43)).alloc (.cells #[.int .i64 0, .slice none 0 0, .slice none 0 0, .slice none 0 0] 33)).alloc (.cells #[.int .i64 0, .int .i64 0, .int .i64 0] 37) = w5) := hdn hw5
  have HD : Hid (D5 w w5 g s a) := hdn (by rw [← hw5]; exact D5.start w g s a)
  have HS5 := hdn HD.out.st
  have HL : Hid (s.lies w5) := hdn (hl.below HD.out.low)
  have HC := hdn (own21_any g.F s w5 HL.out (by have := hs.vl; have := hg.V; omega) (by have := hs.il; have := hg.I; omega) hs.n hs.lens hg.F)
  have HRI := hdn (fun wz (hz : RowKit.Below w5.heap.size w5 wz) => right22_any g s wz hg hs (HL.out.below hz))
  have HHA := hdn (fun wz => has23_any g a wz)
  rw [hh] at HHA
  have HLO : Hid (∀ wz, RowKit.Below w5.heap.size w5 wz → Calls Tryd.prog 24 #[.slice g.fp g.F g.fc, .slice s.cp s.rs.length s.cc] wz fun e w' => ∃ v N, e = .returned (.agg #[.int .i64 g.F, v, .bool true]) ∧ Out g.F w' N v (s.rs.map RC.c) ∧ (∀ b, N b → wz.heap.size ≤ b) ∧ RowKit.Below wz.heap.size wz w') := hdn (fun wz hz => by
    have := refLoad_any g.F g.fc s.cc g.fp s.cp s.rs wz (HL.out.c.below hz (fun x h => RC.lies_below' h hz)) hg.F hs.n
    rw [hs.loaded] at this
    exact this)
  have CV := fun (x : Int) (wz : World) (hz : RowKit.Below w5.heap.size w5 wz) => qb_call (wB := wz) (F := 25) (ar := #[.slice s.vp s.vs.length s.vc, .int .i64 x]) (v := .int .i64 (atL s.vs x)) (fun wr hb' => (at25_any s.vp s.vs s.vc x wr ((HL.out.below hz).v.below hb')).mono (fun e w' he => ⟨he.1, same_below he.2⟩))
  have HVX := hdn (CV a.x)
  have HVY := hdn (CV a.y)
  have HWV : Hid (∀ x wz, RowKit.Below w5.heap.size w5 wz → Calls Tryd.prog 26 #[.slice s.vp s.vs.length s.vc, .int .i64 a.x, .int .i64 x] wz (WithP wz (withL s.vs a.x x))) := hdn (fun x wz hz => with_any s.vp s.vs s.vc a.x x wz (HL.out.v.below hz) (by have := hs.vl; have := hg.V; omega))
  have HPU : Hid (∀ v N wz B O t, D7 w w5 wz g s a O t B v N → Calls Tryd.prog 30 #[.agg #[.int .i64 g.F, v, .bool true], .int .i64 a.t] wz (PutR g.F w5 O wz (s.rs.map RC.c ++ [newC g.F a.t]) ((s.rs.length + 1 : Nat) : Int))) := hdn (fun v N wz B O t h => (refAdd_any g.F N _ v a.t wz h.heap hg.F (by rw [List.length_map]; exact hs.n)).mono (fun e w' hp => h.addr (fun c hc => by
    rcases List.mem_append.1 hc with e | e
    · exact SV.oks hl c e
    · rw [List.mem_singleton] at e; subst e; exact loadC_ok (newC_load g.F 0 a.t) (by omega)) (by rw [List.length_map] at hp; exact hp)))
  have HK := hdn hk
  clear CV hk
  clear hw5 hl hs hg hh
  go_enter Tryd.func8, Tryd.ntmps8
  go_upto_region 1 with fail
  rw [HW.out]
  clear HW
  go_upto_region 2 with (first
    | ((with_reducible show wpList _ _ _ (Oper.mk _ (Op.load 33 _) _ _ _ _ :: _) _ _); refine wpList_load_bk rfl 33 _ rfl (w.heap.size + 1) 33 s.A rfl _ HS5.out Tryd.underlying33 rfl size33 ?_)
    | (go_at_call 21; refine HC.out.mono ?_; rintro e w6 ⟨t, rfl, hs6, hv6, hb6⟩; have HT := hdn hs6; have HV := hdn hv6; have HB6 := hdn hb6; have HZ6 : Hid (Bk (w6.alloc (.cells #[.int .i64 0, .slice none 0 0, .slice none 0 0, .slice none 0 0] 33)) w6.heap.size 33 (stA 0 none 0 0 none 0 0 none 0 0)) := hdn (MapKept.heap_alloc w6 _).1; clear hs6 hv6 hb6)
    | ((with_reducible show wpList _ _ _ (Oper.mk none (Op.store 33 _ _) _ _ _ _ :: _) _ _); refine wpList_store_all rfl 33 _ _ rfl w6.heap.size 33 _ t.A rfl rfl HZ6.out size33 rfl (SV.A_one t) ?_; intro w7 h7 g7))
  have H6 : Hid (D6 w w5 w7 g s a w6.heap.size t) := hdn (D6.start HD.out HB6.out HV.out h7.out g7.out)
  clear h7 g7 HC HS5 HV HB6 HZ6
  generalize w6.heap.size = O at H6 ⊢
  have HG7 := hdn H6.out.d5.gr
  have HS7 := hdn H6.out.d5.st
  go_upto_region 4 with (first
    | ((with_reducible show wpList _ _ _ (Oper.mk (some 25) (Op.load 30 _) _ _ _ _ :: _) _ _); refine wpList_load_bk rfl 30 _ rfl w.heap.size 30 g.cs rfl _ HG7.out Tryd.underlying30 rfl size30 ?_)
    | ((with_reducible show wpList _ _ _ (Oper.mk (some 26) (Op.load 33 _) _ _ _ _ :: _) _ _); refine wpList_load_bk rfl 33 _ rfl (w.heap.size + 1) 33 s.A rfl _ HS7.out Tryd.underlying33 rfl size33 ?_)
    | (go_at_call 22; refine (HRI.out w7 H6.out.low).mono ?_; rintro e w8 ⟨rfl, hb8⟩; have H8 := hdn (H6.out.far' hb8); have HG8 := hdn H8.out.d5.gr; have HA8 := hdn H8.out.d5.ac; obtain ⟨c0, c1, c2, c3, c4, c5, c6, c7, c8, c9⟩ := G10.of HG8.out; obtain ⟨a0, a1, a2, a3, a4, a5, a6, a7, a8, a9, a10, a11⟩ := A12f.of HA8.out; clear hb8)
    | (go_at_call 23; refine (HHA.out w8).mono ?_; rintro e w9 ⟨rfl, hb9⟩; have H9 := hdn (H8.out.far' hb9); clear hb9))
  clear c0 c1 c2 c3 c4 c5 c6 c7 c8 c9 a0 a1 a2 a3 a4 a5 a6 a7 a8 a9 a10 a11 HG8 HA8 HRI HHA HG7 HS7 H8
  obtain ⟨_, _, _, _, _, _, _, _, _, c9⟩ := G10.of H9.out.d5.gr
  obtain ⟨_, _, _, s3⟩ := Z33.of H9.out.d5.st
  go_upto_region 5 with (first
    | (go_at_call 24; refine (HLO.out w9 H9.out.low).mono ?_; rintro e w10 ⟨v, N, rfl, hov, hnv, hbv⟩; have HOV := hdn hov; have HNV := hdn hnv; have HBV := hdn hbv; have HZ10 : Hid (Bk (w10.alloc (.cells #[.int .i64 0, .slice none 0 0, .bool false] 59)) w10.heap.size 59 #[.int .i64 0, .slice none 0 0, .bool false]) := hdn (MapKept.heap_alloc w10 _).1; have H1C : Hid ((#[.int .i64 g.F, v, .bool true] : Array Value).all (·.oneCell') = true) := hdn (Kin.Lie.oneA hov); clear hov hnv hbv)
    | ((with_reducible show wpList _ _ _ (Oper.mk none (Op.store 59 _ _) _ _ _ _ :: _) _ _); refine wpList_store_all rfl 59 _ _ rfl w10.heap.size 59 _ #[.int .i64 g.F, v, .bool true] rfl rfl HZ10.out size29 rfl H1C.out ?_; intro w11 h11 g11))
  have H7 : Hid (D7 w w5 w11 g s a O t w10.heap.size v N) := hdn (D7.start H9.out HBV.out HOV.out HNV.out h11.out g11.out)
  clear h11 g11 HOV HNV HBV HZ10 H1C c9 s3
  generalize w10.heap.size = B at H7 ⊢
  simp only [Act.put]
  obtain ⟨a0, a1, a2, a3, a4, a5, a6, a7, a8, a9, a10, a11⟩ := A12f.of H7.out.d6.d5.ac
  obtain ⟨s0, s1, s2, s3⟩ := Z33.of H7.out.d6.d5.st
  have cX := HVX.out w11 H7.out.d6.low
  have cY := HVY.out w11 H7.out.d6.low
  have p1 := cell_regrown a1; have p2 := cell_regrown a2; have p3 := cell_regrown s1
  refine wp_region_quiet_below (by kernel_rfl) (by kernel_rfl) ?_
  repeat (go_big_quiet_step (first | (with_reducible exact cX _ _) | (with_reducible exact cY _ _)))
  refine wpQuiet_nil ?_
  intro _ hw'
  obtain ⟨⟨dz, osz⟩, hw''⟩ := hw'
  subst hw''
  have H12 : Hid (D7 w w5 (grow (redrawn w11 dz) osz) g s a O t B v N) := hdn (H7.out.far' (below_regrown w11 dz osz))
  generalize grow (redrawn w11 dz) osz = w12 at H12 ⊢
  clear p1 p2 p3 cX cY a0 a1 a2 a3 a4 a5 a6 a7 a8 a9 a10 a11 s0 s1 s2 s3 H7 H9 HVX HVY HLO
  obtain ⟨a0, a1, a2, a3, a4, a5, a6, a7, a8, a9, a10, a11⟩ := A12f.of H12.out.d6.d5.ac
  obtain ⟨s0, s1, s2, s3⟩ := Z33.of H12.out.d6.d5.st
  rw [HK.out] at a0
  have hi0 : (inp == 0) = false := by simpa using hi
  have HB12 := hdn H12.out.box
  have HGY := hdn (HPU.out v N w12 B O t H12.out)
  generalize hcs : s.rs.map RC.c ++ [newC g.F a.t] = cs1 at *
  clear hcs HPU hi
  go_upto_region 29 with (first
    | ((with_reducible show wpList _ _ _ (Oper.mk (some 137) (Op.load 59 _) _ _ _ _ :: _) _ _); refine wpList_load_bk rfl 59 _ rfl B 59 #[.int .i64 g.F, v, .bool true] rfl _ HB12.out Tryd.underlying59 rfl size29 ?_)
    | (go_at_call 30; refine HGY.out.mono ?_; rintro e w12b ⟨p1, cap1, rs1, rfl, hm1, hl1, hbz⟩; have H12b := hdn (H12.out.far' hbz.out); have HZ10 : Hid (Bk (w12b.alloc (.cells #[.int .i64 0, .slice none 0 0, .bool false] 59)) w12b.heap.size 59 #[.int .i64 0, .slice none 0 0, .bool false]) := hdn (MapKept.heap_alloc w12b _).1; have H1C : Hid ((#[.int .i64 g.F, .slice p1 rs1.length cap1, .bool true] : Array Value).all (·.oneCell') = true) := hdn (by simp [Value.oneCell']); clear hbz)
    | ((with_reducible show wpList _ _ _ (Oper.mk none (Op.store 59 _ _) _ _ _ _ :: _) _ _); refine wpList_store_all rfl 59 _ _ rfl w12b.heap.size 59 _ #[.int .i64 g.F, .slice p1 rs1.length cap1, .bool true] rfl rfl HZ10.out size29 rfl H1C.out ?_; intro w11b h11 g11))
  have hb13 : RowKit.Below w12b.heap.size w12b w11b := (alloc_below w12b _).grown g11.out (by simp) (fun j hj => by injection hj with hj; omega)
  have H13 := hdn (H12b.out.far' hb13)
  have HL13 := hdn (hl1.out.far hb13)
  clear g11 hl1 HZ10 H1C hb13 a0 a1 a2 a3 a4 a5 a6 a7 a8 a9 a10 a11 s0 s1 s2 s3
  have HK11 : Hid (Bk w11b w12b.heap.size 59 #[.int .i64 g.F, .slice p1 rs1.length cap1, .bool true]) := h11
  have hOf := H13.out.d6.far
  have hOl := H13.out.d6.out.lt
  have hCB : O < w12b.heap.size := H12b.out.d6.out.lt
  have HS : Hid (∀ w', Gr w11b w' (fun i => i = O) → w'.cell? ⟨w12b.heap.size, 1, none⟩ = some (.slice p1 rs1.length cap1) ∧ w'.cell? ⟨w.heap.size + 1, 1, none⟩ = some (.slice s.vp s.vs.length s.vc) ∧ w'.cell? ⟨w.heap.size + 1 + 1, 1, none⟩ = some (.int .i64 a.x)) := hdn (fun w' hz => by
    have l5 := HD.out.sz
    have b1 := hz.bk HK11.out (by omega)
    have b2 := hz.bk H13.out.d6.d5.st (by omega)
    have b3 := hz.bk H13.out.d6.d5.ac (by omega)
    exact ⟨b1.cell 1, b2.cell 1, b3.cell 1⟩)
  generalize w12b.heap.size = CB at *
  have K0 : Gr w11b w11b (fun i => i = O) := Gr.refl _ _
  have hdb : RowKit.Below w11b.heap.size w11b w11b.drew := below_drew (Below.refl _ _)
  have HDB := hdn hdb
  have HWW := hdn (HWV.out ((s.rs.length : Int) + 1) w11b.drew (H13.out.d6.low.trans (hdb.mono H13.out.d6.low.size)))
  have HM1 := hm1
  clear hm1 h11 hdb hOf hCB
  go_wp2_with fail
  go_region_held3 (fun w' => w'.cell? ⟨CB, 1, none⟩ = some (.slice p1 rs1.length cap1) ∧ w'.cell? ⟨w.heap.size + 1, 1, none⟩ = some (.slice s.vp s.vs.length s.vc) ∧ w'.cell? ⟨w.heap.size + 1 + 1, 1, none⟩ = some (.int .i64 a.x))
    (first | with_reducible exact HS.out _ K0.drew | with_reducible exact HS.out _ K0 | with_reducible exact HS.out _ K3 | with_reducible exact HS.out _ (K3.setB _ _) | with_reducible exact HS.out _ ((K3.setB _ _).setB _ _) | fail) (first
    | (go_at_call 26; refine HWW.out.mono ?_; rintro e w13 ⟨g1, cp1, rfl, hnw⟩; have HNW := hdn hnw; have hbw : RowKit.Below w11b.heap.size w11b w13 := HDB.out.trans hnw.below; have K3 : Gr w11b w13 (fun i => i = O) := Gr.of_below hbw; have H13b := hdn (H13.out.d6.far' hbw); have HL13b := hdn (HL13.out.far hbw); have z1 : w13.cell? ⟨O, 1, none⟩ = some (.slice t.vp t.vs.length t.vc) := H13b.out.out.cell 1; have f1 := H13b.out.out.frozen 1; have z3 : w13.cell? ⟨O, 3, none⟩ = some (.slice t.cp t.rs.length t.cc) := H13b.out.out.cell 3; have f3 := H13b.out.out.frozen 3; clear hnw hbw)
    | fail)
  have hO11 : O < w11b.drew.heap.size := hOl
  have hv := HNW.out.varf (w5 := w5) (H13.out.d6.low.trans (HDB.out.mono H13.out.d6.low.size)).size hO11
  have H14 := hdn ((H13b.out.putc (cap := cap1) HD.out.sz HL13b.out).putw (c := cp1) HD.out.sz (hv.set 3 (.slice p1 rs1.length cap1)))
  clear z1 f1 z3 f3 hv hO11
  go_wp2_with fail
  generalize (w13.setCell ⟨O, 3, none⟩ (.slice p1 rs1.length cap1)).setCell ⟨O, 1, none⟩ (.slice (some ⟨g1, 0, none⟩) (withL s.vs a.x ((s.rs.length : Int) + 1)).length cp1) = w14 at H14 ⊢
  obtain ⟨tt, htt⟩ : ∃ tt : SV, tt = { t with cp := p1, rs := rs1, cc := cap1, vp := some ⟨g1, 0, none⟩, vs := withL s.vs a.x ((s.rs.length : Int) + 1), vc := cp1 } := ⟨_, rfl⟩
  rw [← htt] at H14
  have HQ : Hid (tt.pt = s.pt ∧ tt.vs = withL s.vs a.x ((s.rs.length : Int) + 1) ∧ tt.is = s.is ∧ tt.cs = cs1) := hdn (by rw [htt]; exact ⟨HT.out.pt.symm, rfl, HT.out.is.symm, HM1.out⟩)
  clear htt
  have HR1 := hdn H14.out.d5.r1
  have HR2 := hdn H14.out.d5.r2
  have HS := hdn (H14.out.tail HD.out.sz)
  have K0 : Gr w14 w14 (fun i => i = w.heap.size + 1 + 1 + 1 ∨ i = w.heap.size + 1 + 1 + 1 + 1) := Gr.refl _ _
  have z0 : w14.cell? ⟨w.heap.size + 1 + 1 + 1, 0, none⟩ = some (.int .i64 0) := HR1.out.cell 0
  have f0 := HR1.out.frozen 0
  have z1 : w14.cell? ⟨w.heap.size + 1 + 1 + 1, 1, none⟩ = some (.slice none 0 0) := HR1.out.cell 1
  have f1 := HR1.out.frozen 1
  have z2 : w14.cell? ⟨w.heap.size + 1 + 1 + 1, 2, none⟩ = some (.slice none 0 0) := HR1.out.cell 2
  have f2 := HR1.out.frozen 2
  have z3 : w14.cell? ⟨w.heap.size + 1 + 1 + 1, 3, none⟩ = some (.slice none 0 0) := HR1.out.cell 3
  have f3 := HR1.out.frozen 3
  have y0 : w14.cell? ⟨w.heap.size + 1 + 1 + 1 + 1, 0, none⟩ = some (.int .i64 0) := HR2.out.cell 0
  have x0 := HR2.out.frozen 0
  have y1 : w14.cell? ⟨w.heap.size + 1 + 1 + 1 + 1, 1, none⟩ = some (.int .i64 0) := HR2.out.cell 1
  have x1 := HR2.out.frozen 1
  have y2 : w14.cell? ⟨w.heap.size + 1 + 1 + 1 + 1, 2, none⟩ = some (.int .i64 0) := HR2.out.cell 2
  have x2 := HR2.out.frozen 2
  go_region_held3 (fun w' => w'.cell? ⟨O, 0, none⟩ = some (.int .i64 tt.pt) ∧ w'.cell? ⟨O, 1, none⟩ = some (.slice tt.vp tt.vs.length tt.vc) ∧ w'.cell? ⟨O, 2, none⟩ = some (.slice tt.ip tt.is.length tt.ic) ∧ w'.cell? ⟨O, 3, none⟩ = some (.slice tt.cp tt.rs.length tt.cc) ∧ w'.cell? ⟨w.heap.size + 1 + 1, 5, none⟩ = some (.int .i64 a.pl))
    (first | with_reducible exact HS.out _ K0.drew | with_reducible exact HS.out _ K0 | with_reducible exact HS.out _ (Gr.s4' K0 (.inl rfl) _ _ _ _).drew | with_reducible exact HS.out _ (Gr.s3 K0 (.inr rfl) _ _ _).drew | with_reducible exact HS.out _ (Gr.s3 (Gr.s4' K0 (.inl rfl) _ _ _ _) (.inr rfl) _ _ _).drew | with_reducible exact HS.out _ (Gr.s4' (Gr.s3 K0 (.inr rfl) _ _ _) (.inl rfl) _ _ _ _).drew | fail) (fail)
  go_wp2_with fail
  have q2 := Gr.s4' (S := fun i => i = w.heap.size + 1 + 1 + 1) (Gr.refl w14 _) (C := w.heap.size + 1 + 1 + 1) rfl (.int .i64 tt.pt) (.slice tt.vp tt.vs.length tt.vc) (.slice tt.ip tt.is.length tt.ic) (.slice tt.cp tt.rs.length tt.cc)
  have q3 := Gr.s3 (S := fun i => i = w.heap.size + 1 + 1 + 1 + 1) (Gr.refl ((((w14.setCell ⟨w.heap.size + 1 + 1 + 1, 0, none⟩ (.int .i64 tt.pt)).setCell ⟨w.heap.size + 1 + 1 + 1, 1, none⟩ (.slice tt.vp tt.vs.length tt.vc)).setCell ⟨w.heap.size + 1 + 1 + 1, 2, none⟩ (.slice tt.ip tt.is.length tt.ic)).setCell ⟨w.heap.size + 1 + 1 + 1, 3, none⟩ (.slice tt.cp tt.rs.length tt.cc)) _) (C := w.heap.size + 1 + 1 + 1 + 1) rfl (.int .i64 1) (.int .i64 a.pl) (.int .i64 1)
  have q4 := q3.bk (set4 HR1.out (.int .i64 tt.pt) (.slice tt.vp tt.vs.length tt.vc) (.slice tt.ip tt.is.length tt.ic) (.slice tt.cp tt.rs.length tt.cc)) (by simp)
  have q5 := bk3 (q2.bk HR2.out (by simp)) (.int .i64 1) (.int .i64 a.pl) (.int .i64 1)
  have hg := ((q2.mono (fun _ _ h => .inl h)).trans (q3.mono (fun k _ h => .inr h)) : Gr w14 _ (fun i => i = w.heap.size + 1 + 1 + 1 ∨ i = w.heap.size + 1 + 1 + 1 + 1))
  exact bodyPost_ret (results_two Tryd.results8 rfl rfl rfl rfl (Bk.drewN (n := 1) q4) (Bk.drewN (n := 1) q5)) rfl (D6.finG HD.out.sz H14.out HQ.out hg.drew)
end Go.Proofs.YtebmhadpkncgfaaDoor
namespace Go.Proofs.YtebmhadpkncgfaaDoor
open Go.RowKit Go.Maps Go.Sort
open Aw.Ac (Acn Opd)
theorem do8_11a (g : GR) (s : SV) (a : Acn) (inp : Int) (w : World) (hg : Gok g) (hs : Rt g s) (hl : s.lies w) (hh : hasB g a = true) (hk : a.kind = 11) (ho : a.op = 1) : Calls Tryd.prog 8 #[.agg g.cs, .agg s.A, .agg a.cs, .int .i64 inp] w (DoQ w s.pt s.vs (withL s.is a.x (IntKind.i64.wrap (numL s.is a.l + numL s.is a.r))) s.cs (evA 0 0 0)) := by
  have HOP := hdn ho
  obtain ⟨w5, hw5⟩ : ∃ w5, ((((w.alloc (.cells g.cs 30)).alloc (.cells s.A 33)).alloc (.cells a.cs 43)).alloc (.cells (stA 0 none 0 0 none 0 0 none 0 0) 33)).alloc (.cells (evA 0 0 0) 37) = w5 := ⟨_, rfl⟩
  have HW : Hid (((((w.alloc (.cells g.cs 30)).alloc (.cells s.A 33)).alloc (.cells a.cs 43)).alloc (.cells #[.int .i64 0, .slice none 0 0, .slice none 0 0, .slice none 0 0] 33)).alloc (.cells #[.int .i64 0, .int .i64 0, .int .i64 0] 37) = w5) := hdn hw5
  have HD : Hid (D5 w w5 g s a) := hdn (by rw [← hw5]; exact D5.start w g s a)
  have HS5 := hdn HD.out.st
  have HL : Hid (s.lies w5) := hdn (hl.below HD.out.low)
  have HC := hdn (own21_any g.F s w5 HL.out (by have := hs.vl; have := hg.V; omega) (by have := hs.il; have := hg.I; omega) hs.n hs.lens hg.F)
  have HRI := hdn (fun wz (hz : RowKit.Below w5.heap.size w5 wz) => right22_any g s wz hg hs (HL.out.below hz))
  have HHA := hdn (fun wz => has23_any g a wz)
  rw [hh] at HHA
  have HLO : Hid (∀ wz, RowKit.Below w5.heap.size w5 wz → Calls Tryd.prog 24 #[.slice g.fp g.F g.fc, .slice s.cp s.rs.length s.cc] wz fun e w' => ∃ v N, e = .returned (.agg #[.int .i64 g.F, v, .bool true]) ∧ Out g.F w' N v (s.rs.map RC.c) ∧ (∀ b, N b → wz.heap.size ≤ b) ∧ RowKit.Below wz.heap.size wz w') := hdn (fun wz hz => by
    have := refLoad_any g.F g.fc s.cc g.fp s.cp s.rs wz (HL.out.c.below hz (fun x h => RC.lies_below' h hz)) hg.F hs.n
    rw [hs.loaded] at this
    exact this)
  have CV := fun (x : Int) (wz : World) (hz : RowKit.Below w5.heap.size w5 wz) => qb_call (wB := wz) (F := 25) (ar := #[.slice s.vp s.vs.length s.vc, .int .i64 x]) (v := .int .i64 (atL s.vs x)) (fun wr hb' => (at25_any s.vp s.vs s.vc x wr ((HL.out.below hz).v.below hb')).mono (fun e w' he => ⟨he.1, same_below he.2⟩))
  have HVX := hdn (CV a.x)
  have HVY := hdn (CV a.y)
  have HWI : Hid (∀ x wz, RowKit.Below w5.heap.size w5 wz → Calls Tryd.prog 26 #[.slice s.ip s.is.length s.ic, .int .i64 a.x, .int .i64 x] wz (WithP wz (withL s.is a.x x))) := hdn (fun x wz hz => with_any s.ip s.is s.ic a.x x wz (HL.out.i.below hz) (by have := hs.il; have := hg.I; omega))
  have HVA : Hid (∀ (o : Opd) wz, RowKit.Below w5.heap.size w5 wz → Calls Tryd.prog 32 #[.agg s.A, .agg #[.int .i64 o.v, .int .i64 o.n]] wz (RetV wz (.int .i64 (numL s.is o)))) := hdn (fun o wz hz => value32_any s o wz (HL.out.below hz))
  have HK := hdn hk
  clear CV hk
  clear hw5 hl hs hg hh ho
  go_enter Tryd.func8, Tryd.ntmps8
  go_upto_region 1 with fail
  rw [HW.out]
  clear HW
  go_upto_region 2 with (first
    | ((with_reducible show wpList _ _ _ (Oper.mk _ (Op.load 33 _) _ _ _ _ :: _) _ _); refine wpList_load_bk rfl 33 _ rfl (w.heap.size + 1) 33 s.A rfl _ HS5.out Tryd.underlying33 rfl size33 ?_)
    | (go_at_call 21; refine HC.out.mono ?_; rintro e w6 ⟨t, rfl, hs6, hv6, hb6⟩; have HT := hdn hs6; have HV := hdn hv6; have HB6 := hdn hb6; have HZ6 : Hid (Bk (w6.alloc (.cells #[.int .i64 0, .slice none 0 0, .slice none 0 0, .slice none 0 0] 33)) w6.heap.size 33 (stA 0 none 0 0 none 0 0 none 0 0)) := hdn (MapKept.heap_alloc w6 _).1; clear hs6 hv6 hb6)
    | ((with_reducible show wpList _ _ _ (Oper.mk none (Op.store 33 _ _) _ _ _ _ :: _) _ _); refine wpList_store_all rfl 33 _ _ rfl w6.heap.size 33 _ t.A rfl rfl HZ6.out size33 rfl (SV.A_one t) ?_; intro w7 h7 g7))
  have H6 : Hid (D6 w w5 w7 g s a w6.heap.size t) := hdn (D6.start HD.out HB6.out HV.out h7.out g7.out)
  clear h7 g7 HC HS5 HV HB6 HZ6
  generalize w6.heap.size = O at H6 ⊢
  have HG7 := hdn H6.out.d5.gr
  have HS7 := hdn H6.out.d5.st
  go_upto_region 4 with (first
    | ((with_reducible show wpList _ _ _ (Oper.mk (some 25) (Op.load 30 _) _ _ _ _ :: _) _ _); refine wpList_load_bk rfl 30 _ rfl w.heap.size 30 g.cs rfl _ HG7.out Tryd.underlying30 rfl size30 ?_)
    | ((with_reducible show wpList _ _ _ (Oper.mk (some 26) (Op.load 33 _) _ _ _ _ :: _) _ _); refine wpList_load_bk rfl 33 _ rfl (w.heap.size + 1) 33 s.A rfl _ HS7.out Tryd.underlying33 rfl size33 ?_)
    | (go_at_call 22; refine (HRI.out w7 H6.out.low).mono ?_; rintro e w8 ⟨rfl, hb8⟩; have H8 := hdn (H6.out.far' hb8); have HG8 := hdn H8.out.d5.gr; have HA8 := hdn H8.out.d5.ac; obtain ⟨c0, c1, c2, c3, c4, c5, c6, c7, c8, c9⟩ := G10.of HG8.out; obtain ⟨a0, a1, a2, a3, a4, a5, a6, a7, a8, a9, a10, a11⟩ := A12f.of HA8.out; clear hb8)
    | (go_at_call 23; refine (HHA.out w8).mono ?_; rintro e w9 ⟨rfl, hb9⟩; have H9 := hdn (H8.out.far' hb9); clear hb9))
  clear c0 c1 c2 c3 c4 c5 c6 c7 c8 c9 a0 a1 a2 a3 a4 a5 a6 a7 a8 a9 a10 a11 HG8 HA8 HRI HHA HG7 HS7 H8
  obtain ⟨_, _, _, _, _, _, _, _, _, c9⟩ := G10.of H9.out.d5.gr
  obtain ⟨_, _, _, s3⟩ := Z33.of H9.out.d5.st
  go_upto_region 5 with (first
    | (go_at_call 24; refine (HLO.out w9 H9.out.low).mono ?_; rintro e w10 ⟨v, N, rfl, hov, hnv, hbv⟩; have HOV := hdn hov; have HNV := hdn hnv; have HBV := hdn hbv; have HZ10 : Hid (Bk (w10.alloc (.cells #[.int .i64 0, .slice none 0 0, .bool false] 59)) w10.heap.size 59 #[.int .i64 0, .slice none 0 0, .bool false]) := hdn (MapKept.heap_alloc w10 _).1; have H1C : Hid ((#[.int .i64 g.F, v, .bool true] : Array Value).all (·.oneCell') = true) := hdn (Kin.Lie.oneA hov); clear hov hnv hbv)
    | ((with_reducible show wpList _ _ _ (Oper.mk none (Op.store 59 _ _) _ _ _ _ :: _) _ _); refine wpList_store_all rfl 59 _ _ rfl w10.heap.size 59 _ #[.int .i64 g.F, v, .bool true] rfl rfl HZ10.out size29 rfl H1C.out ?_; intro w11 h11 g11))
  have H7 : Hid (D7 w w5 w11 g s a O t w10.heap.size v N) := hdn (D7.start H9.out HBV.out HOV.out HNV.out h11.out g11.out)
  clear h11 g11 HOV HNV HBV HZ10 H1C c9 s3
  generalize w10.heap.size = B at H7 ⊢
  simp only [Act.put]
  obtain ⟨a0, a1, a2, a3, a4, a5, a6, a7, a8, a9, a10, a11⟩ := A12f.of H7.out.d6.d5.ac
  obtain ⟨s0, s1, s2, s3⟩ := Z33.of H7.out.d6.d5.st
  have cX := HVX.out w11 H7.out.d6.low
  have cY := HVY.out w11 H7.out.d6.low
  have p1 := cell_regrown a1; have p2 := cell_regrown a2; have p3 := cell_regrown s1
  refine wp_region_quiet_below (by kernel_rfl) (by kernel_rfl) ?_
  repeat (go_big_quiet_step (first | (with_reducible exact cX _ _) | (with_reducible exact cY _ _)))
  refine wpQuiet_nil ?_
  intro _ hw'
  obtain ⟨⟨dz, osz⟩, hw''⟩ := hw'
  subst hw''
  have H12 : Hid (D7 w w5 (grow (redrawn w11 dz) osz) g s a O t B v N) := hdn (H7.out.far' (below_regrown w11 dz osz))
  generalize grow (redrawn w11 dz) osz = w12 at H12 ⊢
  clear p1 p2 p3 cX cY a0 a1 a2 a3 a4 a5 a6 a7 a8 a9 a10 a11 s0 s1 s2 s3 H7 H9 HVX HVY HLO
  obtain ⟨a0, a1, a2, a3, a4, a5, a6, a7, a8, a9, a10, a11⟩ := A12f.of H12.out.d6.d5.ac
  obtain ⟨s0, s1, s2, s3⟩ := Z33.of H12.out.d6.d5.st
  rw [HK.out] at a0
  have HNL := hdn (HVA.out a.l w12 H12.out.d6.low)
  have HNR := hdn (HVA.out a.r)
  have HS12 := hdn H12.out.d6.d5.st
  generalize numL s.is a.l = nl at *
  generalize numL s.is a.r = nr at *
  clear HVA
  rw [HOP.out] at a6
  go_upto_region 41 with (first
    | ((with_reducible show wpList _ _ _ (Oper.mk (some 192) (Op.load 33 _) _ _ _ _ :: _) _ _); refine wpList_load_bk rfl 33 _ rfl (w.heap.size + 1) 33 s.A rfl _ HS12.out Tryd.underlying33 rfl size33 ?_)
    | (go_at_call 32; refine HNL.out.mono ?_; rintro e w13 ⟨rfl, hb13⟩; have H13 := hdn (H12.out.d6.far' hb13); clear hb13))
  clear a0 a1 a2 a3 a4 a5 a6 a7 a8 a9 a10 a11 s0 s1 s2 s3 HNL
  obtain ⟨a0, a1, a2, a3, a4, a5, a6, a7, a8, a9, a10, a11⟩ := A12f.of H13.out.d5.ac
  rw [HOP.out] at a6
  have HS13 := hdn H13.out.d5.st
  have HNR2 := hdn (HNR.out w13 H13.out.low)
  clear HNR a0 a1 a2 a3 a4 a5 a7 a8 a11
  go_upto_region 45 with (first
    | ((with_reducible show wpList _ _ _ (Oper.mk (some 200) (Op.load 33 _) _ _ _ _ :: _) _ _); refine wpList_load_bk rfl 33 _ rfl (w.heap.size + 1) 33 s.A rfl _ HS13.out Tryd.underlying33 rfl size33 ?_)
    | (go_at_call 32; refine HNR2.out.mono ?_; rintro e w14 ⟨rfl, hb14⟩; have H14 := hdn (H13.out.far' hb14); clear hb14))
  clear a6 a9 a10 HNR2
  obtain ⟨a0, a1, a2, a3, a4, a5, a6, a7, a8, a9, a10, a11⟩ := A12f.of H14.out.d5.ac
  obtain ⟨s0, s1, s2, s3⟩ := Z33.of H14.out.d5.st
  clear a0 a2 a3 a4 a5 a6 a7 a8 a9 a10 a11 s0 s1 s3
  generalize hnv : wrap64 (nl + nr) = nv
  have HNV : Hid (withL s.is a.x nv = withL s.is a.x (IntKind.i64.wrap (nl + nr))) := hdn (by rw [IntWalk.i64_left, hnv])
  clear hnv
  go_upto_region 46 with (go_at_call 26; refine (HWI.out nv w14 H14.out.low).mono ?_; rintro e w15 ⟨g1, cp1, rfl, hnw⟩; have HNW := hdn hnw; have H15 := hdn (H14.out.far' hnw.below); have HLT := hdn H14.out.out.lt; have HLS := hdn H14.out.low.size; have f13 := H15.out.out.frozen 2; have g13 : w15.cell? ⟨O, 2, none⟩ = some (.slice t.ip t.is.length t.ic) := H15.out.out.cell 2; clear hnw)
  have H16 := hdn (H15.out.puti (c := cp1) HNW.out HD.out.sz HLS.out HLT.out)
  clear f13 g13
  generalize w15.setCell ⟨O, 2, none⟩ (.slice (some ⟨g1, 0, none⟩) (withL s.is a.x nv).length cp1) = w16 at H16 ⊢
  have HO9 := hdn H16.out.out
  have HR1 := hdn H16.out.d5.r1
  have HR2 := hdn H16.out.d5.r2
  go_wp2_with (first
    | ((with_reducible show wpList _ _ _ (Oper.mk (some 221) (Op.load 33 _) _ _ _ _ :: _) _ _); refine wpList_load_bk rfl 33 _ rfl O 33 ({ t with ip := some ⟨g1, 0, none⟩, is := withL s.is a.x nv, ic := cp1 } : SV).A rfl _ HO9.out Tryd.underlying33 rfl size33 ?_)
    | ((with_reducible show wpList _ _ _ (Oper.mk none (Op.store 33 _ _) _ _ _ _ :: _) _ _); refine wpList_store_all rfl 33 _ _ rfl (w.heap.size + 1 + 1 + 1) 33 _ ({ t with ip := some ⟨g1, 0, none⟩, is := withL s.is a.x nv, ic := cp1 } : SV).A rfl rfl HR1.out size33 rfl (SV.A_one _) ?_; intro w20 h20 g20; have HR3 := hdn ((Gr.of_grown g20.out).bk HR2.out (by intro h; injection h; omega)))
    | ((with_reducible show wpList _ _ _ (Oper.mk none (Op.store 37 _ _) _ _ _ _ :: _) _ _); refine wpList_store_all rfl 37 _ _ rfl (w.heap.size + 1 + 1 + 1 + 1) 37 _ (evA 0 0 0) rfl rfl HR3.out size37 rfl (evA_one _ _ _) ?_; intro w21 h21 g21))
  have q1 : Bk w21 (w.heap.size + 1 + 1 + 1) 33 ({ t with ip := some ⟨g1, 0, none⟩, is := withL s.is a.x nv, ic := cp1 } : SV).A := (Gr.of_grown g21.out).bk h20.out (by intro h; injection h; omega)
  exact bodyPost_ret (results_two Tryd.results8 rfl rfl rfl rfl q1 h21.out) rfl (D6.finQ HD.out.sz H16.out ⟨HT.out.pt.symm, HT.out.vs.symm, HNV.out, HT.out.cs.symm⟩ g20.out g21.out)
theorem do8_11s (g : GR) (s : SV) (a : Acn) (inp : Int) (w : World) (hg : Gok g) (hs : Rt g s) (hl : s.lies w) (hh : hasB g a = true) (hk : a.kind = 11) (ho : a.op = 2) : Calls Tryd.prog 8 #[.agg g.cs, .agg s.A, .agg a.cs, .int .i64 inp] w (DoQ w s.pt s.vs (withL s.is a.x (IntKind.i64.wrap (numL s.is a.l - numL s.is a.r))) s.cs (evA 0 0 0)) := by
  have HOP := hdn ho
  obtain ⟨w5, hw5⟩ : ∃ w5, ((((w.alloc (.cells g.cs 30)).alloc (.cells s.A 33)).alloc (.cells a.cs 43)).alloc (.cells (stA 0 none 0 0 none 0 0 none 0 0) 33)).alloc (.cells (evA 0 0 0) 37) = w5 := ⟨_, rfl⟩
  have HW : Hid (((((w.alloc (.cells g.cs 30)).alloc (.cells s.A 33)).alloc (.cells a.cs 43)).alloc (.cells #[.int .i64 0, .slice none 0 0, .slice none 0 0, .slice none 0 0] 33)).alloc (.cells #[.int .i64 0, .int .i64 0, .int .i64 0] 37) = w5) := hdn hw5
  have HD : Hid (D5 w w5 g s a) := hdn (by rw [← hw5]; exact D5.start w g s a)
  have HS5 := hdn HD.out.st
  have HL : Hid (s.lies w5) := hdn (hl.below HD.out.low)
  have HC := hdn (own21_any g.F s w5 HL.out (by have := hs.vl; have := hg.V; omega) (by have := hs.il; have := hg.I; omega) hs.n hs.lens hg.F)
  have HRI := hdn (fun wz (hz : RowKit.Below w5.heap.size w5 wz) => right22_any g s wz hg hs (HL.out.below hz))
  have HHA := hdn (fun wz => has23_any g a wz)
  rw [hh] at HHA
  have HLO : Hid (∀ wz, RowKit.Below w5.heap.size w5 wz → Calls Tryd.prog 24 #[.slice g.fp g.F g.fc, .slice s.cp s.rs.length s.cc] wz fun e w' => ∃ v N, e = .returned (.agg #[.int .i64 g.F, v, .bool true]) ∧ Out g.F w' N v (s.rs.map RC.c) ∧ (∀ b, N b → wz.heap.size ≤ b) ∧ RowKit.Below wz.heap.size wz w') := hdn (fun wz hz => by
    have := refLoad_any g.F g.fc s.cc g.fp s.cp s.rs wz (HL.out.c.below hz (fun x h => RC.lies_below' h hz)) hg.F hs.n
    rw [hs.loaded] at this
    exact this)
  have CV := fun (x : Int) (wz : World) (hz : RowKit.Below w5.heap.size w5 wz) => qb_call (wB := wz) (F := 25) (ar := #[.slice s.vp s.vs.length s.vc, .int .i64 x]) (v := .int .i64 (atL s.vs x)) (fun wr hb' => (at25_any s.vp s.vs s.vc x wr ((HL.out.below hz).v.below hb')).mono (fun e w' he => ⟨he.1, same_below he.2⟩))
  have HVX := hdn (CV a.x)
  have HVY := hdn (CV a.y)
  have HWI : Hid (∀ x wz, RowKit.Below w5.heap.size w5 wz → Calls Tryd.prog 26 #[.slice s.ip s.is.length s.ic, .int .i64 a.x, .int .i64 x] wz (WithP wz (withL s.is a.x x))) := hdn (fun x wz hz => with_any s.ip s.is s.ic a.x x wz (HL.out.i.below hz) (by have := hs.il; have := hg.I; omega))
  have HVA : Hid (∀ (o : Opd) wz, RowKit.Below w5.heap.size w5 wz → Calls Tryd.prog 32 #[.agg s.A, .agg #[.int .i64 o.v, .int .i64 o.n]] wz (RetV wz (.int .i64 (numL s.is o)))) := hdn (fun o wz hz => value32_any s o wz (HL.out.below hz))
  have HK := hdn hk
  clear CV hk
  clear hw5 hl hs hg hh ho
  go_enter Tryd.func8, Tryd.ntmps8
  go_upto_region 1 with fail
  rw [HW.out]
  clear HW
  go_upto_region 2 with (first
    | ((with_reducible show wpList _ _ _ (Oper.mk _ (Op.load 33 _) _ _ _ _ :: _) _ _); refine wpList_load_bk rfl 33 _ rfl (w.heap.size + 1) 33 s.A rfl _ HS5.out Tryd.underlying33 rfl size33 ?_)
    | (go_at_call 21; refine HC.out.mono ?_; rintro e w6 ⟨t, rfl, hs6, hv6, hb6⟩; have HT := hdn hs6; have HV := hdn hv6; have HB6 := hdn hb6; have HZ6 : Hid (Bk (w6.alloc (.cells #[.int .i64 0, .slice none 0 0, .slice none 0 0, .slice none 0 0] 33)) w6.heap.size 33 (stA 0 none 0 0 none 0 0 none 0 0)) := hdn (MapKept.heap_alloc w6 _).1; clear hs6 hv6 hb6)
    | ((with_reducible show wpList _ _ _ (Oper.mk none (Op.store 33 _ _) _ _ _ _ :: _) _ _); refine wpList_store_all rfl 33 _ _ rfl w6.heap.size 33 _ t.A rfl rfl HZ6.out size33 rfl (SV.A_one t) ?_; intro w7 h7 g7))
  have H6 : Hid (D6 w w5 w7 g s a w6.heap.size t) := hdn (D6.start HD.out HB6.out HV.out h7.out g7.out)
  clear h7 g7 HC HS5 HV HB6 HZ6
  generalize w6.heap.size = O at H6 ⊢
  have HG7 := hdn H6.out.d5.gr
  have HS7 := hdn H6.out.d5.st
  go_upto_region 4 with (first
    | ((with_reducible show wpList _ _ _ (Oper.mk (some 25) (Op.load 30 _) _ _ _ _ :: _) _ _); refine wpList_load_bk rfl 30 _ rfl w.heap.size 30 g.cs rfl _ HG7.out Tryd.underlying30 rfl size30 ?_)
    | ((with_reducible show wpList _ _ _ (Oper.mk (some 26) (Op.load 33 _) _ _ _ _ :: _) _ _); refine wpList_load_bk rfl 33 _ rfl (w.heap.size + 1) 33 s.A rfl _ HS7.out Tryd.underlying33 rfl size33 ?_)
    | (go_at_call 22; refine (HRI.out w7 H6.out.low).mono ?_; rintro e w8 ⟨rfl, hb8⟩; have H8 := hdn (H6.out.far' hb8); have HG8 := hdn H8.out.d5.gr; have HA8 := hdn H8.out.d5.ac; obtain ⟨c0, c1, c2, c3, c4, c5, c6, c7, c8, c9⟩ := G10.of HG8.out; obtain ⟨a0, a1, a2, a3, a4, a5, a6, a7, a8, a9, a10, a11⟩ := A12f.of HA8.out; clear hb8)
    | (go_at_call 23; refine (HHA.out w8).mono ?_; rintro e w9 ⟨rfl, hb9⟩; have H9 := hdn (H8.out.far' hb9); clear hb9))
  clear c0 c1 c2 c3 c4 c5 c6 c7 c8 c9 a0 a1 a2 a3 a4 a5 a6 a7 a8 a9 a10 a11 HG8 HA8 HRI HHA HG7 HS7 H8
  obtain ⟨_, _, _, _, _, _, _, _, _, c9⟩ := G10.of H9.out.d5.gr
  obtain ⟨_, _, _, s3⟩ := Z33.of H9.out.d5.st
  go_upto_region 5 with (first
    | (go_at_call 24; refine (HLO.out w9 H9.out.low).mono ?_; rintro e w10 ⟨v, N, rfl, hov, hnv, hbv⟩; have HOV := hdn hov; have HNV := hdn hnv; have HBV := hdn hbv; have HZ10 : Hid (Bk (w10.alloc (.cells #[.int .i64 0, .slice none 0 0, .bool false] 59)) w10.heap.size 59 #[.int .i64 0, .slice none 0 0, .bool false]) := hdn (MapKept.heap_alloc w10 _).1; have H1C : Hid ((#[.int .i64 g.F, v, .bool true] : Array Value).all (·.oneCell') = true) := hdn (Kin.Lie.oneA hov); clear hov hnv hbv)
    | ((with_reducible show wpList _ _ _ (Oper.mk none (Op.store 59 _ _) _ _ _ _ :: _) _ _); refine wpList_store_all rfl 59 _ _ rfl w10.heap.size 59 _ #[.int .i64 g.F, v, .bool true] rfl rfl HZ10.out size29 rfl H1C.out ?_; intro w11 h11 g11))
  have H7 : Hid (D7 w w5 w11 g s a O t w10.heap.size v N) := hdn (D7.start H9.out HBV.out HOV.out HNV.out h11.out g11.out)
  clear h11 g11 HOV HNV HBV HZ10 H1C c9 s3
  generalize w10.heap.size = B at H7 ⊢
  simp only [Act.put]
  obtain ⟨a0, a1, a2, a3, a4, a5, a6, a7, a8, a9, a10, a11⟩ := A12f.of H7.out.d6.d5.ac
  obtain ⟨s0, s1, s2, s3⟩ := Z33.of H7.out.d6.d5.st
  have cX := HVX.out w11 H7.out.d6.low
  have cY := HVY.out w11 H7.out.d6.low
  have p1 := cell_regrown a1; have p2 := cell_regrown a2; have p3 := cell_regrown s1
  refine wp_region_quiet_below (by kernel_rfl) (by kernel_rfl) ?_
  repeat (go_big_quiet_step (first | (with_reducible exact cX _ _) | (with_reducible exact cY _ _)))
  refine wpQuiet_nil ?_
  intro _ hw'
  obtain ⟨⟨dz, osz⟩, hw''⟩ := hw'
  subst hw''
  have H12 : Hid (D7 w w5 (grow (redrawn w11 dz) osz) g s a O t B v N) := hdn (H7.out.far' (below_regrown w11 dz osz))
  generalize grow (redrawn w11 dz) osz = w12 at H12 ⊢
  clear p1 p2 p3 cX cY a0 a1 a2 a3 a4 a5 a6 a7 a8 a9 a10 a11 s0 s1 s2 s3 H7 H9 HVX HVY HLO
  obtain ⟨a0, a1, a2, a3, a4, a5, a6, a7, a8, a9, a10, a11⟩ := A12f.of H12.out.d6.d5.ac
  obtain ⟨s0, s1, s2, s3⟩ := Z33.of H12.out.d6.d5.st
  rw [HK.out] at a0
  have HNL := hdn (HVA.out a.l w12 H12.out.d6.low)
  have HNR := hdn (HVA.out a.r)
  have HS12 := hdn H12.out.d6.d5.st
  generalize numL s.is a.l = nl at *
  generalize numL s.is a.r = nr at *
  clear HVA
  rw [HOP.out] at a6
  go_upto_region 41 with (first
    | ((with_reducible show wpList _ _ _ (Oper.mk (some 192) (Op.load 33 _) _ _ _ _ :: _) _ _); refine wpList_load_bk rfl 33 _ rfl (w.heap.size + 1) 33 s.A rfl _ HS12.out Tryd.underlying33 rfl size33 ?_)
    | (go_at_call 32; refine HNL.out.mono ?_; rintro e w13 ⟨rfl, hb13⟩; have H13 := hdn (H12.out.d6.far' hb13); clear hb13))
  clear a0 a1 a2 a3 a4 a5 a6 a7 a8 a9 a10 a11 s0 s1 s2 s3 HNL
  obtain ⟨a0, a1, a2, a3, a4, a5, a6, a7, a8, a9, a10, a11⟩ := A12f.of H13.out.d5.ac
  rw [HOP.out] at a6
  have HS13 := hdn H13.out.d5.st
  have HNR2 := hdn (HNR.out w13 H13.out.low)
  clear HNR a0 a1 a2 a3 a4 a5 a7 a8 a11
  go_upto_region 44 with fail
  go_upto_region 45 with (first
    | ((with_reducible show wpList _ _ _ (Oper.mk (some 209) (Op.load 33 _) _ _ _ _ :: _) _ _); refine wpList_load_bk rfl 33 _ rfl (w.heap.size + 1) 33 s.A rfl _ HS13.out Tryd.underlying33 rfl size33 ?_)
    | (go_at_call 32; refine HNR2.out.mono ?_; rintro e w14 ⟨rfl, hb14⟩; have H14 := hdn (H13.out.far' hb14); clear hb14))
  clear a6 a9 a10 HNR2
  obtain ⟨a0, a1, a2, a3, a4, a5, a6, a7, a8, a9, a10, a11⟩ := A12f.of H14.out.d5.ac
  obtain ⟨s0, s1, s2, s3⟩ := Z33.of H14.out.d5.st
  clear a0 a2 a3 a4 a5 a6 a7 a8 a9 a10 a11 s0 s1 s3
  generalize hnv : wrap64 (nl - nr) = nv
  have HNV : Hid (withL s.is a.x nv = withL s.is a.x (IntKind.i64.wrap (nl - nr))) := hdn (by rw [IntWalk.i64_left, hnv])
  clear hnv
  go_upto_region 46 with (go_at_call 26; refine (HWI.out nv w14 H14.out.low).mono ?_; rintro e w15 ⟨g1, cp1, rfl, hnw⟩; have HNW := hdn hnw; have H15 := hdn (H14.out.far' hnw.below); have HLT := hdn H14.out.out.lt; have HLS := hdn H14.out.low.size; have f13 := H15.out.out.frozen 2; have g13 : w15.cell? ⟨O, 2, none⟩ = some (.slice t.ip t.is.length t.ic) := H15.out.out.cell 2; clear hnw)
  have H16 := hdn (H15.out.puti (c := cp1) HNW.out HD.out.sz HLS.out HLT.out)
  clear f13 g13
  generalize w15.setCell ⟨O, 2, none⟩ (.slice (some ⟨g1, 0, none⟩) (withL s.is a.x nv).length cp1) = w16 at H16 ⊢
  have HO9 := hdn H16.out.out
  have HR1 := hdn H16.out.d5.r1
  have HR2 := hdn H16.out.d5.r2
  go_wp2_with (first
    | ((with_reducible show wpList _ _ _ (Oper.mk (some 221) (Op.load 33 _) _ _ _ _ :: _) _ _); refine wpList_load_bk rfl 33 _ rfl O 33 ({ t with ip := some ⟨g1, 0, none⟩, is := withL s.is a.x nv, ic := cp1 } : SV).A rfl _ HO9.out Tryd.underlying33 rfl size33 ?_)
    | ((with_reducible show wpList _ _ _ (Oper.mk none (Op.store 33 _ _) _ _ _ _ :: _) _ _); refine wpList_store_all rfl 33 _ _ rfl (w.heap.size + 1 + 1 + 1) 33 _ ({ t with ip := some ⟨g1, 0, none⟩, is := withL s.is a.x nv, ic := cp1 } : SV).A rfl rfl HR1.out size33 rfl (SV.A_one _) ?_; intro w20 h20 g20; have HR3 := hdn ((Gr.of_grown g20.out).bk HR2.out (by intro h; injection h; omega)))
    | ((with_reducible show wpList _ _ _ (Oper.mk none (Op.store 37 _ _) _ _ _ _ :: _) _ _); refine wpList_store_all rfl 37 _ _ rfl (w.heap.size + 1 + 1 + 1 + 1) 37 _ (evA 0 0 0) rfl rfl HR3.out size37 rfl (evA_one _ _ _) ?_; intro w21 h21 g21))
  have q1 : Bk w21 (w.heap.size + 1 + 1 + 1) 33 ({ t with ip := some ⟨g1, 0, none⟩, is := withL s.is a.x nv, ic := cp1 } : SV).A := (Gr.of_grown g21.out).bk h20.out (by intro h; injection h; omega)
  exact bodyPost_ret (results_two Tryd.results8 rfl rfl rfl rfl q1 h21.out) rfl (D6.finQ HD.out.sz H16.out ⟨HT.out.pt.symm, HT.out.vs.symm, HNV.out, HT.out.cs.symm⟩ g20.out g21.out)
end Go.Proofs.YtebmhadpkncgfaaDoor
namespace Go.Proofs.YtebmhadpkncgfaaDoor
open Go.RowKit Go.Maps Go.Sort
open Aw.Ac (Acn Opd)
theorem do9_has (g : GR) (s : SV) (a : Acn) (inp : Int) (w : World) (hg : Gok g) (hS : 0 ≤ g.S) (hG : Aw.Gl w) (hs : Rt g s) (hl : s.lies w) (hh : hasB g a = true) (k : Nat) (hk : a.kind = k) (hk13 : k < 13)
    (vs' is' : List Int) (cs' : List PC) (e0 e1 e2 : Int) (hn : cs'.length ≤ 2000000) (hok : ∀ c ∈ cs', c.ok)
    (hF : ∀ (w0 : WK) (w1 : World) (N : Nat → Prop) (mb vb ib hb : Nat), Mo w0 w1 g.F N mb vb ib hb s.vs s.is s.cs → Calls Tryd.prog (dfn.getD k 0) #[.pointer (some ⟨mb, 0, none⟩), .agg a.cs, .int .i64 inp] w1 (MoP w0 g.F N mb vb ib hb vs' is' cs' (evA e0 e1 e2))) :
    Calls Tryd.prog 9 #[.agg g.cs, .agg s.A, .agg a.cs, .int .i64 inp] w (DoQ w s.pt vs' is' cs' (evA e0 e1 e2)) := by
  obtain ⟨w5, hw5⟩ : ∃ w5, ((((w.alloc (.cells g.cs 30)).alloc (.cells s.A 33)).alloc (.cells a.cs 43)).alloc (.cells (stA 0 none 0 0 none 0 0 none 0 0) 33)).alloc (.cells (evA 0 0 0) 37) = w5 := ⟨_, rfl⟩
  have HW : Hid (((((w.alloc (.cells g.cs 30)).alloc (.cells s.A 33)).alloc (.cells a.cs 43)).alloc (.cells #[.int .i64 0, .slice none 0 0, .slice none 0 0, .slice none 0 0] 33)).alloc (.cells #[.int .i64 0, .int .i64 0, .int .i64 0] 37) = w5) := hdn hw5
  have HD : Hid (D5 w w5 g s a) := hdn (by rw [← hw5]; exact D5.start w g s a)
  have HG5 := hdn HD.out.gr
  have HA5 := hdn HD.out.ac
  have HL : Hid (s.lies w5) := hdn (hl.below HD.out.low)
  have HHA := hdn (has34_any g a w5 hS (hG.below HD.out.low hG.big))
  have HLD := hdn (fun wz (hz : RowKit.Below w5.heap.size w5 wz) => load33_any g s wz hg hs (HL.out.below hz))
  have HOV := hdn (fun wz (hz : RowKit.Below w5.heap.size w5 wz) => own35_any s.vp s.vs s.vc wz (HL.out.v.below hz) (by have := hs.vl; have := hg.V; omega))
  have HOI := hdn (fun wz (hz : RowKit.Below w5.heap.size w5 wz) => own35_any s.ip s.is s.ic wz (HL.out.i.below hz) (by have := hs.il; have := hg.I; omega))
  have HDE := hdn (fun wz => deed_any k hk13 wz)
  have HSA : Hid (a.cs = #[.int .i64 a.kind, .int .i64 a.x, .int .i64 a.y, .int .i64 a.f, .int .i64 a.t, .int .i64 a.pl, .int .i64 a.op, .int .i64 a.l.v, .int .i64 a.l.n, .int .i64 a.r.v, .int .i64 a.r.n, .bool a.sense]) := hdn rfl
  have HF : Hid (∀ (w0 : WK) (w1 : World) (N : Nat → Prop) (mb vb ib hb : Nat), Mo w0 w1 g.F N mb vb ib hb s.vs s.is s.cs → Calls Tryd.prog (dfn.getD k 0) #[.pointer (some ⟨mb, 0, none⟩), .agg #[.int .i64 a.kind, .int .i64 a.x, .int .i64 a.y, .int .i64 a.f, .int .i64 a.t, .int .i64 a.pl, .int .i64 a.op, .int .i64 a.l.v, .int .i64 a.l.n, .int .i64 a.r.v, .int .i64 a.r.n, .bool a.sense], .int .i64 inp] w1 fun e w' => e = .returned (.agg #[.int .i64 e0, .int .i64 e1, .int .i64 e2]) ∧ Mo w0 w' g.F N mb vb ib hb vs' is' cs') := hdn hF
  have HOK := hdn hok
  rw [← hk] at HDE
  have hcf := fun args wz => deed_enter k hk13 args wz
  generalize dfn.getD k 0 = f at HDE HF hcf
  rw [hh] at HHA
  clear hw5 hl hs hh hG hF hk hok
  go_enter Tryd.func9, Tryd.ntmps9
  go_upto_region 1 with fail
  rw [HW.out]
  clear HW
  go_upto_region 3 with (first
    | ((with_reducible show wpList _ _ _ (Oper.mk (some 14) (Op.load 30 _) _ _ _ _ :: _) _ _); refine wpList_load_bk rfl 30 _ rfl w.heap.size 30 g.cs rfl _ HG5.out Tryd.underlying30 rfl size30 ?_)
    | ((with_reducible show wpList _ _ _ (Oper.mk (some 15) (Op.load 43 _) _ _ _ _ :: _) _ _); refine wpList_load_bk rfl 43 _ rfl (w.heap.size + 1 + 1) 43 a.cs rfl _ HA5.out Tryd.underlying43 rfl size43 ?_)
    | (go_at_call 33; refine HHA.out.mono ?_; rintro e w6 ⟨rfl, hb6⟩; have HB6 := hdn hb6; have HD6 := hdn (HD.out.far hb6); have HG6 := hdn HD6.out.gr; have HS6 := hdn HD6.out.st; clear hb6))
  go_upto_region 6 with (first
    | ((with_reducible show wpList _ _ _ (Oper.mk (some 22) (Op.load 30 _) _ _ _ _ :: _) _ _); refine wpList_load_bk rfl 30 _ rfl w.heap.size 30 g.cs rfl _ HG6.out Tryd.underlying30 rfl size30 ?_)
    | ((with_reducible show wpList _ _ _ (Oper.mk (some 23) (Op.load 33 _) _ _ _ _ :: _) _ _); refine wpList_load_bk rfl 33 _ rfl (w.heap.size + 1) 33 s.A rfl _ HS6.out Tryd.underlying33 rfl size33 ?_)
    | (go_at_call 35; refine (HLD.out w6 HB6.out).mono ?_; rintro e w7 ⟨hb, rfl, hm7⟩; have HM7 := hdn (hm7.base HB6.out); have HD7 := hdn (HD6.out.far hm7.bl); clear hm7))
  have hb57 := HM7.out.bl
  have HB7 := hdn hb57
  have HS : Hid (∀ w', RowKit.Below w7.heap.size w7 w' → w'.cell? ⟨w.heap.size + 1, 1, none⟩ = some (.slice s.vp s.vs.length s.vc) ∧ w'.cell? ⟨w.heap.size + 1, 2, none⟩ = some (.slice s.ip s.is.length s.ic)) := hdn (fun w' hz => by
    have h1 := (HD7.out.far hz).st
    exact ⟨h1.cell 1, h1.cell 2⟩)
  have HCV := hdn (fun wz (hz : RowKit.Below w7.heap.size w7 wz) => HOV.out wz (HB7.out.trans (hz.mono HB7.out.size)))
  have HCI := hdn (fun wz (hz : RowKit.Below w7.heap.size w7 wz) => HOI.out wz (HB7.out.trans (hz.mono HB7.out.size)))
  have K0 : RowKit.Below w7.heap.size w7 w7 := Below.refl _ _
  have K1 : RowKit.Below w7.heap.size w7 w7.drew := below_drew K0
  have KA : RowKit.Below w7.heap.size w7 (w7.alloc (.cells moZ 75)).drew := below_drew (alloc_below w7 _)
  clear hb57
  go_cut [12] from 32 to 39 (fun c wx => ∃ mb vb ib, c = .pointer (some ⟨mb, 0, none⟩) ∧ Hid (Mo ⟨w5, fun _ _ _ => False⟩ wx g.F (fun k => w7.heap.size ≤ k ∧ k < wx.heap.size) mb vb ib hb s.vs s.is s.cs) ∧ Hid (RowKit.Below w7.heap.size w7 wx))
  case first =>
    go_region_held3 (fun w' => w'.cell? ⟨w.heap.size + 1, 1, none⟩ = some (.slice s.vp s.vs.length s.vc) ∧ w'.cell? ⟨w.heap.size + 1, 2, none⟩ = some (.slice s.ip s.is.length s.ic))
      (first | with_reducible exact HS.out _ K1 | with_reducible exact HS.out _ K0 | with_reducible exact HS.out _ K4 | with_reducible exact HS.out _ K3 | with_reducible exact HS.out _ (Below.al K1 _) | with_reducible exact HS.out _ KA | with_reducible exact HS.out _ (Below.al K3 _) | with_reducible exact HS.out _ (Below.al K4 _) | with_reducible exact HS.out _ (Below.s3 (Below.al K4 _) (Below.size K4) _ _ _) | with_reducible exact HS.out _ (Below.s3 K4 (Below.size K3) _ _ _) | with_reducible exact HS.out _ (Below.s3 K4 (Below.size K1) _ _ _) | with_reducible exact HS.out _ (Below.s3 K4 (Nat.le_refl _) _ _ _) | fail) (first
      | (go_at_call 36; refine (HCI.out w3 K3).mono ?_; rintro e w4 ⟨rfl, hk4, hb4⟩; have hz4 := HZ3.out.below hb4 HZ3.out.lt; obtain ⟨m0, m1, m2, n0, n1, n2⟩ := Z75.of hz4; have HZ4 := hdn hz4; have HK4 := hdn hk4; have HK3' := hdn (HK3.out.below hb4 HK3.out.lt); have K4 := K3.trans (hb4.mono K3.size); clear hk4 hb4 hz4)
      | (go_at_call 36; refine (HCI.out w3 K3).mono ?_; rintro e w4 ⟨rfl, hk4, hb4⟩; have HK4 := hdn hk4; have HK3' := hdn (HK3.out.below hb4 HK3.out.lt); have K4 := K3.trans (hb4.mono K3.size); clear hk4 hb4)
      | (go_at_call 36; refine (HCI.out (w3.alloc (.cells moZ 75)) (Below.al K3 _)).mono ?_; rintro e w4 ⟨rfl, hk4, hb4⟩; have hz4 := (moZ_new w3).below hb4 (moZ_new w3).lt; obtain ⟨m0, m1, m2, n0, n1, n2⟩ := Z75.of hz4; have HZ4 := hdn hz4; have HK4 := hdn hk4; have HK3' := hdn ((HK3.out.al (.cells moZ 75)).below hb4 (HK3.out.al (.cells moZ 75)).lt); have K4 := (Below.al K3 (.cells moZ 75)).trans (hb4.mono (Below.al K3 (.cells moZ 75)).size); clear hk4 hb4 hz4)
      | (go_at_call 36; refine (HCV.out w7.drew K1).mono ?_; rintro e w3 ⟨rfl, hk3, hb3⟩; have HK3 := hdn hk3; have K3 := K1.trans (hb3.mono K1.size); clear hk3 hb3)
      | (go_at_call 36; refine (HCV.out (w7.alloc (.cells moZ 75)).drew KA).mono ?_; rintro e w3 ⟨rfl, hk3, hb3⟩; have HK3 := hdn hk3; have HZ3 : Hid (Bk w3 w7.heap.size 75 moZ) := hdn ((moZ_new w7).drewN (n := 1) |>.below hb3 (moZ_new w7).lt); have K3 := KA.trans (hb3.mono KA.size); clear hk3 hb3)
      | fail)
    · have l1 : w7.heap.size < w3.heap.size := HK3.out.lt
      have l2 := HK4.out.lt
      have l3 : w7.heap.size < w4.heap.size := HK3'.out.lt
      have r := Mo.start (vs := s.vs) (is := s.is) HM7.out (Below.al K4 (.cells (moA w7.heap.size s.vs.length w3.heap.size s.is.length hb) 75)) (Bk.new' rfl) (HK3'.out.al _) (HK4.out.al _) K4.size (Nat.le_refl _) K3.size (by show w4.heap.size ≠ w7.heap.size; omega) (by omega) (by show w7.heap.size ≠ _; omega)
      have R := hdn r
      have RB := hdn (Below.al K4 (.cells (moA w7.heap.size s.vs.length w3.heap.size s.is.length hb) 75))
      clear r l1 l2 l3
      go_wp2_with fail
      go_meet
      exact ⟨_, _, _, rfl, R, RB⟩
    · have l1 : w7.heap.size < w3.heap.size := HK3.out.lt
      have l2 : (w3.alloc (.cells moZ 75)).heap.size < w4.heap.size := HK4.out.lt
      have e2 : (w3.alloc (.cells moZ 75)).heap.size = w3.heap.size + 1 := by simp
      rw [e2] at l2 HK4
      have hm := HZ4.out.set3 (.slice (some ⟨w7.heap.size, 0, none⟩) s.vs.length s.vs.length) (.slice (some ⟨w3.heap.size + 1, 0, none⟩) s.is.length s.is.length) (.pointer (some ⟨hb, 0, none⟩))
      have hg := (((Gr.refl w4 (fun i => i = w3.heap.size)).setB 0 (.slice (some ⟨w7.heap.size, 0, none⟩) s.vs.length s.vs.length)).setB 1 (.slice (some ⟨w3.heap.size + 1, 0, none⟩) s.is.length s.is.length)).setB 2 (.pointer (some ⟨hb, 0, none⟩))
      have hbl := K4.trans (hg.below K4.size (fun k h => by subst h; exact K3.size))
      have r := Mo.start (vs := s.vs) (is := s.is) HM7.out hbl hm (hg.bk HK3'.out (by show w7.heap.size ≠ _; omega)) (hg.bk HK4.out (by omega)) K3.size (Nat.le_refl _) (by omega) (by show _ ≠ w7.heap.size; omega) (by omega) (by show w7.heap.size ≠ _; omega)
      have R := hdn r
      have RB := hdn hbl
      clear r l1 l2 e2 hm hg hbl
      go_wp2_with fail
      go_meet
      exact ⟨_, _, _, rfl, R, RB⟩
    · have l1 : (w7.alloc (.cells moZ 75)).drew.heap.size < w3.heap.size := HK3.out.lt
      have e2 : (w7.alloc (.cells moZ 75)).drew.heap.size = w7.heap.size + 1 := by show (w7.alloc (.cells moZ 75)).heap.size = _; simp
      rw [e2] at l1 HK3'
      have l2 := HK4.out.lt
      have hm := HZ4.out.set3 (.slice (some ⟨w7.heap.size + 1, 0, none⟩) s.vs.length s.vs.length) (.slice (some ⟨w3.heap.size, 0, none⟩) s.is.length s.is.length) (.pointer (some ⟨hb, 0, none⟩))
      have hg := (((Gr.refl w4 (fun i => i = w7.heap.size)).setB 0 (.slice (some ⟨w7.heap.size + 1, 0, none⟩) s.vs.length s.vs.length)).setB 1 (.slice (some ⟨w3.heap.size, 0, none⟩) s.is.length s.is.length)).setB 2 (.pointer (some ⟨hb, 0, none⟩))
      have hbl := K4.trans (hg.below K4.size (fun k h => by subst h; exact Nat.le_refl _))
      have r := Mo.start (vs := s.vs) (is := s.is) HM7.out hbl hm (hg.bk HK3'.out (by omega)) (hg.bk HK4.out (by omega)) (Nat.le_refl _) (by omega) (by omega) (by omega) (by omega) (by omega)
      have R := hdn r
      have RB := hdn hbl
      clear r l1 l2 e2 hm hg hbl
      go_wp2_with fail
      go_meet
      exact ⟨_, _, _, rfl, R, RB⟩
  case rest =>
    obtain ⟨mb, vb, ib, rfl, HM, HBc⟩ := hcut
    clear HS HCV HCI K0 K1 KA
    have K0 : RowKit.Below w5.heap.size w5 wc := HM.out.bl
    have K1 : RowKit.Below w5.heap.size w5 wc.drew := below_drew K0
    have KA : RowKit.Below w5.heap.size w5 (wc.alloc (.cells #[.int .i64 0, .int .i64 0, .int .i64 0] 37)).drew := below_drew (Below.al K0 _)
    have HS : Hid (∀ w', RowKit.Below w5.heap.size w5 w' → w'.cell? ⟨w.heap.size + 1 + 1, 0, none⟩ = some (.int .i64 a.kind) ∧ w'.cell? ⟨w.heap.size + 1 + 1, 1, none⟩ = some (.int .i64 a.x) ∧ w'.cell? ⟨w.heap.size + 1 + 1, 2, none⟩ = some (.int .i64 a.y) ∧ w'.cell? ⟨w.heap.size + 1 + 1, 3, none⟩ = some (.int .i64 a.f) ∧ w'.cell? ⟨w.heap.size + 1 + 1, 4, none⟩ = some (.int .i64 a.t) ∧ w'.cell? ⟨w.heap.size + 1 + 1, 5, none⟩ = some (.int .i64 a.pl) ∧ w'.cell? ⟨w.heap.size + 1 + 1, 6, none⟩ = some (.int .i64 a.op) ∧ w'.cell? ⟨w.heap.size + 1 + 1, 7, none⟩ = some (.int .i64 a.l.v) ∧ w'.cell? ⟨w.heap.size + 1 + 1, 8, none⟩ = some (.int .i64 a.l.n) ∧ w'.cell? ⟨w.heap.size + 1 + 1, 9, none⟩ = some (.int .i64 a.r.v) ∧ w'.cell? ⟨w.heap.size + 1 + 1, 10, none⟩ = some (.int .i64 a.r.n) ∧ w'.cell? ⟨w.heap.size + 1 + 1, 11, none⟩ = some (.bool a.sense)) := hdn (fun w' hz => by
      have h1 := (HD.out.far hz).ac
      exact ⟨h1.cell 0, h1.cell 1, h1.cell 2, h1.cell 3, h1.cell 4, h1.cell 5, h1.cell 6, h1.cell 7, h1.cell 8, h1.cell 9, h1.cell 10, h1.cell 11⟩)
    --R7
    have hcs := K0.size
    generalize hNN : (fun k => w7.heap.size ≤ k ∧ k < wc.heap.size) = N0 at HM
    have HNN : Hid (N0 mb ∧ N0 vb ∧ N0 ib) := hdn ⟨HM.out.nm, HM.out.nv, HM.out.ni⟩
    have HNB : Hid (∀ k, N0 k → w7.heap.size ≤ k ∧ k < wc.heap.size) := hdn (fun k hk => by rw [← hNN] at hk; exact hk)
    have HNL : Hid (∀ n, (∀ k, N0 k → k < n) → wc.heap.size ≤ n) := hdn (fun n hn => by
      have h1 := (HNB.out mb HNN.out.1)
      have h2 := hn (wc.heap.size - 1) (by rw [← hNN]; exact ⟨by omega, by omega⟩)
      omega)
    have HZA : Hid (Bk (wc.alloc (.cells #[.int .i64 0, .int .i64 0, .int .i64 0] 37)) wc.heap.size 37 (evA 0 0 0)) := hdn (MapKept.heap_alloc wc _).1
    have HZB := hdn (alloc_below wc (.cells #[.int .i64 0, .int .i64 0, .int .i64 0] 37))
    clear hNN
    go_wp2_with fail
    go_cut [13] from 40 to 45 (fun c wx => ∃ E, c = .pointer (some ⟨E, 0, none⟩) ∧ Hid (Mo ⟨w5, fun _ _ _ => False⟩ wx g.F N0 mb vb ib hb vs' is' cs') ∧ Hid (Bk wx E 37 (evA e0 e1 e2)) ∧ Hid (wc.heap.size ≤ E))
    case first =>
      go_region_held3 (fun w' => w'.cell? ⟨w.heap.size + 1 + 1, 0, none⟩ = some (.int .i64 a.kind) ∧ w'.cell? ⟨w.heap.size + 1 + 1, 1, none⟩ = some (.int .i64 a.x) ∧ w'.cell? ⟨w.heap.size + 1 + 1, 2, none⟩ = some (.int .i64 a.y) ∧ w'.cell? ⟨w.heap.size + 1 + 1, 3, none⟩ = some (.int .i64 a.f) ∧ w'.cell? ⟨w.heap.size + 1 + 1, 4, none⟩ = some (.int .i64 a.t) ∧ w'.cell? ⟨w.heap.size + 1 + 1, 5, none⟩ = some (.int .i64 a.pl) ∧ w'.cell? ⟨w.heap.size + 1 + 1, 6, none⟩ = some (.int .i64 a.op) ∧ w'.cell? ⟨w.heap.size + 1 + 1, 7, none⟩ = some (.int .i64 a.l.v) ∧ w'.cell? ⟨w.heap.size + 1 + 1, 8, none⟩ = some (.int .i64 a.l.n) ∧ w'.cell? ⟨w.heap.size + 1 + 1, 9, none⟩ = some (.int .i64 a.r.v) ∧ w'.cell? ⟨w.heap.size + 1 + 1, 10, none⟩ = some (.int .i64 a.r.n) ∧ w'.cell? ⟨w.heap.size + 1 + 1, 11, none⟩ = some (.bool a.sense))
        (first | with_reducible exact HS.out _ K1 | with_reducible exact HS.out _ K0 | with_reducible exact HS.out _ KA | with_reducible exact HS.out _ K4 | with_reducible exact HS.out _ K3 | with_reducible exact HS.out _ (Below.al K1 _) | with_reducible exact HS.out _ (Below.al K3 _) | with_reducible exact HS.out _ (Below.al K4 _) | with_reducible exact HS.out _ (Below.s3 K4 (Below.size K3) _ _ _) | with_reducible exact HS.out _ (Below.s3 K4 hcs _ _ _) | fail) (first
        | ((with_reducible show Calls Tryd.prog f _ _ _); refine (HF.out _ w3 _ mb vb ib hb HE3.out).mono ?_; rintro e w4 ⟨rfl, hm4⟩; have r4 := hm4.minus (N := N0) (fun k hk => .inl hk) HNN.out.1 HNN.out.2.1 HNN.out.2.2; have HM4 := hdn r4.1; have HZ4 := hdn r4.2; have K4 := r4.1.bl; have HLO := hdn (Nat.le_refl wc.heap.size); have y0 : w4.cell? ⟨wc.heap.size, 0, none⟩ = some (.int .i64 0) := HZ4.out.cell 0; have y1 : w4.cell? ⟨wc.heap.size, 1, none⟩ = some (.int .i64 0) := HZ4.out.cell 1; have y2 : w4.cell? ⟨wc.heap.size, 2, none⟩ = some (.int .i64 0) := HZ4.out.cell 2; have x0 : w4.frozen? ⟨wc.heap.size, 0, none⟩ = false := HZ4.out.frozen 0; have x1 : w4.frozen? ⟨wc.heap.size, 1, none⟩ = false := HZ4.out.frozen 1; have x2 : w4.frozen? ⟨wc.heap.size, 2, none⟩ = false := HZ4.out.frozen 2; have HMK := hdn hm4; clear hm4 r4)
        | ((with_reducible show Calls Tryd.prog f _ _ _); refine (HF.out _ w3 _ mb vb ib hb HM3.out).mono ?_; rintro e w4 ⟨rfl, hm4⟩; have HM4 := hdn hm4; have K4 := hm4.bl; have HLO := hdn (HNL.out _ hm4.nlt); clear hm4)
        | ((with_reducible show Calls Tryd.prog f _ _ _); refine (HF.out _ (w3.alloc (.cells #[.int .i64 0, .int .i64 0, .int .i64 0] 37)) _ mb vb ib hb (HM3.out.plus (alloc_below w3 _) (evZ_new w3) (Nat.le_refl _))).mono ?_; rintro e w4 ⟨rfl, hm4⟩; have r4 := hm4.minus (N := N0) (fun k hk => .inl hk) HNN.out.1 HNN.out.2.1 HNN.out.2.2; have HM4 := hdn r4.1; have HZ4 : Hid (Bk w4 w3.heap.size 37 (evA 0 0 0)) := hdn r4.2; have K4 := r4.1.bl; have HLO := hdn HB3.out.size; have y0 : w4.cell? ⟨w3.heap.size, 0, none⟩ = some (.int .i64 0) := HZ4.out.cell 0; have y1 : w4.cell? ⟨w3.heap.size, 1, none⟩ = some (.int .i64 0) := HZ4.out.cell 1; have y2 : w4.cell? ⟨w3.heap.size, 2, none⟩ = some (.int .i64 0) := HZ4.out.cell 2; have x0 : w4.frozen? ⟨w3.heap.size, 0, none⟩ = false := HZ4.out.frozen 0; have x1 : w4.frozen? ⟨w3.heap.size, 1, none⟩ = false := HZ4.out.frozen 1; have x2 : w4.frozen? ⟨w3.heap.size, 2, none⟩ = false := HZ4.out.frozen 2; have HMK := hdn hm4; clear hm4 r4)
        | (go_at_call 37; refine (HDE.out wc.drew).mono ?_; rintro e w3 ⟨rfl, hb3⟩; have HB3 : Hid (RowKit.Below wc.heap.size wc w3) := hdn ((below_drew (Below.refl _ _)).trans hb3); have HM3 := hdn (HM.out.below HB3.out); have K3 := K1.trans (hb3.mono K1.size); clear hb3)
        | (go_at_call 37; refine (HDE.out (wc.alloc (.cells #[.int .i64 0, .int .i64 0, .int .i64 0] 37)).drew).mono ?_; rintro e w3 ⟨rfl, hb3⟩; have HB3 : Hid (RowKit.Below (wc.alloc (.cells #[.int .i64 0, .int .i64 0, .int .i64 0] 37)).heap.size (wc.alloc (.cells #[.int .i64 0, .int .i64 0, .int .i64 0] 37)) w3) := hdn ((below_drew (Below.refl _ _)).trans hb3); have HE3 := hdn (HM.out.plus (HZB.out.trans (HB3.out.mono HZB.out.size)) (HZA.out.below HB3.out HZA.out.lt) (Nat.le_refl _)); have K3 := KA.trans (hb3.mono KA.size); clear hb3)
        | fail)
      · have R1 := hdn (HM4.out.below (alloc_below w4 (.cells #[.int .i64 e0, .int .i64 e1, .int .i64 e2] 37)))
        have R2 : Hid (Bk (w4.alloc (.cells #[.int .i64 e0, .int .i64 e1, .int .i64 e2] 37)) w4.heap.size 37 (evA e0 e1 e2)) := hdn (MapKept.heap_alloc w4 _).1
        go_wp2_with fail
        go_meet
        exact ⟨_, rfl, R1, R2, HLO⟩
      · have r := HMK.out.fin7 (N := N0) K3.size (fun k hk => .inl hk) HNN.out.1 HNN.out.2.1 HNN.out.2.2 (.int .i64 e0) (.int .i64 e1) (.int .i64 e2)
        have R1 := hdn r.1
        have R2 := hdn r.2
        clear r
        go_wp2_with fail
        go_meet
        exact ⟨_, rfl, R1, R2, HLO⟩
      · have r := HMK.out.fin7 (N := N0) hcs (fun k hk => .inl hk) HNN.out.1 HNN.out.2.1 HNN.out.2.2 (.int .i64 e0) (.int .i64 e1) (.int .i64 e2)
        have R1 := hdn r.1
        have R2 := hdn r.2
        clear r
        go_wp2_with fail
        go_meet
        exact ⟨_, rfl, R1, R2, HLO⟩
    case rest =>
    obtain ⟨E, rfl, HMx, HEx, HEl⟩ := hcut
    have HE5 := hdn (Nat.le_trans hcs HEl.out)
    have HDx := hdn (HD.out.far HMx.out.bl)
    have HL5 := hdn HD.out.sz
    have HLx := hdn HMx.out.lo
    have hcell : ∃ R v, HIs wc hb R g.F cs' v := HMx.out.his
    obtain ⟨R9, v9, h9⟩ := hcell
    have HCE := hdn (fun wz (hz : RowKit.Below wc.heap.size wc wz) => cells_any g.F hb R9 cs' v9 wz (h9.below hz) hg.F hn)
    unfold hp at HCE
    clear h9 hn hg HM HNN HNB HNL HZA HZB HBc HEl K0 K1 KA HS hcs HF HDE hcf
    have HS : Hid (∀ w', Gr wc w' (fun i => i = w.heap.size + 1 + 1 + 1 ∨ i = w.heap.size + 1 + 1 + 1 + 1) → w'.cell? ⟨w.heap.size + 1, 0, none⟩ = some (.int .i64 s.pt) ∧ w'.cell? ⟨mb, 0, none⟩ = some (.slice (some ⟨vb, 0, none⟩) vs'.length vs'.length) ∧ w'.cell? ⟨mb, 1, none⟩ = some (.slice (some ⟨ib, 0, none⟩) is'.length is'.length) ∧ w'.cell? ⟨E, 0, none⟩ = some (.int .i64 e0) ∧ w'.cell? ⟨E, 1, none⟩ = some (.int .i64 e1) ∧ w'.cell? ⟨E, 2, none⟩ = some (.int .i64 e2)) := hdn (fun w' hz => by
      have l5 : w.heap.size + 5 ≤ w5.heap.size := HL5.out
      have lE := HE5.out
      obtain ⟨l1, l2, l3⟩ := HLx.out
      replace l1 : w5.heap.size ≤ mb := l1
      have h1 := hz.bk HDx.out.st (by omega)
      have h2 := hz.bk HMx.out.top (by omega)
      have h3 := hz.bk HEx.out (by omega)
      exact ⟨h1.cell 0, h2.cell 0, h2.cell 1, h3.cell 0, h3.cell 1, h3.cell 2⟩)
    have K0 : Gr wc wc (fun i => i = w.heap.size + 1 + 1 + 1 ∨ i = w.heap.size + 1 + 1 + 1 + 1) := Gr.refl _ _
    have KB : Hid (RowKit.Below wc.heap.size wc wc.drew) := hdn (below_drew (Below.refl _ _))
    have HR3 := hdn HDx.out.r1
    have HR4 := hdn HDx.out.r2
    go_wp2_with fail
    go_region_held3 (fun w' => w'.cell? ⟨w.heap.size + 1, 0, none⟩ = some (.int .i64 s.pt) ∧ w'.cell? ⟨mb, 0, none⟩ = some (.slice (some ⟨vb, 0, none⟩) vs'.length vs'.length) ∧ w'.cell? ⟨mb, 1, none⟩ = some (.slice (some ⟨ib, 0, none⟩) is'.length is'.length) ∧ w'.cell? ⟨E, 0, none⟩ = some (.int .i64 e0) ∧ w'.cell? ⟨E, 1, none⟩ = some (.int .i64 e1) ∧ w'.cell? ⟨E, 2, none⟩ = some (.int .i64 e2))
      (first | with_reducible exact HS.out _ K0.drew | with_reducible exact HS.out _ K0 | with_reducible exact HS.out _ K3 | with_reducible exact HS.out _ (Gr.s4' K3 (.inl rfl) _ _ _ _) | with_reducible exact HS.out _ (Gr.s3 K3 (.inr rfl) _ _ _) | with_reducible exact HS.out _ (Gr.s3 (Gr.s4' K3 (.inl rfl) _ _ _ _) (.inr rfl) _ _ _) | with_reducible exact HS.out _ (Gr.s4' (Gr.s3 K3 (.inr rfl) _ _ _) (.inl rfl) _ _ _ _) | fail) (first
      | (go_at_call 38; refine (HCE.out _ KB.out).mono ?_; rintro e w3 ⟨v, rfl, ho3, hb3⟩; obtain ⟨p, cap, rs, rfl, hrs, hly⟩ := OutR.lay ho3 HOK.out; have HRS := hdn hrs; have HLY := hdn hly; have HB3 := hdn (KB.out.trans (hb3.mono KB.out.size)); have K3 : Gr wc w3 (fun i => i = w.heap.size + 1 + 1 + 1 ∨ i = w.heap.size + 1 + 1 + 1 + 1) := Gr.of_below HB3.out; have HE3 := hdn (HR3.out.below HB3.out HR3.out.lt); have HE4 := hdn (HR4.out.below HB3.out HR4.out.lt); have z0 : w3.cell? ⟨w.heap.size + 1 + 1 + 1, 0, none⟩ = some (.int .i64 0) := HE3.out.cell 0; have f0 := HE3.out.frozen 0; have z1 : w3.cell? ⟨w.heap.size + 1 + 1 + 1, 1, none⟩ = some (.slice none 0 0) := HE3.out.cell 1; have f1 := HE3.out.frozen 1; have z2 : w3.cell? ⟨w.heap.size + 1 + 1 + 1, 2, none⟩ = some (.slice none 0 0) := HE3.out.cell 2; have f2 := HE3.out.frozen 2; have z3 : w3.cell? ⟨w.heap.size + 1 + 1 + 1, 3, none⟩ = some (.slice none 0 0) := HE3.out.cell 3; have f3 := HE3.out.frozen 3; have y0 : w3.cell? ⟨w.heap.size + 1 + 1 + 1 + 1, 0, none⟩ = some (.int .i64 0) := HE4.out.cell 0; have x0 := HE4.out.frozen 0; have y1 : w3.cell? ⟨w.heap.size + 1 + 1 + 1 + 1, 1, none⟩ = some (.int .i64 0) := HE4.out.cell 1; have x1 := HE4.out.frozen 1; have y2 : w3.cell? ⟨w.heap.size + 1 + 1 + 1 + 1, 2, none⟩ = some (.int .i64 0) := HE4.out.cell 2; have x2 := HE4.out.frozen 2; clear ho3 hrs hly hb3)
      | fail)
    go_wp2_with fail
    have q1 := gr3 ((((w3.setCell ⟨w.heap.size + 1 + 1 + 1, 0, none⟩ (.int .i64 s.pt)).setCell ⟨w.heap.size + 1 + 1 + 1, 1, none⟩ (.slice (some ⟨vb, 0, none⟩) vs'.length vs'.length)).setCell ⟨w.heap.size + 1 + 1 + 1, 2, none⟩ (.slice (some ⟨ib, 0, none⟩) is'.length is'.length)).setCell ⟨w.heap.size + 1 + 1 + 1, 3, none⟩ (.slice p rs.length cap)) (w.heap.size + 1 + 1 + 1 + 1) (.int .i64 e0) (.int .i64 e1) (.int .i64 e2)
    have q2 : Gr w3 ((((w3.setCell ⟨w.heap.size + 1 + 1 + 1, 0, none⟩ (.int .i64 s.pt)).setCell ⟨w.heap.size + 1 + 1 + 1, 1, none⟩ (.slice (some ⟨vb, 0, none⟩) vs'.length vs'.length)).setCell ⟨w.heap.size + 1 + 1 + 1, 2, none⟩ (.slice (some ⟨ib, 0, none⟩) is'.length is'.length)).setCell ⟨w.heap.size + 1 + 1 + 1, 3, none⟩ (.slice p rs.length cap)) (fun i => i = w.heap.size + 1 + 1 + 1) := Gr.s4' (S := fun i => i = w.heap.size + 1 + 1 + 1) (Gr.refl _ _) (C := w.heap.size + 1 + 1 + 1) rfl _ _ _ _
    have q3 := Gr.of_grown q1
    have q4 := q3.bk (set4 HE3.out (.int .i64 s.pt) (.slice (some ⟨vb, 0, none⟩) vs'.length vs'.length) (.slice (some ⟨ib, 0, none⟩) is'.length is'.length) (.slice p rs.length cap)) (by simp)
    have q5 := bk3 (q2.bk HE4.out (by omega)) (.int .i64 e0) (.int .i64 e1) (.int .i64 e2)
    have hz := HL5.out
    have hg : Gr w3 _ (fun i => i = w.heap.size + 1 + 1 + 1 ∨ i = w.heap.size + 1 + 1 + 1 + 1) := (q2.mono (fun _ _ h => .inl h)).trans (q3.mono (fun k _ h => .inr (by injection h)))
    have l5 : w.heap.size + 5 ≤ w5.heap.size := HL5.out
    obtain ⟨l1, l2, l3⟩ := HLx.out
    replace l2 : w5.heap.size ≤ vb := l2
    replace l3 : w5.heap.size ≤ ib := l3
    have bv := HMx.out.vr.below HB3.out HMx.out.vr.lt
    have bi := HMx.out.ir.below HB3.out HMx.out.ir.lt
    have lc : w5.heap.size ≤ wc.heap.size := HMx.out.bl.size
    refine bodyPost_ret (results_two Tryd.results9 rfl rfl rfl rfl q4 q5) rfl ⟨⟨s.pt, some ⟨vb, 0, none⟩, vs', vs'.length, some ⟨ib, 0, none⟩, is', is'.length, p, rs, cap⟩, rfl, ⟨rfl, rfl, rfl, HRS.out⟩, fun w9 h9 => ?_, ?_⟩
    · have ht : Gr w3 w9 (fun k => k < w5.heap.size) := (hg.mono (fun k _ h => by omega)).trans (h9.mono (fun k _ h => by omega))
      exact ⟨.inr ⟨vb, 0, rfl, by simpa using (ht.bk bv (by omega)).range⟩, .inr ⟨ib, 0, rfl, by simpa using (ht.bk bi (by omega)).range⟩, HLY.out w9 (ht.mono (fun k _ h hn => by have h1 : wc.heap.size ≤ k := hn.1; omega))⟩
    · exact (HD.out.low.trans (HMx.out.bl.mono HD.out.low.size)).trans ((HB3.out.mono (by omega)).trans (hg.below (N := w.heap.size) (by have := HB3.out.size; omega) (fun k h => by omega)))
end Go.Proofs.YtebmhadpkncgfaaDoor
namespace Go.Proofs.YtebmhadpkncgfaaDoor
open Go.RowKit Go.Maps Go.Sort
open Aw.Ac (Acn Opd)
theorem do8_11n (g : GR) (s : SV) (a : Acn) (inp : Int) (w : World) (hg : Gok g) (hs : Rt g s) (hl : s.lies w) (hh : hasB g a = true) (hk : a.kind = 11) (ho : (a.op == 1) = false ∧ (a.op == 2) = false) : Calls Tryd.prog 8 #[.agg g.cs, .agg s.A, .agg a.cs, .int .i64 inp] w (DoP w { s with is := withL s.is a.x (numL s.is a.l) } (evA 0 0 0)) := by
  have HOP := hdn ho
  obtain ⟨w5, hw5⟩ : ∃ w5, ((((w.alloc (.cells g.cs 30)).alloc (.cells s.A 33)).alloc (.cells a.cs 43)).alloc (.cells (stA 0 none 0 0 none 0 0 none 0 0) 33)).alloc (.cells (evA 0 0 0) 37) = w5 := ⟨_, rfl⟩
  have HW : Hid (((((w.alloc (.cells g.cs 30)).alloc (.cells s.A 33)).alloc (.cells a.cs 43)).alloc (.cells #[.int .i64 0, .slice none 0 0, .slice none 0 0, .slice none 0 0] 33)).alloc (.cells #[.int .i64 0, .int .i64 0, .int .i64 0] 37) = w5) := hdn hw5
  have HD : Hid (D5 w w5 g s a) := hdn (by rw [← hw5]; exact D5.start w g s a)
  have HS5 := hdn HD.out.st
  have HL : Hid (s.lies w5) := hdn (hl.below HD.out.low)
  have HC := hdn (own21_any g.F s w5 HL.out (by have := hs.vl; have := hg.V; omega) (by have := hs.il; have := hg.I; omega) hs.n hs.lens hg.F)
  have HRI := hdn (fun wz (hz : RowKit.Below w5.heap.size w5 wz) => right22_any g s wz hg hs (HL.out.below hz))
  have HHA := hdn (fun wz => has23_any g a wz)
  rw [hh] at HHA
  have HLO : Hid (∀ wz, RowKit.Below w5.heap.size w5 wz → Calls Tryd.prog 24 #[.slice g.fp g.F g.fc, .slice s.cp s.rs.length s.cc] wz fun e w' => ∃ v N, e = .returned (.agg #[.int .i64 g.F, v, .bool true]) ∧ Out g.F w' N v (s.rs.map RC.c) ∧ (∀ b, N b → wz.heap.size ≤ b) ∧ RowKit.Below wz.heap.size wz w') := hdn (fun wz hz => by
    have := refLoad_any g.F g.fc s.cc g.fp s.cp s.rs wz (HL.out.c.below hz (fun x h => RC.lies_below' h hz)) hg.F hs.n
    rw [hs.loaded] at this
    exact this)
  have CV := fun (x : Int) (wz : World) (hz : RowKit.Below w5.heap.size w5 wz) => qb_call (wB := wz) (F := 25) (ar := #[.slice s.vp s.vs.length s.vc, .int .i64 x]) (v := .int .i64 (atL s.vs x)) (fun wr hb' => (at25_any s.vp s.vs s.vc x wr ((HL.out.below hz).v.below hb')).mono (fun e w' he => ⟨he.1, same_below he.2⟩))
  have HVX := hdn (CV a.x)
  have HVY := hdn (CV a.y)
  have HWV : Hid (∀ x wz, RowKit.Below w5.heap.size w5 wz → Calls Tryd.prog 26 #[.slice s.vp s.vs.length s.vc, .int .i64 a.x, .int .i64 x] wz (WithP wz (withL s.vs a.x x))) := hdn (fun x wz hz => with_any s.vp s.vs s.vc a.x x wz (HL.out.v.below hz) (by have := hs.vl; have := hg.V; omega))
  have HWI : Hid (∀ x wz, RowKit.Below w5.heap.size w5 wz → Calls Tryd.prog 26 #[.slice s.ip s.is.length s.ic, .int .i64 a.x, .int .i64 x] wz (WithP wz (withL s.is a.x x))) := hdn (fun x wz hz => with_any s.ip s.is s.ic a.x x wz (HL.out.i.below hz) (by have := hs.il; have := hg.I; omega))
  have HVA : Hid (∀ (o : Opd) wz, RowKit.Below w5.heap.size w5 wz → Calls Tryd.prog 32 #[.agg s.A, .agg #[.int .i64 o.v, .int .i64 o.n]] wz (RetV wz (.int .i64 (numL s.is o)))) := hdn (fun o wz hz => value32_any s o wz (HL.out.below hz))
  have HK := hdn hk
  clear CV hk
  clear hw5 hl hs hg hh ho
  go_enter Tryd.func8, Tryd.ntmps8
  go_upto_region 1 with fail
  rw [HW.out]
  clear HW
  go_upto_region 2 with (first
    | ((with_reducible show wpList _ _ _ (Oper.mk _ (Op.load 33 _) _ _ _ _ :: _) _ _); refine wpList_load_bk rfl 33 _ rfl (w.heap.size + 1) 33 s.A rfl _ HS5.out Tryd.underlying33 rfl size33 ?_)
    | (go_at_call 21; refine HC.out.mono ?_; rintro e w6 ⟨t, rfl, hs6, hv6, hb6⟩; have HT := hdn hs6; have HV := hdn hv6; have HB6 := hdn hb6; have HZ6 : Hid (Bk (w6.alloc (.cells #[.int .i64 0, .slice none 0 0, .slice none 0 0, .slice none 0 0] 33)) w6.heap.size 33 (stA 0 none 0 0 none 0 0 none 0 0)) := hdn (MapKept.heap_alloc w6 _).1; clear hs6 hv6 hb6)
    | ((with_reducible show wpList _ _ _ (Oper.mk none (Op.store 33 _ _) _ _ _ _ :: _) _ _); refine wpList_store_all rfl 33 _ _ rfl w6.heap.size 33 _ t.A rfl rfl HZ6.out size33 rfl (SV.A_one t) ?_; intro w7 h7 g7))
  have H6 : Hid (D6 w w5 w7 g s a w6.heap.size t) := hdn (D6.start HD.out HB6.out HV.out h7.out g7.out)
  clear h7 g7 HC HS5 HV HB6 HZ6
  generalize w6.heap.size = O at H6 ⊢
  have HG7 := hdn H6.out.d5.gr
  have HS7 := hdn H6.out.d5.st
  go_upto_region 4 with (first
    | ((with_reducible show wpList _ _ _ (Oper.mk (some 25) (Op.load 30 _) _ _ _ _ :: _) _ _); refine wpList_load_bk rfl 30 _ rfl w.heap.size 30 g.cs rfl _ HG7.out Tryd.underlying30 rfl size30 ?_)
    | ((with_reducible show wpList _ _ _ (Oper.mk (some 26) (Op.load 33 _) _ _ _ _ :: _) _ _); refine wpList_load_bk rfl 33 _ rfl (w.heap.size + 1) 33 s.A rfl _ HS7.out Tryd.underlying33 rfl size33 ?_)
    | (go_at_call 22; refine (HRI.out w7 H6.out.low).mono ?_; rintro e w8 ⟨rfl, hb8⟩; have H8 := hdn (H6.out.far' hb8); have HG8 := hdn H8.out.d5.gr; have HA8 := hdn H8.out.d5.ac; obtain ⟨c0, c1, c2, c3, c4, c5, c6, c7, c8, c9⟩ := G10.of HG8.out; obtain ⟨a0, a1, a2, a3, a4, a5, a6, a7, a8, a9, a10, a11⟩ := A12f.of HA8.out; clear hb8)
    | (go_at_call 23; refine (HHA.out w8).mono ?_; rintro e w9 ⟨rfl, hb9⟩; have H9 := hdn (H8.out.far' hb9); clear hb9))
  clear c0 c1 c2 c3 c4 c5 c6 c7 c8 c9 a0 a1 a2 a3 a4 a5 a6 a7 a8 a9 a10 a11 HG8 HA8 HRI HHA HG7 HS7 H8
  obtain ⟨_, _, _, _, _, _, _, _, _, c9⟩ := G10.of H9.out.d5.gr
  obtain ⟨_, _, _, s3⟩ := Z33.of H9.out.d5.st
  go_upto_region 5 with (first
    | (go_at_call 24; refine (HLO.out w9 H9.out.low).mono ?_; rintro e w10 ⟨v, N, rfl, hov, hnv, hbv⟩; have HOV := hdn hov; have HNV := hdn hnv; have HBV := hdn hbv; have HZ10 : Hid (Bk (w10.alloc (.cells #[.int .i64 0, .slice none 0 0, .bool false] 59)) w10.heap.size 59 #[.int .i64 0, .slice none 0 0, .bool false]) := hdn (MapKept.heap_alloc w10 _).1; have H1C : Hid ((#[.int .i64 g.F, v, .bool true] : Array Value).all (·.oneCell') = true) := hdn (Kin.Lie.oneA hov); clear hov hnv hbv)
    | ((with_reducible show wpList _ _ _ (Oper.mk none (Op.store 59 _ _) _ _ _ _ :: _) _ _); refine wpList_store_all rfl 59 _ _ rfl w10.heap.size 59 _ #[.int .i64 g.F, v, .bool true] rfl rfl HZ10.out size29 rfl H1C.out ?_; intro w11 h11 g11))
  have H7 : Hid (D7 w w5 w11 g s a O t w10.heap.size v N) := hdn (D7.start H9.out HBV.out HOV.out HNV.out h11.out g11.out)
  clear h11 g11 HOV HNV HBV HZ10 H1C c9 s3
  generalize w10.heap.size = B at H7 ⊢
  simp only [Act.put]
  obtain ⟨a0, a1, a2, a3, a4, a5, a6, a7, a8, a9, a10, a11⟩ := A12f.of H7.out.d6.d5.ac
  obtain ⟨s0, s1, s2, s3⟩ := Z33.of H7.out.d6.d5.st
  have cX := HVX.out w11 H7.out.d6.low
  have cY := HVY.out w11 H7.out.d6.low
  have p1 := cell_regrown a1; have p2 := cell_regrown a2; have p3 := cell_regrown s1
  refine wp_region_quiet_below (by kernel_rfl) (by kernel_rfl) ?_
  repeat (go_big_quiet_step (first | (with_reducible exact cX _ _) | (with_reducible exact cY _ _)))
  refine wpQuiet_nil ?_
  intro _ hw'
  obtain ⟨⟨dz, osz⟩, hw''⟩ := hw'
  subst hw''
  have H12 : Hid (D7 w w5 (grow (redrawn w11 dz) osz) g s a O t B v N) := hdn (H7.out.far' (below_regrown w11 dz osz))
  generalize grow (redrawn w11 dz) osz = w12 at H12 ⊢
  clear p1 p2 p3 cX cY a0 a1 a2 a3 a4 a5 a6 a7 a8 a9 a10 a11 s0 s1 s2 s3 H7 H9 HVX HVY HLO
  obtain ⟨a0, a1, a2, a3, a4, a5, a6, a7, a8, a9, a10, a11⟩ := A12f.of H12.out.d6.d5.ac
  obtain ⟨s0, s1, s2, s3⟩ := Z33.of H12.out.d6.d5.st
  rw [HK.out] at a0
  have HS12 := hdn H12.out.d6.d5.st
  have ho1 := HOP.out.1
  have ho2 := HOP.out.2
  go_upto_region 41 with (first
    | ((with_reducible show wpList _ _ _ (Oper.mk (some 192) (Op.load 33 _) _ _ _ _ :: _) _ _); refine wpList_load_bk rfl 33 _ rfl (w.heap.size + 1) 33 s.A rfl _ HS12.out Tryd.underlying33 rfl size33 ?_)
    | (go_at_call 32; refine (HVA.out a.l w12 H12.out.d6.low).mono ?_; rintro e w13 ⟨rfl, hb13⟩; have H13 := hdn (H12.out.d6.far' hb13); clear hb13))
  clear a0 a1 a2 a3 a4 a5 a6 a7 a8 a9 a10 a11 s0 s1 s2 s3
  obtain ⟨a0, a1, a2, a3, a4, a5, a6, a7, a8, a9, a10, a11⟩ := A12f.of H13.out.d5.ac
  obtain ⟨s0, s1, s2, s3⟩ := Z33.of H13.out.d5.st
  have HS13 := hdn H13.out.d5.st
  go_upto_region 46 with (go_at_call 26; refine (HWI.out (numL s.is a.l) w13 H13.out.low).mono ?_; rintro e w15 ⟨g1, cp1, rfl, hnw⟩; have HNW := hdn hnw; have H15 := hdn (H13.out.far' hnw.below); have HLT := hdn H13.out.out.lt; have HLS := hdn H13.out.low.size; have f13 := H15.out.out.frozen 2; have g13 : w15.cell? ⟨O, 2, none⟩ = some (.slice t.ip t.is.length t.ic) := H15.out.out.cell 2; clear hnw)
  have H16 := hdn (H15.out.puti (c := cp1) HNW.out HD.out.sz HLS.out HLT.out)
  clear f13 g13
  generalize w15.setCell ⟨O, 2, none⟩ (.slice (some ⟨g1, 0, none⟩) (withL s.is a.x (numL s.is a.l)).length cp1) = w16 at H16 ⊢
  have HO9 := hdn H16.out.out
  have HR1 := hdn H16.out.d5.r1
  have HR2 := hdn H16.out.d5.r2
  go_wp2_with (first
    | ((with_reducible show wpList _ _ _ (Oper.mk (some 221) (Op.load 33 _) _ _ _ _ :: _) _ _); refine wpList_load_bk rfl 33 _ rfl O 33 ({ t with ip := some ⟨g1, 0, none⟩, is := withL s.is a.x (numL s.is a.l), ic := cp1 } : SV).A rfl _ HO9.out Tryd.underlying33 rfl size33 ?_)
    | ((with_reducible show wpList _ _ _ (Oper.mk none (Op.store 33 _ _) _ _ _ _ :: _) _ _); refine wpList_store_all rfl 33 _ _ rfl (w.heap.size + 1 + 1 + 1) 33 _ ({ t with ip := some ⟨g1, 0, none⟩, is := withL s.is a.x (numL s.is a.l), ic := cp1 } : SV).A rfl rfl HR1.out size33 rfl (SV.A_one _) ?_; intro w20 h20 g20; have HR3 := hdn ((Gr.of_grown g20.out).bk HR2.out (by intro h; injection h; omega)))
    | ((with_reducible show wpList _ _ _ (Oper.mk none (Op.store 37 _ _) _ _ _ _ :: _) _ _); refine wpList_store_all rfl 37 _ _ rfl (w.heap.size + 1 + 1 + 1 + 1) 37 _ (evA 0 0 0) rfl rfl HR3.out size37 rfl (evA_one _ _ _) ?_; intro w21 h21 g21))
  have q1 : Bk w21 (w.heap.size + 1 + 1 + 1) 33 ({ t with ip := some ⟨g1, 0, none⟩, is := withL s.is a.x (numL s.is a.l), ic := cp1 } : SV).A := (Gr.of_grown g21.out).bk h20.out (by intro h; injection h; omega)
  exact bodyPost_ret (results_two Tryd.results8 rfl rfl rfl rfl q1 h21.out) rfl (D6.fin HD.out.sz H16.out ⟨HT.out.pt, HT.out.vs, rfl, HT.out.cs⟩ g20.out g21.out)
end Go.Proofs.YtebmhadpkncgfaaDoor
namespace Go.Proofs.YtebmhadpkncgfaaDoor
open Go.RowKit Go.Maps Go.Sort
open Aw.Ac (Acn Opd)
theorem evE_zero {a : Acn} {n : Int} (h : n = 0) : evE a n = evA 0 0 0 := by unfold evE; rw [if_pos h]
theorem evE_some {a : Acn} {n : Int} (h : n ≠ 0) : evE a n = evA 3 a.pl n := by unfold evE; rw [if_neg h]
theorem faultC_zero {cs : List PC} {c : Int} : freeE cs c = 0 ↔ faultC cs c = 0 := by
  unfold freeE
  rcases faultC_ways cs c with h | h | h <;> rw [h] <;> simp
/-- What the document's Do makes of a right state. -/
theorem do8_any (g : GR) (s : SV) (a : Acn) (inp : Int) (w : World) (hg : Gok g) (hs : Rt g s) (hl : s.lies w) (hh : hasB g a = true) : Calls Tryd.prog 8 #[.agg g.cs, .agg s.A, .agg a.cs, .int .i64 inp] w (DoQ w s.pt (nxV g.F s a inp) (nxI s a inp) (nxC g.F s a inp) (nxE s a inp)) := by
  obtain ⟨k1, k2⟩ := rights_kind (has_right hh).1
  obtain ⟨_, _, _, _, hop⟩ := rights_pos (has_right hh).1
  have hkk : a.kind = 0 ∨ a.kind = 1 ∨ a.kind = 2 ∨ a.kind = 3 ∨ a.kind = 4 ∨ a.kind = 5 ∨ a.kind = 6 ∨ a.kind = 7 ∨ a.kind = 8 ∨ a.kind = 9 ∨ a.kind = 10 ∨ a.kind = 11 ∨ a.kind = 12 := by omega
  rcases hkk with hk | hk | hk | hk | hk | hk | hk | hk | hk | hk | hk | hk | hk
  · have e : nxV g.F s a inp = s.vs ∧ nxI s a inp = s.is ∧ nxC g.F s a inp = s.cs ∧ nxE s a inp = evA 0 0 0 := by simp [nxV, nxI, nxC, nxE, hk]
    rw [e.1, e.2.1, e.2.2.1, e.2.2.2]
    exact (do8_0 g s a inp w hg hs hl hh hk).mono fun _ _ h => h.q
  · have e : nxV g.F s a inp = withL s.vs a.x 0 ∧ nxI s a inp = s.is ∧ nxC g.F s a inp = s.cs ∧ nxE s a inp = evA 0 0 0 := by simp [nxV, nxI, nxC, nxE, hk]
    rw [e.1, e.2.1, e.2.2.1, e.2.2.2]
    exact (do8_1 g s a inp w hg hs hl hh hk).mono fun _ _ h => h.q
  · have e : nxV g.F s a inp = withL s.vs a.x (atL s.vs a.y) ∧ nxI s a inp = s.is ∧ nxC g.F s a inp = s.cs ∧ nxE s a inp = evA 0 0 0 := by simp [nxV, nxI, nxC, nxE, hk]
    rw [e.1, e.2.1, e.2.2.1, e.2.2.2]
    exact (do8_2 g s a inp w hg hs hl hh hk).mono fun _ _ h => h.q
  · by_cases hf : faultC s.cs (atL s.vs a.y) = 0
    · have e : nxV g.F s a inp = withL s.vs a.x (getV g.F s.cs (atL s.vs a.y) a.f) ∧ nxI s a inp = s.is ∧ nxC g.F s a inp = s.cs ∧ nxE s a inp = evA 0 0 0 := by simp [nxV, nxI, nxC, nxE, hk, hf, evE_zero]
      rw [e.1, e.2.1, e.2.2.1, e.2.2.2]
      exact (do8_3ok g s a inp w hg hs hl hh hk hf).mono fun _ _ h => h.q
    · have e : nxV g.F s a inp = s.vs ∧ nxI s a inp = s.is ∧ nxC g.F s a inp = s.cs ∧ nxE s a inp = evA 3 a.pl (faultC s.cs (atL s.vs a.y)) := by simp [nxV, nxI, nxC, nxE, hk, hf, evE_some]
      rw [e.1, e.2.1, e.2.2.1, e.2.2.2]
      exact (do8_3no g s a inp w hg hs hl hh hk hf).mono fun _ _ h => h.q
  · by_cases hf : faultC s.cs (atL s.vs a.x) = 0
    · have e : nxV g.F s a inp = s.vs ∧ nxI s a inp = s.is ∧ nxC g.F s a inp = putC g.F s.cs (atL s.vs a.x) a.f 0 ∧ nxE s a inp = evA 0 0 0 := by simp [nxV, nxI, nxC, nxE, hk, hf, evE_zero]
      rw [e.1, e.2.1, e.2.2.1, e.2.2.2]
      exact do8_4ok g s a inp w hg hs hl hh hk hf
    · have e : nxV g.F s a inp = s.vs ∧ nxI s a inp = s.is ∧ nxC g.F s a inp = s.cs ∧ nxE s a inp = evA 3 a.pl (faultC s.cs (atL s.vs a.x)) := by simp [nxV, nxI, nxC, nxE, hk, hf, evE_some, putC_no]
      rw [e.1, e.2.1, e.2.2.1, e.2.2.2]
      exact do8_4no g s a inp w hg hs hl hh hk hf
  · by_cases hf : faultC s.cs (atL s.vs a.x) = 0
    · have e : nxV g.F s a inp = s.vs ∧ nxI s a inp = s.is ∧ nxC g.F s a inp = putC g.F s.cs (atL s.vs a.x) a.f (atL s.vs a.y) ∧ nxE s a inp = evA 0 0 0 := by simp [nxV, nxI, nxC, nxE, hk, hf, evE_zero]
      rw [e.1, e.2.1, e.2.2.1, e.2.2.2]
      exact do8_5ok g s a inp w hg hs hl hh hk hf
    · have e : nxV g.F s a inp = s.vs ∧ nxI s a inp = s.is ∧ nxC g.F s a inp = s.cs ∧ nxE s a inp = evA 3 a.pl (faultC s.cs (atL s.vs a.x)) := by simp [nxV, nxI, nxC, nxE, hk, hf, evE_some, putC_no]
      rw [e.1, e.2.1, e.2.2.1, e.2.2.2]
      exact do8_5no g s a inp w hg hs hl hh hk hf
  · by_cases hi : inp = 0
    · have e : nxV g.F s a inp = withL s.vs a.x 0 ∧ nxI s a inp = s.is ∧ nxC g.F s a inp = s.cs ∧ nxE s a inp = evA 1 a.pl 0 := by simp [nxV, nxI, nxC, nxE, hk, hi]
      rw [e.1, e.2.1, e.2.2.1, e.2.2.2]
      exact do8_6n g s a inp w hg hs hl hh hk hi
    · have e : nxV g.F s a inp = withL s.vs a.x ((s.rs.length : Int) + 1) ∧ nxI s a inp = s.is ∧ nxC g.F s a inp = s.cs ++ [newC g.F a.t] ∧ nxE s a inp = evA 1 a.pl 1 := by simp [nxV, nxI, nxC, nxE, hk, hi, SV.csl]
      rw [e.1, e.2.1, e.2.2.1, e.2.2.2]
      exact do8_6s g s a inp w hg hs hl hh hk hi
  · by_cases hf : freeE s.cs (atL s.vs a.x) = 0
    · have e : nxV g.F s a inp = s.vs ∧ nxI s a inp = s.is ∧ nxC g.F s a inp = freeC g.F s.cs (atL s.vs a.x) ∧ nxE s a inp = evA 2 a.pl (atL s.vs a.x) := by simp [nxV, nxI, nxC, nxE, hk, hf, frEv]
      rw [e.1, e.2.1, e.2.2.1, e.2.2.2]
      exact do8_7ok g s a inp w hg hs hl hh hk hf
    · have hf' : ¬ faultC s.cs (atL s.vs a.x) = 0 := fun h => hf (faultC_zero.2 h)
      have e : nxV g.F s a inp = s.vs ∧ nxI s a inp = s.is ∧ nxC g.F s a inp = s.cs ∧ nxE s a inp = evA 3 a.pl (freeE s.cs (atL s.vs a.x)) := by simp [nxV, nxI, nxC, nxE, hk, hf, frEv, evE_some, freeC_no, hf']
      rw [e.1, e.2.1, e.2.2.1, e.2.2.2]
      exact do8_7no g s a inp w hg hs hl hh hk hf
  · have e : nxV g.F s a inp = s.vs ∧ nxI s a inp = s.is ∧ nxC g.F s a inp = s.cs ∧ nxE s a inp = evA 0 0 0 := by simp [nxV, nxI, nxC, nxE, hk]
    rw [e.1, e.2.1, e.2.2.1, e.2.2.2]
    exact (do8_8 g s a inp w hg hs hl hh hk).mono fun _ _ h => h.q
  · have e : nxV g.F s a inp = s.vs ∧ nxI s a inp = s.is ∧ nxC g.F s a inp = s.cs ∧ nxE s a inp = evA 0 0 0 := by simp [nxV, nxI, nxC, nxE, hk]
    rw [e.1, e.2.1, e.2.2.1, e.2.2.2]
    exact (do8_9 g s a inp w hg hs hl hh hk).mono fun _ _ h => h.q
  · have e : nxV g.F s a inp = s.vs ∧ nxI s a inp = withL s.is a.x inp ∧ nxC g.F s a inp = s.cs ∧ nxE s a inp = evA 0 0 0 := by simp [nxV, nxI, nxC, nxE, hk]
    rw [e.1, e.2.1, e.2.2.1, e.2.2.2]
    exact (do8_10 g s a inp w hg hs hl hh hk).mono fun _ _ h => h.q
  · rcases hop hk with ho | ho | ho
    · have e : nxV g.F s a inp = s.vs ∧ nxI s a inp = withL s.is a.x (numL s.is a.l) ∧ nxC g.F s a inp = s.cs ∧ nxE s a inp = evA 0 0 0 := by simp [nxV, nxI, nxC, nxE, nxN, hk, ho]
      rw [e.1, e.2.1, e.2.2.1, e.2.2.2]
      exact (do8_11n g s a inp w hg hs hl hh hk (by rw [ho]; exact ⟨rfl, rfl⟩)).mono fun _ _ h => h.q
    · have e : nxV g.F s a inp = s.vs ∧ nxI s a inp = withL s.is a.x (IntKind.i64.wrap (numL s.is a.l + numL s.is a.r)) ∧ nxC g.F s a inp = s.cs ∧ nxE s a inp = evA 0 0 0 := by simp [nxV, nxI, nxC, nxE, nxN, hk, ho]
      rw [e.1, e.2.1, e.2.2.1, e.2.2.2]
      exact do8_11a g s a inp w hg hs hl hh hk ho
    · have e : nxV g.F s a inp = s.vs ∧ nxI s a inp = withL s.is a.x (IntKind.i64.wrap (numL s.is a.l - numL s.is a.r)) ∧ nxC g.F s a inp = s.cs ∧ nxE s a inp = evA 0 0 0 := by simp [nxV, nxI, nxC, nxE, nxN, hk, ho]
      rw [e.1, e.2.1, e.2.2.1, e.2.2.2]
      exact do8_11s g s a inp w hg hs hl hh hk ho
  · have e : nxV g.F s a inp = s.vs ∧ nxI s a inp = s.is ∧ nxC g.F s a inp = s.cs ∧ nxE s a inp = evA 0 0 0 := by simp [nxV, nxI, nxC, nxE, hk]
    rw [e.1, e.2.1, e.2.2.1, e.2.2.2]
    exact (do8_12 g s a inp w hg hs hl hh hk).mono fun _ _ h => h.q
end Go.Proofs.YtebmhadpkncgfaaDoor
namespace Go.Proofs.YtebmhadpkncgfaaDoor
open Go.RowKit Go.Maps Go.Sort
open Aw.Ac (Acn Opd)
theorem withL_set {l : List Int} {k : Nat} (h : k < l.length) (v : Int) : withL l (k : Int) v = l.set k v := by
  unfold withL inB
  rw [if_pos (by simp; omega), Int.toNat_natCast]
theorem evE_evA (a : Acn) (n : Int) : evE a n = evA (if n = 0 then 0 else 3) (if n = 0 then 0 else a.pl) n := by
  unfold evE
  split
  · rename_i h; rw [h]
  · rfl
theorem frEv_evA (a : Acn) (cs : List PC) (c : Int) : frEv a cs c = evA (if freeE cs c = 0 then 2 else 3) a.pl (if freeE cs c = 0 then c else freeE cs c) := by
  unfold frEv
  split
  · rfl
  · rename_i h; rw [evE_some h]
theorem nat_of {x : Int} {n : Nat} (h0 : 0 ≤ x) (h : x < n) : ∃ k : Nat, x = k ∧ k < n := ⟨x.toNat, by omega, by omega⟩
theorem csok_of {g : GR} {s : SV} {a : Acn} {inp : Int} (h : Rt g s) (hh : hasB g a = true) (hn : s.rs.length < 2000000) (hi : okI inp) (hl : okI a.l.n) : (nxC g.F s a inp).length ≤ 2000000 ∧ ∀ c ∈ nxC g.F s a inp, c.ok := by
  obtain ⟨t, ht⟩ : ∃ t : SV, t = ⟨s.pt, none, nxV g.F s a inp, 0, none, nxI s a inp, 0, none, (nxC g.F s a inp).map (fun c => ⟨c, none, 0⟩), 0⟩ := ⟨_, rfl⟩
  have hcs : t.cs = nxC g.F s a inp := by rw [ht]; unfold SV.cs; rw [List.map_map]; exact List.map_id _
  obtain ⟨h1, h2⟩ := h.made (t := t) hh hn hi hl (by rw [ht]) (by rw [ht]) (by rw [ht]) hcs
  have h3 := h1.csok
  rw [hcs] at h3
  have h4 : (nxC g.F s a inp).length ≤ 2000000 := by rw [← hcs, t.csl]; omega
  exact ⟨h4, Rt.oks h4 h3⟩
theorem do9_any (g : GR) (s : SV) (a : Acn) (inp : Int) (w : World) (hg : Gok g) (hS : 0 ≤ g.S) (hG : Aw.Gl w) (hs : Rt g s) (hl : s.lies w) (hh : hasB g a = true) (hn : s.rs.length < 2000000) (hi : okI inp) (hol : okI a.l.n) :
    Calls Tryd.prog 9 #[.agg g.cs, .agg s.A, .agg a.cs, .int .i64 inp] w (DoQ w s.pt (nxV g.F s a inp) (nxI s a inp) (nxC g.F s a inp) (nxE s a inp)) := by
  obtain ⟨k1, k2⟩ := rights_kind (has_right hh).1
  obtain ⟨px, py, _, _, hop⟩ := rights_pos (has_right hh).1
  have hin := (has_right hh).2
  obtain ⟨c1, c2⟩ := csok_of hs hh hn hi hol
  have hvl := hs.vl
  have hil := hs.il
  have hF := hg.F
  have hnm : s.cs.length ≤ maxLen := by rw [s.csl]; unfold maxLen; omega
  have hn2 : s.cs.length ≤ 2000000 := by rw [s.csl]; omega
  have hat := fun x => okI_small (n := atL s.vs x) (by have := hs.at_ x; omega)
  have hkk : a.kind = 0 ∨ a.kind = 1 ∨ a.kind = 2 ∨ a.kind = 3 ∨ a.kind = 4 ∨ a.kind = 5 ∨ a.kind = 6 ∨ a.kind = 7 ∨ a.kind = 8 ∨ a.kind = 9 ∨ a.kind = 10 ∨ a.kind = 11 ∨ a.kind = 12 := by omega
  unfold inG at hin
  rcases hkk with hk | hk | hk | hk | hk | hk | hk | hk | hk | hk | hk | hk | hk
  · have e : nxV g.F s a inp = s.vs ∧ nxI s a inp = s.is ∧ nxC g.F s a inp = s.cs ∧ nxE s a inp = evA 0 0 0 := by simp [nxV, nxI, nxC, nxE, hk]
    rw [e.2.2.1] at c1 c2
    rw [e.1, e.2.1, e.2.2.1, e.2.2.2]
    exact do9_has g s a inp w hg hS hG hs hl hh 0 hk (by omega) _ _ _ _ _ _ c1 c2 (fun w0 w1 N mb vb ib hb h => skip_any h a inp)
  · simp [hk] at hin
    obtain ⟨x, hx, hxl⟩ := nat_of (n := s.vs.length) (px (by omega)) (by omega)
    have e : nxV g.F s a inp = s.vs.set x 0 ∧ nxI s a inp = s.is ∧ nxC g.F s a inp = s.cs ∧ nxE s a inp = evA 0 0 0 := by simp [nxV, nxI, nxC, nxE, hk, hx, withL_set hxl]
    rw [e.2.2.1] at c1 c2
    rw [e.1, e.2.1, e.2.2.1, e.2.2.2]
    exact do9_has g s a inp w hg hS hG hs hl hh 1 hk (by omega) _ _ _ _ _ _ c1 c2 (fun w0 w1 N mb vb ib hb h => null_any h a inp x hx hxl)
  · simp [hk] at hin
    obtain ⟨x, hx, hxl⟩ := nat_of (n := s.vs.length) (px (by omega)) (by omega)
    obtain ⟨y, hy, hyl⟩ := nat_of (n := s.vs.length) (py (by omega)) (by omega)
    have e : nxV g.F s a inp = s.vs.set x (atL s.vs y) ∧ nxI s a inp = s.is ∧ nxC g.F s a inp = s.cs ∧ nxE s a inp = evA 0 0 0 := by simp [nxV, nxI, nxC, nxE, hk, hx, hy, withL_set hxl]
    rw [e.2.2.1] at c1 c2
    rw [e.1, e.2.1, e.2.2.1, e.2.2.2]
    exact do9_has g s a inp w hg hS hG hs hl hh 2 hk (by omega) _ _ _ _ _ _ c1 c2 (fun w0 w1 N mb vb ib hb h => copy_any h a inp x y hx hy hxl hyl)
  · simp [hk] at hin
    obtain ⟨x, hx, hxl⟩ := nat_of (n := s.vs.length) (px (by omega)) (by omega)
    obtain ⟨y, hy, hyl⟩ := nat_of (n := s.vs.length) (py (by omega)) (by omega)
    have e : nxV g.F s a inp = (if faultC s.cs (atL s.vs y) = 0 then s.vs.set x (getV g.F s.cs (atL s.vs y) a.f) else s.vs) ∧ nxI s a inp = s.is ∧ nxC g.F s a inp = s.cs ∧ nxE s a inp = evE a (faultC s.cs (atL s.vs y)) := by simp [nxV, nxI, nxC, nxE, hk, hx, hy, withL_set hxl]
    rw [e.2.2.1] at c1 c2
    rw [e.1, e.2.1, e.2.2.1, e.2.2.2, evE_evA]
    exact do9_has g s a inp w hg hS hG hs hl hh 3 hk (by omega) _ _ _ _ _ _ c1 c2 (fun w0 w1 N mb vb ib hb h => by rw [← evE_evA]; exact load59_any h hF hnm a inp x y hx hy hxl hyl)
  · simp [hk] at hin
    obtain ⟨x, hx, hxl⟩ := nat_of (n := s.vs.length) (px (by omega)) (by omega)
    have e : nxV g.F s a inp = s.vs ∧ nxI s a inp = s.is ∧ nxC g.F s a inp = putC g.F s.cs (atL s.vs x) a.f 0 ∧ nxE s a inp = evE a (faultC s.cs (atL s.vs x)) := by simp [nxV, nxI, nxC, nxE, hk, hx]
    rw [e.2.2.1] at c1 c2
    rw [e.1, e.2.1, e.2.2.1, e.2.2.2, evE_evA]
    exact do9_has g s a inp w hg hS hG hs hl hh 4 hk (by omega) _ _ _ _ _ _ c1 c2 (fun w0 w1 N mb vb ib hb h => by rw [← evE_evA]; exact cut_any h hF hnm a inp x hx hxl)
  · simp [hk] at hin
    obtain ⟨x, hx, hxl⟩ := nat_of (n := s.vs.length) (px (by omega)) (by omega)
    obtain ⟨y, hy, hyl⟩ := nat_of (n := s.vs.length) (py (by omega)) (by omega)
    have e : nxV g.F s a inp = s.vs ∧ nxI s a inp = s.is ∧ nxC g.F s a inp = putC g.F s.cs (atL s.vs x) a.f (atL s.vs y) ∧ nxE s a inp = evE a (faultC s.cs (atL s.vs x)) := by simp [nxV, nxI, nxC, nxE, hk, hx, hy]
    rw [e.2.2.1] at c1 c2
    rw [e.1, e.2.1, e.2.2.1, e.2.2.2, evE_evA]
    exact do9_has g s a inp w hg hS hG hs hl hh 5 hk (by omega) _ _ _ _ _ _ c1 c2 (fun w0 w1 N mb vb ib hb h => by rw [← evE_evA]; exact link_any h hF hnm a inp x y hx hy hxl hyl (hat y))
  · simp [hk] at hin
    obtain ⟨x, hx, hxl⟩ := nat_of (n := s.vs.length) (px (by omega)) (by omega)
    by_cases h0 : inp = 0
    · subst h0
      have e : nxV g.F s a 0 = s.vs.set x 0 ∧ nxI s a 0 = s.is ∧ nxC g.F s a 0 = s.cs ∧ nxE s a 0 = evA 1 a.pl 0 := by simp [nxV, nxI, nxC, nxE, hk, hx, withL_set hxl]
      rw [e.2.2.1] at c1 c2
      rw [e.1, e.2.1, e.2.2.1, e.2.2.2]
      exact do9_has g s a 0 w hg hS hG hs hl hh 6 hk (by omega) _ _ _ _ _ _ c1 c2 (fun w0 w1 N mb vb ib hb h => fresh_none h a x hx hxl)
    · have e : nxV g.F s a inp = s.vs.set x ((s.cs.length + 1 : Nat) : Int) ∧ nxI s a inp = s.is ∧ nxC g.F s a inp = s.cs ++ [newC g.F a.t] ∧ nxE s a inp = evA 1 a.pl 1 := by simp [nxV, nxI, nxC, nxE, hk, hx, h0, withL_set hxl]
      rw [e.2.2.1] at c1 c2
      rw [e.1, e.2.1, e.2.2.1, e.2.2.2]
      exact do9_has g s a inp w hg hS hG hs hl hh 6 hk (by omega) _ _ _ _ _ _ c1 c2 (fun w0 w1 N mb vb ib hb h => fresh_some h hn2 a inp h0 x hx hxl)
  · simp [hk] at hin
    obtain ⟨x, hx, hxl⟩ := nat_of (n := s.vs.length) (px (by omega)) (by omega)
    have e : nxV g.F s a inp = s.vs ∧ nxI s a inp = s.is ∧ nxC g.F s a inp = freeC g.F s.cs (atL s.vs x) ∧ nxE s a inp = frEv a s.cs (atL s.vs x) := by simp [nxV, nxI, nxC, nxE, hk, hx]
    rw [e.2.2.1] at c1 c2
    rw [e.1, e.2.1, e.2.2.1, e.2.2.2, frEv_evA]
    exact do9_has g s a inp w hg hS hG hs hl hh 7 hk (by omega) _ _ _ _ _ _ c1 c2 (fun w0 w1 N mb vb ib hb h => by rw [← frEv_evA]; exact free63_any h hnm a inp x hx hxl)
  · have e : nxV g.F s a inp = s.vs ∧ nxI s a inp = s.is ∧ nxC g.F s a inp = s.cs ∧ nxE s a inp = evA 0 0 0 := by simp [nxV, nxI, nxC, nxE, hk]
    rw [e.2.2.1] at c1 c2
    rw [e.1, e.2.1, e.2.2.1, e.2.2.2]
    exact do9_has g s a inp w hg hS hG hs hl hh 8 hk (by omega) _ _ _ _ _ _ c1 c2 (fun w0 w1 N mb vb ib hb h => skip_any h a inp)
  · have e : nxV g.F s a inp = s.vs ∧ nxI s a inp = s.is ∧ nxC g.F s a inp = s.cs ∧ nxE s a inp = evA 0 0 0 := by simp [nxV, nxI, nxC, nxE, hk]
    rw [e.2.2.1] at c1 c2
    rw [e.1, e.2.1, e.2.2.1, e.2.2.2]
    exact do9_has g s a inp w hg hS hG hs hl hh 9 hk (by omega) _ _ _ _ _ _ c1 c2 (fun w0 w1 N mb vb ib hb h => skip_any h a inp)
  · simp [hk] at hin
    obtain ⟨x, hx, hxl⟩ := nat_of (n := s.is.length) (px (by omega)) (by omega)
    have e : nxV g.F s a inp = s.vs ∧ nxI s a inp = s.is.set x inp ∧ nxC g.F s a inp = s.cs ∧ nxE s a inp = evA 0 0 0 := by simp [nxV, nxI, nxC, nxE, hk, hx, withL_set hxl]
    rw [e.2.2.1] at c1 c2
    rw [e.1, e.2.1, e.2.2.1, e.2.2.2]
    exact do9_has g s a inp w hg hS hG hs hl hh 10 hk (by omega) _ _ _ _ _ _ c1 c2 (fun w0 w1 N mb vb ib hb h => take_any h a inp x hx hxl)
  · simp [hk] at hin
    obtain ⟨x, hx, hxl⟩ := nat_of (n := s.is.length) (px (by omega)) (by omega)
    have e : nxV g.F s a inp = s.vs ∧ nxI s a inp = putI s.is x a ∧ nxC g.F s a inp = s.cs ∧ nxE s a inp = evA 0 0 0 := by
      refine ⟨by simp [nxV, hk], ?_, by simp [nxC, hk], by simp [nxE, hk]⟩
      rcases hop hk with ho | ho | ho <;> simp [nxI, nxN, putI, hk, ho, hx, withL_set hxl]
    rw [e.2.2.1] at c1 c2
    rw [e.1, e.2.1, e.2.2.1, e.2.2.2]
    exact do9_has g s a inp w hg hS hG hs hl hh 11 hk (by omega) _ _ _ _ _ _ c1 c2 (fun w0 w1 N mb vb ib hb h => put65_any h a inp x hx hxl)
  · have e : nxV g.F s a inp = s.vs ∧ nxI s a inp = s.is ∧ nxC g.F s a inp = s.cs ∧ nxE s a inp = evA 0 0 0 := by simp [nxV, nxI, nxC, nxE, hk]
    rw [e.2.2.1] at c1 c2
    rw [e.1, e.2.1, e.2.2.1, e.2.2.2]
    exact do9_has g s a inp w hg hS hG hs hl hh 12 hk (by omega) _ _ _ _ _ _ c1 c2 (fun w0 w1 N mb vb ib hb h => skip_any h a inp)
end Go.Proofs.YtebmhadpkncgfaaDoor
namespace Go.Proofs.YtebmhadpkncgfaaDoor
open Go.RowKit Go.Maps Go.Sort
open Aw.Ac (Acn Opd)
theorem Below.set1 {w w' : World} (h : RowKit.Below w.heap.size w w') {b i : Nat} {v : Value} (hb : w.heap.size ≤ b) : RowKit.Below w.heap.size w (w'.setCell ⟨b, i, none⟩ v) := h.setCell (p := ⟨b, i, none⟩) hb v
/-- Do, as its caller sees it: the state's parts and the event written out. -/
def DoL (w : World) (pt : Int) (vs is : List Int) (cs : List PC) (e0 e1 e2 : Int) (e : Ending) (w' : World) : Prop :=
  ∃ t : SV, e = .returned (.tuple #[.agg #[.int .i64 t.pt, .slice t.vp t.vs.length t.vc, .slice t.ip t.is.length t.ic, .slice t.cp t.rs.length t.cc], .agg #[.int .i64 e0, .int .i64 e1, .int .i64 e2]]) ∧ Hid (t.pt = pt ∧ t.vs = vs ∧ t.is = is ∧ t.cs = cs) ∧ Hid (Lv w w' t) ∧ Hid (RowKit.Below w.heap.size w w')
theorem DoQ.l {w : World} {pt : Int} {vs is : List Int} {cs : List PC} {e0 e1 e2 : Int} {e : Ending} {w' : World} (h : DoQ w pt vs is cs (evA e0 e1 e2) e w') : DoL w pt vs is cs e0 e1 e2 e w' := by
  obtain ⟨t, h1, h2, h3, h4⟩ := h
  exact ⟨t, h1, hdn h2, hdn h3, hdn h4⟩
abbrev evZ : Array Value := #[.int .i64 0, .int .i64 0, .int .i64 0]
abbrev stZ : Array Value := #[.int .i64 0, .slice none 0 0, .slice none 0 0, .slice none 0 0]
theorem Bk.dr {w : World} {g : Nat} {t : TypeId} {cs : Array Value} (h : Bk w g t cs) : Bk w.drew g t cs := h
theorem Bk.via {wc w' : World} {b : Nat} {t : TypeId} {cs : Array Value} (hb : RowKit.Below wc.heap.size wc w') (h : Bk wc b t cs) : Bk w' b t cs := h.below hb h.lt
def Y3 (b : Nat) (w : World) : Prop := w.cell? ⟨b, 0, none⟩ = some (.int .i64 0) ∧ w.cell? ⟨b, 1, none⟩ = some (.int .i64 0) ∧ w.cell? ⟨b, 2, none⟩ = some (.int .i64 0) ∧ w.frozen? ⟨b, 0, none⟩ = false ∧ w.frozen? ⟨b, 1, none⟩ = false ∧ w.frozen? ⟨b, 2, none⟩ = false
theorem Y3.of {b : Nat} {w : World} (h : Bk w b 37 evZ) : Y3 b w := ⟨h.cell 0, h.cell 1, h.cell 2, h.frozen 0, h.frozen 1, h.frozen 2⟩
theorem Z4.of' {b : Nat} {w : World} (h : Bk w b 33 stZ) : Z4 b w := Z4.of h
theorem Z4.ofA {b : Nat} {w : World} (h : Bk w b 33 stZ) : (∀ o, (w.alloc o).cell? ⟨b, 0, none⟩ = some (.int .i64 0)) ∧ (∀ o, (w.alloc o).cell? ⟨b, 1, none⟩ = some (.slice none 0 0)) ∧ (∀ o, (w.alloc o).cell? ⟨b, 2, none⟩ = some (.slice none 0 0)) ∧ (∀ o, (w.alloc o).cell? ⟨b, 3, none⟩ = some (.slice none 0 0)) ∧ (∀ o, (w.alloc o).frozen? ⟨b, 0, none⟩ = false) ∧ (∀ o, (w.alloc o).frozen? ⟨b, 1, none⟩ = false) ∧ (∀ o, (w.alloc o).frozen? ⟨b, 2, none⟩ = false) ∧ (∀ o, (w.alloc o).frozen? ⟨b, 3, none⟩ = false) :=
  ⟨fun o => (h.al o).cell 0, fun o => (h.al o).cell 1, fun o => (h.al o).cell 2, fun o => (h.al o).cell 3, fun o => (h.al o).frozen 0, fun o => (h.al o).frozen 1, fun o => (h.al o).frozen 2, fun o => (h.al o).frozen 3⟩
theorem Y3.ofA {b : Nat} {w : World} (h : Bk w b 37 evZ) : (∀ o, (w.alloc o).cell? ⟨b, 0, none⟩ = some (.int .i64 0)) ∧ (∀ o, (w.alloc o).cell? ⟨b, 1, none⟩ = some (.int .i64 0)) ∧ (∀ o, (w.alloc o).cell? ⟨b, 2, none⟩ = some (.int .i64 0)) ∧ (∀ o, (w.alloc o).frozen? ⟨b, 0, none⟩ = false) ∧ (∀ o, (w.alloc o).frozen? ⟨b, 1, none⟩ = false) ∧ (∀ o, (w.alloc o).frozen? ⟨b, 2, none⟩ = false) :=
  ⟨fun o => (h.al o).cell 0, fun o => (h.al o).cell 1, fun o => (h.al o).cell 2, fun o => (h.al o).frozen 0, fun o => (h.al o).frozen 1, fun o => (h.al o).frozen 2⟩
theorem Bk.ne3337 {a b : Nat} {w : World} {x y : Array Value} (h : Bk w a 33 x) (h' : Bk w b 37 y) : a ≠ b := by
  intro e; subst e
  have h1 : w.heap[a]? = some (.cells x 33 (0, 0)) := h
  have h2 : w.heap[a]? = some (.cells y 37 (0, 0)) := h'
  rw [h1] at h2
  injection h2 with h2
  injection h2 with _ h3
  exact absurd h3 (by decide)
theorem Gr.set1 {w w' : World} {S : Nat → Prop} {b i : Nat} {v : Value} (h : Gr w w' S) (hb : S b) : Gr w (w'.setCell ⟨b, i, none⟩ v) S := h.setCell (p := ⟨b, i, none⟩) (fun _ => hb) v
theorem Bk.s4o {w : World} {C b : Nat} {t : TypeId} {cs : Array Value} {x y z u : Value} (h : Bk w b t cs) (hne : b ≠ C) : Bk ((((w.setCell ⟨C, 0, none⟩ x).setCell ⟨C, 1, none⟩ y).setCell ⟨C, 2, none⟩ z).setCell ⟨C, 3, none⟩ u) b t cs := (Gr.s4' (S := fun k => k = C) (Gr.refl w _) rfl x y z u).bk h hne
theorem Bk.s3o {w : World} {C b : Nat} {t : TypeId} {cs : Array Value} {x y z : Value} (h : Bk w b t cs) (hne : b ≠ C) : Bk (((w.setCell ⟨C, 0, none⟩ x).setCell ⟨C, 1, none⟩ y).setCell ⟨C, 2, none⟩ z) b t cs := (Gr.s3 (S := fun k => k = C) (Gr.refl w _) rfl x y z).bk h hne
theorem Bk.s4 {w : World} {C : Nat} {x y z u : Value} (h : Bk w C 33 stZ) : Bk ((((w.setCell ⟨C, 0, none⟩ x).setCell ⟨C, 1, none⟩ y).setCell ⟨C, 2, none⟩ z).setCell ⟨C, 3, none⟩ u) C 33 #[x, y, z, u] := set4 h x y z u
theorem Bk.s3e {w : World} {C : Nat} {x y z : Value} (h : Bk w C 37 evZ) : Bk (((w.setCell ⟨C, 0, none⟩ x).setCell ⟨C, 1, none⟩ y).setCell ⟨C, 2, none⟩ z) C 37 #[x, y, z] := bk3 h x y z
theorem nxE_evA (s : SV) (a : Acn) (inp : Int) : ∃ e0 e1 e2, nxE s a inp = evA e0 e1 e2 := by
  unfold nxE
  split
  · exact ⟨_, _, _, evE_evA _ _⟩
  split
  · exact ⟨_, _, _, evE_evA _ _⟩
  split
  · exact ⟨_, _, _, rfl⟩
  split
  · exact ⟨_, _, _, frEv_evA _ _ _⟩
  · exact ⟨_, _, _, rfl⟩
/-- Both sides' Do, of any action, at a right state: one and the same state then, which is right. -/
theorem do_both (g : GR) (s : SV) (a : Acn) (inp : Int) (w : World) (hg : Gok g) (hS : 0 ≤ g.S) (hG : Aw.Gl w) (hs : Rt g s) (hl : s.lies w) (hn : s.rs.length < 2000000) (hi : okI inp) (hol : okI a.l.n) :
    ∃ (vs is : List Int) (cs : List PC) (e0 e1 e2 : Int), (∀ wz, RowKit.Below w.heap.size w wz → Calls Tryd.prog 8 #[.agg g.cs, .agg s.A, .agg a.cs, .int .i64 inp] wz (DoL wz s.pt vs is cs e0 e1 e2)) ∧ (∀ wz, RowKit.Below w.heap.size w wz → Calls Tryd.prog 9 #[.agg g.cs, .agg s.A, .agg a.cs, .int .i64 inp] wz (DoL wz s.pt vs is cs e0 e1 e2)) ∧
      ∀ t : SV, t.pt = s.pt ∧ t.vs = vs ∧ t.is = is ∧ t.cs = cs → Rt g t ∧ t.rs.length ≤ s.rs.length + 1 := by
  cases hh : hasB g a with
  | true =>
    obtain ⟨e0, e1, e2, he⟩ := nxE_evA s a inp
    refine ⟨_, _, _, e0, e1, e2, fun wz hz => (do8_any g s a inp wz hg hs (hl.below hz) hh).mono fun e w' h => ?_, fun wz hz => (do9_any g s a inp wz hg hS (hG.below hz hG.big) hs (hl.below hz) hh hn hi hol).mono fun e w' h => ?_, fun t ht => hs.made hh hn hi hol ht.1 ht.2.1 ht.2.2.1 ht.2.2.2⟩
    · rw [he] at h; exact h.l
    · rw [he] at h; exact h.l
  | false =>
    refine ⟨s.vs, s.is, s.cs, 0, 0, 0, fun wz hz => (do8_none g s a inp wz hg hs (hl.below hz) hh).mono fun e w' h => h.q.l, fun wz hz => (do9_none g s a inp wz hg hS (hG.below hz hG.big) hs (hl.below hz) hh).mono fun e w' h => h.q.l, fun t ht => ?_⟩
    obtain ⟨h1, h2, h3, h4⟩ := ht
    have hlen : t.rs.length = s.rs.length := by rw [← t.csl, ← s.csl, h4]
    refine ⟨⟨by rw [h1]; exact hs.pt, by rw [h2]; exact hs.vl, by rw [h3]; exact hs.il, by rw [h2, hlen]; exact hs.vs, fun r hr => ?_, fun r hr => ?_, by rw [h3]; exact hs.iok, by rw [hlen]; exact hs.n⟩, by omega⟩
    · have : r.c ∈ t.cs := List.mem_map.2 ⟨r, hr, rfl⟩
      rw [h4] at this; exact (hs.csok _ this).1
    · have : r.c ∈ t.cs := List.mem_map.2 ⟨r, hr, rfl⟩
      rw [h4] at this
      have h5 := (hs.csok _ this).2
      rwa [s.csl, ← hlen] at h5
end Go.Proofs.YtebmhadpkncgfaaDoor
namespace Go.Proofs.YtebmhadpkncgfaaDoor
open Go.RowKit Go.Maps Go.Sort
open Aw.Ac (Acn Opd)
theorem Gr.set1n {w w' : World} {S : Nat → Prop} {b i : Nat} {v : Value} (h : Gr w w' S) (hb : w.heap.size ≤ b) : Gr w (w'.setCell ⟨b, i, none⟩ v) S := h.setCell (p := ⟨b, i, none⟩) (fun h => absurd h (Nat.not_lt.2 hb)) v
/-- An action and its input, as they lie. -/
structure OpR where
  a : Acn
  i : Int
def OpR.cells (x : OpR) : List Value := [.int .i64 x.a.kind, .int .i64 x.a.x, .int .i64 x.a.y, .int .i64 x.a.f, .int .i64 x.a.t, .int .i64 x.a.pl, .int .i64 x.a.op, .int .i64 x.a.l.v, .int .i64 x.a.l.n, .int .i64 x.a.r.v, .int .i64 x.a.r.n, .bool x.a.sense, .int .i64 x.i]
def OpR.lies (_ : World) (x : OpR) : Prop := okI x.i ∧ okI x.a.l.n
/-- A right state that is new: no cells, all null. -/
def begS (g : GR) (vp ip : Option Addr) : SV := ⟨g.st, vp, zeros g.V, g.V, ip, zeros g.I, g.I, none, [], 0⟩
theorem begS_A (g : GR) (vp ip : Option Addr) : (begS g vp ip).A = stA g.st vp g.V g.V ip g.I g.I none 0 0 := by simp [begS, SV.A, stA, zeros]
theorem zeros_mem {n : Nat} {v : Int} (h : v ∈ zeros n) : v = 0 := by unfold zeros at h; exact (List.mem_replicate.1 h).2
theorem begS_rt {g : GR} {vp ip : Option Addr} (hp : 0 ≤ g.st ∧ g.st < g.pts) : Rt g (begS g vp ip) :=
  ⟨hp, by simp [begS, zeros], by simp [begS, zeros], fun v hv => by have := zeros_mem (n := g.V) hv; subst this; simp [begS], fun r hr => by simp [begS] at hr, fun r hr => by simp [begS] at hr, fun x hx => by have := zeros_mem (n := g.I) hx; subst this; exact okI_small (by omega), by simp [begS]⟩
theorem begS_lies {g : GR} {w : World} {vp ip : Option Addr} (h1 : IR w vp (zeros g.V)) (h2 : IR w ip (zeros g.I)) : (begS g vp ip).lies w := ⟨h1, h2, .inl rfl⟩
/-- A play under way. -/
structure PlI (w wr : World) (g : GR) (G Sb : Nat) (s : SV) (k : Nat) : Prop where
  gr : Bk wr G 30 g.cs
  st : Bk wr Sb 33 s.A
  lies : s.lies wr
  rt : Rt g s
  few : s.rs.length ≤ k
  low : RowKit.Below w.heap.size w wr
  far : w.heap.size ≤ G ∧ w.heap.size ≤ Sb ∧ G ≠ Sb
theorem PlI.below {w wr w' : World} {g : GR} {G Sb : Nat} {s : SV} {k : Nat} (h : PlI w wr g G Sb s k) (hb : RowKit.Below wr.heap.size wr w') : PlI w w' g G Sb s k :=
  ⟨h.gr.below hb h.gr.lt, h.st.below hb h.st.lt, h.lies.below hb, h.rt, h.few, h.low.trans (hb.mono h.low.size), h.far⟩
theorem PlI.facts {w wr : World} {g : GR} {G Sb : Nat} {s : SV} {k : Nat} (h : PlI w wr g G Sb s k) : G10 g G wr ∧ Z33 s Sb wr := ⟨G10.of h.gr, Z33.of h.st⟩
end Go.Proofs.YtebmhadpkncgfaaDoor
