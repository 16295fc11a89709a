/-
  still: the walk. The program's Do: the moment's beginning. Which deed a kind of actions is. The program's Do: the moment's beginning, plain. The document's Do: a field is cut or linked. The document's Do: a cell is freed.
-/
import Derived.Test.YtebmhadpkncgfaaDoorM09
import Derived.Test.YtebmhadpkncgfaaDoorM05
set_option maxHeartbeats 40000000
set_option maxRecDepth 100000
namespace Go.Proofs.YtebmhadpkncgfaaDoor
open Go.RowKit Go.Maps Go.Sort
open Aw.Ac (Acn Opd)
theorem Gr.setB {w w' : World} {B : Nat} (h : Gr w w' (fun i => i = B)) (i : Nat) (v : Value) : Gr w (w'.setCell ⟨B, i, none⟩ v) (fun i => i = B) := h.setCell (p := ⟨B, i, none⟩) (fun _ => rfl) v
theorem still_any (F : Nat) (s : SV) (w : World) (hl : s.lies w) (hv : s.vs.length ≤ 2000000) (hi : s.is.length ≤ 2000000) (hn : s.rs.length ≤ 2000000) (hlen : ∀ r ∈ s.rs, r.c.to.length = F) (hF : F ≤ 2000000) : Calls Tryd.prog 34 #[.agg s.A] w (OwnSP w s) := by
  obtain ⟨w2, hw2⟩ : ∃ w2, (w.alloc (.cells s.A 33)).alloc (.cells (stA 0 none 0 0 none 0 0 none 0 0) 33) = w2 := ⟨_, rfl⟩
  have HW : Hid ((w.alloc (.cells s.A 33)).alloc (.cells #[.int .i64 0, .slice none 0 0, .slice none 0 0, .slice none 0 0] 33) = w2) := hdn hw2
  have HS : Hid (OwS w w2 s) := hdn (by rw [← hw2]; exact OwS.start w s)
  have HL : Hid (s.lies w2) := hdn (hl.below HS.out.low)
  have HL0 := hdn hl
  have HLEN := hdn hlen
  have hmk := make23 s.rs.length w2 hn
  have HI0 := hdn (StI.start HS.out)
  have HOV := hdn (fun wz (hz : RowKit.Below w2.heap.size w2 wz) => own35_any s.vp s.vs s.vc wz (HL.out.v.below hz) hv)
  have HOI := hdn (fun wz (hz : RowKit.Below w2.heap.size w2 wz) => own35_any s.ip s.is s.ic wz (HL.out.i.below hz) hi)
  have HB0 := hdn (alloc_below w2 (.cells (Zc s.rs.length) 85))
  have p3 : w2.cell? ⟨w.heap.size, 3, none⟩ = some (.slice s.cp s.rs.length s.cc) := HS.out.box.cell 3
  have q3 : (w2.alloc (.cells (Zc s.rs.length) 85)).cell? ⟨w.heap.size, 3, none⟩ = some (.slice s.cp s.rs.length s.cc) := at_below HB0.out p3
  have hn0 : (0 : Int) ≤ (s.rs.length : Int) := Int.natCast_nonneg _
  clear hw2 hl hlen
  go_enter Tryd.func34, Tryd.ntmps34
  go_upto_region 1 with fail
  rw [HW.out]
  go_upto_region 3 with fail
  clear p3 q3 hmk
  go_loopw [13] (fun i wr => ∃ k : Nat, i = .int .i64 k ∧ k ≤ s.rs.length ∧ Hid (StI w s w2.heap.size wr k) ∧ Hid (RowKit.Below w2.heap.size w2 wr)) (fun i _ => s.rs.length - (intOf i).toNat)
  case atStart => exact ⟨0, rfl, Nat.zero_le _, HI0, HB0⟩
  case round =>
    obtain ⟨k, rfl, hk, HI, HB⟩ := hrel
    by_cases hkl : k < s.rs.length
    · obtain ⟨x, hx⟩ : ∃ x, s.rs[k]? = some x := ⟨_, List.getElem?_eq_getElem hkl⟩
      have hxm := List.mem_of_getElem? hx
      have hxl : x.c.to.length = F := HLEN.out x hxm
      obtain ⟨b, o, hp, hit, hrl⟩ := (HL.out.c.below HB.out (fun x h => RC.lies_below' h HB.out)).at_ hx
      have d0 : wr.cell? ⟨b, o + k * 3, none⟩ = some (.int .i64 x.c.ty) := hit 0 _ rfl
      have d1 : wr.cell? ⟨b, o + k * 3 + 1, none⟩ = some (.bool x.c.fr) := hit 1 _ rfl
      have d2 : wr.cell? ⟨b, o + k * 3 + 2, none⟩ = some (.slice x.q x.c.to.length x.k) := hit 2 _ rfl
      have hIRx : IR wr x.q x.c.to := hrl.1
      have hk0 : (0 : Int) ≤ (k : Int) := Int.natCast_nonneg _
      have hk1 : (k : Int) < (s.rs.length : Int) := by omega
      have hBB := HI.out.blk
      rw [hxl] at d2
      obtain ⟨wA, hwA⟩ : ∃ wA, wr.alloc (.cells #[.int .i64 x.c.ty, .bool x.c.fr, .slice x.q F x.k] 85) = wA := ⟨_, rfl⟩
      have hKB : Bk wA wr.heap.size 85 #[.int .i64 x.c.ty, .bool x.c.fr, .slice x.q F x.k] := by rw [← hwA]; exact (MapKept.heap_alloc wr _).1
      have hbA : RowKit.Below wr.heap.size wr wA := by rw [← hwA]; exact alloc_below wr _
      have HWA := hdn hwA
      have HBA := hdn hbA
      have HIA := hdn (HI.out.far' hbA)
      have HBd : Hid (RowKit.Below wA.heap.size wA wA.drew) := hdn (below_drew (Below.refl _ _))
      have HIRx := hdn (fun wz (hz : RowKit.Below wA.heap.size wA wz) => own35_any x.q x.c.to x.k wz ((hIRx.below hbA).below hz) (by rw [hxl]; exact hF))
      rw [hxl] at HIRx
      obtain ⟨⟨u0, hu0⟩, _⟩ := HIA.out.cell (k * 3) (by omega)
      obtain ⟨⟨u1, hu1⟩, _⟩ := HIA.out.cell (k * 3 + 1) (by omega)
      obtain ⟨⟨u2, hu2⟩, _⟩ := HIA.out.cell (k * 3 + 2) (by omega)
      have HS : Hid (∀ w', Gr wA w' (fun i => i = w2.heap.size) → w'.cell? ⟨wr.heap.size, 0, none⟩ = some (.int .i64 x.c.ty) ∧ w'.cell? ⟨wr.heap.size, 1, none⟩ = some (.bool x.c.fr) ∧ w'.cell? ⟨wr.heap.size, 2, none⟩ = some (.slice x.q F x.k)) := hdn (fun w' hb => by
        have h1 := hb.bk hKB (by omega)
        exact ⟨h1.cell 0, h1.cell 1, h1.cell 2⟩)
      have HT : Hid (∀ w', RowKit.Below wA.heap.size wA w' → w'.cell? ⟨w2.heap.size, k * 3, none⟩ = some u0 ∧ w'.frozen? ⟨w2.heap.size, k * 3, none⟩ = false ∧ w'.cell? ⟨w2.heap.size, k * 3 + 1, none⟩ = some u1 ∧ w'.frozen? ⟨w2.heap.size, k * 3 + 1, none⟩ = false ∧ w'.cell? ⟨w2.heap.size, k * 3 + 2, none⟩ = some u2 ∧ w'.frozen? ⟨w2.heap.size, k * 3 + 2, none⟩ = false) := hdn (fun w' hb => by
        have h2 := HIA.out.far' hb
        exact ⟨at_below hb hu0, (h2.cell (k * 3) (by omega)).2, at_below hb hu1, (h2.cell (k * 3 + 1) (by omega)).2, at_below hb hu2, (h2.cell (k * 3 + 2) (by omega)).2⟩)
      have hlo := HI.out.blk
      have HXX := hdn hx
      have K0 : Gr wA wA (fun i => i = w2.heap.size) := Gr.refl _ _
      have K1 : Gr wA wA.drew (fun i => i = w2.heap.size) := K0.drew
      rw [hp]
      clear hp hit hrl hx hIRx hwA hKB hbA hu0 hu1 hu2
      go_upto_region 5 with fail
      rw [HWA.out]
      clear d0 d1 d2
      have hxl' := hdn hxl
      clear hxl
      go_region_held3 (fun w' => w'.cell? ⟨wr.heap.size, 0, none⟩ = some (.int .i64 x.c.ty) ∧ w'.cell? ⟨wr.heap.size, 1, none⟩ = some (.bool x.c.fr) ∧ w'.cell? ⟨wr.heap.size, 2, none⟩ = some (.slice x.q F x.k))
        (first | with_reducible exact HS.out _ K1 | with_reducible exact HS.out _ K0 | with_reducible exact HS.out _ K3 | with_reducible exact HS.out _ (((K3.setB _ _).setB _ _).setB _ _) | fail) (first
        | (go_at_call 36; refine (HIRx.out _ HBd.out).mono ?_; rintro e w3 ⟨rfl, hk3, hb3⟩; have HK3 := hdn hk3; have HB3 := hdn (HBd.out.trans (hb3.mono HBd.out.size)); have K3 : Gr wA w3 (fun i => i = w2.heap.size) := Gr.of_below HB3.out; obtain ⟨e0, f0, e1, f1, e2, f2⟩ := HT.out w3 HB3.out; clear hk3 hb3)
        | fail)
      clear e0 f0 e1 f1 e2 f2
      have HI3 := hdn (HIA.out.far' HB3.out)
      have HP := hdn (HI3.out.put HXX.out (q := wA.heap.size) HIA.out.blk HK3.out)
      have HBW := hdn ((HB.out.trans (HBA.out.mono HB.out.size)).trans (HB3.out.mono (by have := HB.out.size; have := HBA.out.size; omega)))
      have hgo := (((Gr.refl w3 (fun i => i = w2.heap.size)).setB (k * 3) (.int .i64 x.c.ty)).setB (k * 3 + 1) (.bool x.c.fr)).setB (k * 3 + 2) (.slice (some ⟨wA.heap.size, 0, none⟩) x.c.to.length x.c.to.length)
      have HBZ := hdn (HBW.out.trans (hgo.below HBW.out.size (fun k h => by subst h; exact Nat.le_refl _)))
      clear hgo
      go_wp2_with fail
      go_roundw
      case rel => exact ⟨k + 1, by go_num, by omega, HP, HBZ⟩
      case measure => simp [intOf]; omega
    · have hke : k = s.rs.length := by omega
      have HE : Hid (StI w s w2.heap.size wr s.rs.length) := hdn (by rw [← hke]; exact HI.out)
      clear hke
      have b1 : wr.cell? ⟨w.heap.size, 0, none⟩ = some (.int .i64 s.pt) := HE.out.os.box.cell 0
      have HS : Hid (∀ w', Gr wr w' (fun i => i = w.heap.size + 1) → w'.cell? ⟨w.heap.size, 0, none⟩ = some (.int .i64 s.pt) ∧ w'.cell? ⟨w.heap.size, 1, none⟩ = some (.slice s.vp s.vs.length s.vc) ∧ w'.cell? ⟨w.heap.size, 2, none⟩ = some (.slice s.ip s.is.length s.ic)) := hdn (fun w' hb => by
        have h1 := hb.bk HE.out.os.box (by omega)
        exact ⟨h1.cell 0, h1.cell 1, h1.cell 2⟩)
      have hRES := HE.out.os.res
      have HRES := hdn hRES
      have hdz : RowKit.Below wr.heap.size wr wr.drew := below_drew (Below.refl _ _)
      have HD := hdn hdz
      have HDW := hdn (HB.out.trans (hdz.mono HB.out.size))
      have K0 : Gr wr wr (fun i => i = w.heap.size + 1) := Gr.refl _ _
      have K1 : Gr wr wr.drew (fun i => i = w.heap.size + 1) := K0.drew
      have hNB := HE.out.os.sz
      clear b1 hRES hdz
      go_wp2_with fail
      go_region_held3 (fun w' => w'.cell? ⟨w.heap.size, 0, none⟩ = some (.int .i64 s.pt) ∧ w'.cell? ⟨w.heap.size, 1, none⟩ = some (.slice s.vp s.vs.length s.vc) ∧ w'.cell? ⟨w.heap.size, 2, none⟩ = some (.slice s.ip s.is.length s.ic))
        (first | with_reducible exact HS.out _ K1 | with_reducible exact HS.out _ K0 | with_reducible exact HS.out _ K4 | with_reducible exact HS.out _ K3 | with_reducible exact HS.out _ ((((K4.setB _ _).setB _ _).setB _ _).setB _ _) | fail) (first
        | (go_at_call 36; refine (HOI.out w3 HB3.out).mono ?_; rintro e w4 ⟨rfl, hk4, hb4⟩; have HK4 := hdn hk4; have HR4 := hdn (HR3.out.trans (hb4.mono HR3.out.size)); have K4 : Gr wr w4 (fun i => i = w.heap.size + 1) := Gr.of_below HR4.out; have hr4 : Bk w4 (w.heap.size + 1) 33 (stA 0 none 0 0 none 0 0 none 0 0) := HRES.out.below HR4.out HRES.out.lt; have HV4 := hdn (HK3.out.below hb4 HK3.out.lt); have HZ4 := hdn hr4; obtain ⟨d0, d1, d2, d3, f0, f1, f2, f3⟩ := Z4.of hr4; clear hk4 hb4 hr4)
        | (go_at_call 36; refine (HOV.out _ HDW.out).mono ?_; rintro e w3 ⟨rfl, hk3, hb3⟩; have HK3 := hdn hk3; have HR3 := hdn (HD.out.trans (hb3.mono HD.out.size)); have HB3 := hdn (HDW.out.trans (hb3.mono HDW.out.size)); have K3 : Gr wr w3 (fun i => i = w.heap.size + 1) := Gr.of_below HR3.out; clear hk3 hb3)
        | fail)
      go_wp2_with fail
      have hgg := ((((Gr.refl w4 (fun i => i = w.heap.size + 1)).setB 0 (.int .i64 s.pt)).setB 1 (.slice (some ⟨wr.heap.size, 0, none⟩) s.vs.length s.vs.length)).setB 2 (.slice (some ⟨w3.heap.size, 0, none⟩) s.is.length s.is.length)).setB 3 (.slice (some ⟨w2.heap.size, 0, none⟩) s.rs.length s.rs.length)
      refine bodyPost_ret (results_cell_row Tryd.results34 _ _ (w.heap.size + 1) 33 _ (0, 0) _ rfl (set4 HZ4.out (.int .i64 s.pt) (.slice (some ⟨wr.heap.size, 0, none⟩) s.vs.length s.vs.length) (.slice (some ⟨w3.heap.size, 0, none⟩) s.is.length s.is.length) (.slice (some ⟨w2.heap.size, 0, none⟩) s.rs.length s.rs.length)) Tryd.underlying33 rfl size33) rfl ?_
      refine HE.out.far' HR4.out |>.end_ HL0.out hgg (hgg.bk HV4.out ?_) (hgg.bk HK4.out ?_) ?_ ?_
      · show wr.heap.size ≠ _; omega
      · have := HR3.out.size; omega
      · show _ ≤ wr.heap.size; omega
      · have := HR3.out.size; omega
end Go.Proofs.YtebmhadpkncgfaaDoor
namespace Go.Proofs.YtebmhadpkncgfaaDoor
open Go.RowKit Go.Maps Go.Sort
open Aw.Ac (Acn Opd)
theorem do9_none (g : GR) (s : SV) (a : Acn) (inp : Int) (w : World) (hg : Gok g) (hS : 0 ≤ g.S) (hG : Aw.Gl w) (hs : Rt g s) (hl : s.lies w) (hh : hasB g a = false) : Calls Tryd.prog 9 #[.agg g.cs, .agg s.A, .agg a.cs, .int .i64 inp] w (DoP w s (evA 0 0 0)) := by
  obtain ⟨w5, hw5⟩ : ∃ w5, ((((w.alloc (.cells g.cs 30)).alloc (.cells s.A 33)).alloc (.cells a.cs 43)).alloc (.cells (stA 0 none 0 0 none 0 0 none 0 0) 33)).alloc (.cells (evA 0 0 0) 37) = w5 := ⟨_, rfl⟩
  have HW : Hid (((((w.alloc (.cells g.cs 30)).alloc (.cells s.A 33)).alloc (.cells a.cs 43)).alloc (.cells #[.int .i64 0, .slice none 0 0, .slice none 0 0, .slice none 0 0] 33)).alloc (.cells #[.int .i64 0, .int .i64 0, .int .i64 0] 37) = w5) := hdn hw5
  have HD : Hid (D5 w w5 g s a) := hdn (by rw [← hw5]; exact D5.start w g s a)
  have HG5 := hdn HD.out.gr
  have HA5 := hdn HD.out.ac
  have HL : Hid (s.lies w5) := hdn (hl.below HD.out.low)
  have HC := hdn (fun wz (hz : RowKit.Below w5.heap.size w5 wz) => still_any g.F s wz (HL.out.below hz) (by have := hs.vl; have := hg.V; omega) (by have := hs.il; have := hg.I; omega) hs.n hs.lens hg.F)
  have HHA := hdn (has34_any g a w5 hS (hG.below HD.out.low hG.big))
  rw [hh] at HHA
  clear hw5 hl hs hg hh hG
  go_enter Tryd.func9, Tryd.ntmps9
  go_upto_region 1 with fail
  rw [HW.out]
  clear HW
  go_upto_region 2 with (first
    | ((with_reducible show wpList _ _ _ (Oper.mk (some 14) (Op.load 30 _) _ _ _ _ :: _) _ _); refine wpList_load_bk rfl 30 _ rfl w.heap.size 30 g.cs rfl _ HG5.out Tryd.underlying30 rfl size30 ?_)
    | ((with_reducible show wpList _ _ _ (Oper.mk (some 15) (Op.load 43 _) _ _ _ _ :: _) _ _); refine wpList_load_bk rfl 43 _ rfl (w.heap.size + 1 + 1) 43 a.cs rfl _ HA5.out Tryd.underlying43 rfl size43 ?_)
    | (go_at_call 33; refine HHA.out.mono ?_; rintro e w6 ⟨rfl, hb6⟩; have HB6 := hdn hb6; have HD6 := hdn (HD.out.far hb6); have HS6 := hdn HD6.out.st; clear hb6))
  go_wp2_with (first
    | ((with_reducible show wpList _ _ _ (Oper.mk (some 18) (Op.load 33 _) _ _ _ _ :: _) _ _); refine wpList_load_bk rfl 33 _ rfl (w.heap.size + 1) 33 s.A rfl _ HS6.out Tryd.underlying33 rfl size33 ?_)
    | (go_at_call 34; refine (HC.out w6 HB6.out).mono ?_; rintro e w7 ⟨t, rfl, ht7, hv7, hb7⟩; have HT := hdn ht7; have HV := hdn hv7; have HD7 := hdn (HD6.out.far hb7); have HR1 := hdn HD7.out.r1; have HR2 := hdn HD7.out.r2; clear ht7 hv7 hb7)
    | ((with_reducible show wpList _ _ _ (Oper.mk none (Op.store 33 _ _) _ _ _ _ :: _) _ _); refine wpList_store_all rfl 33 _ _ rfl (w.heap.size + 1 + 1 + 1) 33 _ t.A rfl rfl HR1.out size33 rfl (SV.A_one t) ?_; intro w10 h10 g10; have HR3 := hdn ((Gr.of_grown g10.out).bk HR2.out (by intro h; injection h; omega)))
    | ((with_reducible show wpList _ _ _ (Oper.mk none (Op.store 37 _ _) _ _ _ _ :: _) _ _); refine wpList_store_all rfl 37 _ _ rfl (w.heap.size + 1 + 1 + 1 + 1) 37 _ (evA 0 0 0) rfl rfl HR3.out size37 rfl (evA_one _ _ _) ?_; intro w11 h11 g11))
  have q1 : Bk w11 (w.heap.size + 1 + 1 + 1) 33 t.A := (Gr.of_grown g11.out).bk h10.out (by intro h; injection h; omega)
  exact bodyPost_ret (results_two Tryd.results9 rfl rfl rfl rfl q1 h11.out) rfl (D5.finF HD6.out.sz HD7.out HT.out HV.out g10.out g11.out)
end Go.Proofs.YtebmhadpkncgfaaDoor
namespace Go.Proofs.YtebmhadpkncgfaaDoor
open Go.RowKit Go.Maps Go.Sort
open Aw.Ac (Acn Opd)
def dfn : List Nat := [57, 58, 59, 60, 61, 62, 63, 64, 57, 57, 65, 66, 57]
def DeedP (w : World) (f : Nat) (e : Ending) (w' : World) : Prop := e = .returned (.func (.func f) #[] #[]) ∧ RowKit.Below w.heap.size w w'
abbrev deedA : Array Value := #[.func (.func 57) #[] #[], .func (.func 58) #[] #[], .func (.func 59) #[] #[], .func (.func 60) #[] #[], .func (.func 61) #[] #[], .func (.func 62) #[] #[], .func (.func 63) #[] #[], .func (.func 64) #[] #[], .func (.func 57) #[] #[], .func (.func 57) #[] #[], .func (.func 65) #[] #[], .func (.func 66) #[] #[], .func (.func 57) #[] #[]]
theorem size98 : (Tryd.prog.info? 98).map (·.size) = some 13 := by kernel_rfl
theorem deed_any (k : Nat) (hk : k < 13) (w : World) : Calls Tryd.prog 37 #[.int .i64 k] w (DeedP w (dfn.getD k 0)) := by
  have HB := hdn (alloc_below w (.cells (#[.nilFunc, .nilFunc, .nilFunc, .nilFunc, .nilFunc, .nilFunc, .nilFunc, .nilFunc, .nilFunc, .nilFunc, .nilFunc, .nilFunc, .nilFunc] : Array Value) 98))
  have HZ : Hid (Bk (w.alloc (.cells (#[.nilFunc, .nilFunc, .nilFunc, .nilFunc, .nilFunc, .nilFunc, .nilFunc, .nilFunc, .nilFunc, .nilFunc, .nilFunc, .nilFunc, .nilFunc] : Array Value) 98)) w.heap.size 98 #[.nilFunc, .nilFunc, .nilFunc, .nilFunc, .nilFunc, .nilFunc, .nilFunc, .nilFunc, .nilFunc, .nilFunc, .nilFunc, .nilFunc, .nilFunc]) := hdn (MapKept.heap_alloc w _).1
  have H1 : Hid (deedA.all (·.oneCell') = true) := hdn (by simp [Value.oneCell'])
  have HC : Hid (∀ w3 : World, Bk w3 w.heap.size 98 deedA → w3.cell? ⟨w.heap.size, k, none⟩ = some (.func (.func (dfn.getD k 0)) #[] #[])) := hdn (fun w3 h => by
    rw [h.cell]
    obtain rfl | rfl | rfl | rfl | rfl | rfl | rfl | rfl | rfl | rfl | rfl | rfl | rfl : k = 0 ∨ k = 1 ∨ k = 2 ∨ k = 3 ∨ k = 4 ∨ k = 5 ∨ k = 6 ∨ k = 7 ∨ k = 8 ∨ k = 9 ∨ k = 10 ∨ k = 11 ∨ k = 12 := by omega
    all_goals rfl)
  have hk0 : (0 : Int) ≤ (k : Int) := Int.natCast_nonneg _
  have hk1 : (k : Int) < 13 := by omega
  generalize dfn.getD k 0 = f at HC ⊢
  go_enter Tryd.func37, Tryd.ntmps37
  go_wp2_with ((with_reducible show wpList _ _ _ (Oper.mk none (Op.store 98 _ _) _ _ _ _ :: _) _ _); refine wpList_store_all rfl 98 _ _ rfl w.heap.size 98 _ deedA rfl rfl HZ.out size98 rfl H1.out ?_; intro w3 h3 g3; have HB3 := hdn ((HB.out.grown g3.out (by simp) (fun j hj => by injection hj with hj; omega))); have c3 := HC.out w3 h3.out)
  go_ret
  exact ⟨rfl, HB3.out⟩
end Go.Proofs.YtebmhadpkncgfaaDoor
namespace Go.Proofs.YtebmhadpkncgfaaDoor
open Go.RowKit Go.Maps Go.Sort
open Aw.Ac (Acn Opd)
abbrev moA (vb nv ib ni hb : Nat) : Array Value := #[.slice (some ⟨vb, 0, none⟩) nv nv, .slice (some ⟨ib, 0, none⟩) ni ni, .pointer (some ⟨hb, 0, none⟩)]
abbrev moZ : Array Value := #[.slice none 0 0, .slice none 0 0, .pointer none]
theorem HM.hmn {w0 w7 W : World} {F b : Nat} {cs : List PC} (h : HM w0 w7 b F cs) (hb : RowKit.Below w7.heap.size w7 W) : HMN w0 W b F cs (fun k => w7.heap.size ≤ k ∧ k < W.heap.size) := by
  obtain ⟨R, v, h1, h2, h3, h4⟩ := h
  have h0 : HMN w0 w7 b F cs (fun _ => False) := ⟨R, v, h1, fun k hk => ⟨h2 k hk, fun h => h⟩, h3, fun h => h, fun k h => h.elim, h4⟩
  exact (h0.ext hb).weak (fun k hk => .inr hk)
theorem Mo.start {w0 w7 W : World} {F b mb vb ib : Nat} {cs : List PC} {vs is : List Int} (h : HM w0 w7 b F cs) (hb : RowKit.Below w7.heap.size w7 W) (hm : Bk W mb 75 (moA vb vs.length ib is.length b)) (hv : Bk W vb 3 (ints vs).toArray) (hi : Bk W ib 3 (ints is).toArray)
    (h1 : w7.heap.size ≤ mb) (h2 : w7.heap.size ≤ vb) (h3 : w7.heap.size ≤ ib) (n1 : mb ≠ vb) (n2 : mb ≠ ib) (n3 : vb ≠ ib) : Mo ⟨w0, fun _ _ _ => False⟩ W F (fun k => w7.heap.size ≤ k ∧ k < W.heap.size) mb vb ib b vs is cs := by
  have hz := h.bl.size
  exact ⟨h.hmn hb, hm, hv, hi, ⟨h1, hm.lt⟩, ⟨h2, hv.lt⟩, ⟨h3, hi.lt⟩, n1, n2, n3, ⟨by show w0.heap.size ≤ _; omega, by show w0.heap.size ≤ _; omega, by show w0.heap.size ≤ _; omega⟩, fun _ _ _ h => h.elim⟩
/-- One more block is let be: a new one. -/
theorem Mo.plus {w0 w W : World} {F mb vb ib hb E : Nat} {T : TypeId} {c : Array Value} {N : Nat → Prop} {vs is : List Int} {cs : List PC} (h : Mo ⟨w0, fun _ _ _ => False⟩ w F N mb vb ib hb vs is cs) (hbl : RowKit.Below w.heap.size w W) (hE : Bk W E T c) (h1 : w.heap.size ≤ E) :
    Mo ⟨w0, fun e t d => e = E ∧ t = T ∧ d = c⟩ W F (fun k => N k ∨ (w.heap.size ≤ k ∧ k < W.heap.size)) mb vb ib hb vs is cs := by
  have g := h.ext hbl
  obtain ⟨l1, l2, l3⟩ := h.lt
  exact ⟨g.heap, g.top, g.vr, g.ir, g.nm, g.nv, g.ni, g.ne1, g.ne2, g.ne3, g.lo, fun e t d ⟨q1, q2, q3⟩ => by
    subst q1; subst q2; subst q3
    exact ⟨hE, .inr ⟨h1, hE.lt⟩, by omega, by omega, by omega⟩⟩
/-- And is as it was. -/
theorem Mo.minus {w0 w : World} {F mb vb ib hb E : Nat} {T : TypeId} {c : Array Value} {N N' : Nat → Prop} {vs is : List Int} {cs : List PC} (h : Mo ⟨w0, fun e t d => e = E ∧ t = T ∧ d = c⟩ w F N' mb vb ib hb vs is cs) (hN : ∀ k, N k → N' k) (h1 : N mb) (h2 : N vb) (h3 : N ib) :
    Mo ⟨w0, fun _ _ _ => False⟩ w F N mb vb ib hb vs is cs ∧ Bk w E T c := by
  refine ⟨⟨h.heap.weak hN, h.top, h.vr, h.ir, h1, h2, h3, h.ne1, h.ne2, h.ne3, h.lo, fun _ _ _ h => h.elim⟩, (h.kp E T c ⟨rfl, rfl, rfl⟩).1⟩
theorem Bk.set3 {w : World} {C : Nat} {t : TypeId} {a b c : Value} (h : Bk w C t #[a, b, c]) (x y z : Value) : Bk (((w.setCell ⟨C, 0, none⟩ x).setCell ⟨C, 1, none⟩ y).setCell ⟨C, 2, none⟩ z) C t #[x, y, z] := by
  simpa using ((h.set_ 0 x).set_ 1 y).set_ 2 z
theorem Below.s3 {w X : World} {C : Nat} (h : RowKit.Below w.heap.size w X) (hC : w.heap.size ≤ C) (x y z : Value) : RowKit.Below w.heap.size w (((X.setCell ⟨C, 0, none⟩ x).setCell ⟨C, 1, none⟩ y).setCell ⟨C, 2, none⟩ z) :=
  ((h.setCell (p := ⟨C, 0, none⟩) hC _).setCell (p := ⟨C, 1, none⟩) hC _).setCell (p := ⟨C, 2, none⟩) hC _
/-- A moment as it stands at first. -/
def Z75 (b : Nat) (w : World) : Prop :=
  w.cell? ⟨b, 0, none⟩ = some (.slice none 0 0) ∧ w.cell? ⟨b, 1, none⟩ = some (.slice none 0 0) ∧ w.cell? ⟨b, 2, none⟩ = some (.pointer none) ∧ w.frozen? ⟨b, 0, none⟩ = false ∧ w.frozen? ⟨b, 1, none⟩ = false ∧ w.frozen? ⟨b, 2, none⟩ = false
theorem Z75.of {b : Nat} {w : World} (h : Bk w b 75 moZ) : Z75 b w := ⟨h.cell 0, h.cell 1, h.cell 2, h.frozen 0, h.frozen 1, h.frozen 2⟩
theorem moZ_new (w : World) : Bk (w.alloc (.cells moZ 75)) w.heap.size 75 moZ := (MapKept.heap_alloc w _).1
/-- What Do tells: the state then, by its parts. -/
def DoQ (w : World) (pt : Int) (vs is : List Int) (cs : List PC) (ev : Array Value) (e : Ending) (w' : World) : Prop :=
  ∃ t : SV, e = .returned (.tuple #[.agg t.A, .agg ev]) ∧ (t.pt = pt ∧ t.vs = vs ∧ t.is = is ∧ t.cs = cs) ∧ Lv w w' t ∧ RowKit.Below w.heap.size w w'
theorem Mo.fin7 {w0 w : World} {F mb vb ib hb E : Nat} {T : TypeId} {a b c : Value} {N N' : Nat → Prop} {vs is : List Int} {cs : List PC} (h : Mo ⟨w0, fun e t d => e = E ∧ t = T ∧ d = #[a, b, c]⟩ w F N' mb vb ib hb vs is cs) (hE : w0.heap.size ≤ E) (hN : ∀ k, N k → N' k) (h1 : N mb) (h2 : N vb) (h3 : N ib) (x y z : Value) :
    Mo ⟨w0, fun _ _ _ => False⟩ (((w.setCell ⟨E, 0, none⟩ x).setCell ⟨E, 1, none⟩ y).setCell ⟨E, 2, none⟩ z) F N mb vb ib hb vs is cs ∧ Bk (((w.setCell ⟨E, 0, none⟩ x).setCell ⟨E, 1, none⟩ y).setCell ⟨E, 2, none⟩ z) E T #[x, y, z] := by
  obtain ⟨k1, k2, k3, k4, k5⟩ := h.kp E T _ ⟨rfl, rfl, rfl⟩
  have h0 := (h.minus (N := N') (fun _ h => h) h.nm h.nv h.ni).1
  have hg := (((Gr.refl w (fun i => i = E)).setB 0 x).setB 1 y).setB 2 z
  exact ⟨(h0.other hg k2 hE k3 k4 k5 (fun _ _ _ h => h.elim)).weak hN h1 h2 h3 (fun _ _ _ h => h.elim), k1.set3 x y z⟩
theorem Mo.bl {w0 : WK} {w : World} {F mb vb ib hb : Nat} {N : Nat → Prop} {vs is : List Int} {cs : List PC} (h : Mo w0 w F N mb vb ib hb vs is cs) : RowKit.Below w0.w.heap.size w0.w w := by
  obtain ⟨_, _, _, _, _, _, _, h6⟩ := h.heap; exact h6
theorem Mo.his {w0 : WK} {w : World} {F mb vb ib hb : Nat} {N : Nat → Prop} {vs is : List Int} {cs : List PC} (h : Mo w0 w F N mb vb ib hb vs is cs) : ∃ R v, HIs w hb R F cs v := by
  obtain ⟨R, v, h1, _⟩ := h.heap; exact ⟨R, v, h1⟩
theorem Mo.nlt {w0 : WK} {w : World} {F mb vb ib hb : Nat} {N : Nat → Prop} {vs is : List Int} {cs : List PC} (h : Mo w0 w F N mb vb ib hb vs is cs) : ∀ k, N k → k < w.heap.size := by
  obtain ⟨_, _, _, _, _, _, h5, _⟩ := h.heap; exact h5
theorem evZ_new (w : World) : Bk (w.alloc (.cells #[.int .i64 0, .int .i64 0, .int .i64 0] 37)) w.heap.size 37 (evA 0 0 0) := (MapKept.heap_alloc w _).1
theorem OutR.lay {F : Nat} {w : World} {N : Nat → Prop} {v : Value} {cs : List PC} (h1 : OutR F w N v cs) (hok : ∀ c ∈ cs, c.ok) : ∃ (p : Option Addr) (cap : Nat) (rs : List RC), v = .slice p rs.length cap ∧ rs.map RC.c = cs ∧ ∀ w', Gr w w' (fun k => ¬ N k) → LayR 3 RC.cells RC.lies w' p rs := by
  obtain ⟨p, cap, hv, hN, hx⟩ := h1
  obtain ⟨f, hf⟩ := choose_lt (n := cs.length) (p := fun i (r : RC) => ∃ x, cs[i]? = some x ∧ r.c = x ∧ ∃ g, p = some ⟨g, 0, none⟩ ∧ ∀ w', Gr w w' (fun k => ¬ N k) → w'.rangeAt g (i * 3) r.cells ∧ r.lies w') ⟨⟨0, false, []⟩, none, 0⟩ (fun i hi => by
    have hi' : cs[i]? = some cs[i] := List.getElem?_eq_getElem hi
    obtain ⟨g, q, o, cq, h1, h2, h3, h4, h5, h6⟩ := hx i _ hi'
    exact ⟨⟨cs[i], some ⟨q, o, none⟩, cq⟩, cs[i], hi', rfl, g, h1, fun w' hg => ⟨hg.range (by unfold RC.cells; rw [h6]; exact h4) (fun h => h h2), .inr ⟨q, o, rfl, hg.range h5 (fun h => h h3)⟩, hok _ (List.getElem_mem hi)⟩⟩)
  refine ⟨p, cap, (List.range cs.length).map f, by simpa using hv, ?_, fun w' hg => ?_⟩
  · refine List.ext_getElem? fun i => ?_
    by_cases hi : i < cs.length
    · obtain ⟨x, hx, he, _⟩ := hf i hi
      simp [List.getElem?_range hi, he, hx]
    · rw [List.getElem?_eq_none (by simpa using hi), List.getElem?_eq_none (by omega)]
  · by_cases h0 : cs.length = 0
    · left; simp [h0]
    · obtain ⟨_, _, _, g, hp, _⟩ := hf 0 (by omega)
      refine .inr ⟨g, 0, hp, fun k r hk => ?_⟩
      have hk2 : k < cs.length := by
        have := (List.getElem?_eq_some_iff.1 hk).1; simpa using this
      rw [List.getElem?_map, List.getElem?_range hk2] at hk
      injection hk with hk; subst hk
      obtain ⟨x, hx, he, g', hp', hr⟩ := hf k hk2
      obtain ⟨hr, hl⟩ := hr w' hg
      obtain rfl : g' = g := by rw [hp'] at hp; injection hp with e; injection e
      exact ⟨by rw [Nat.zero_add]; exact hr, hl⟩
theorem deed_enter (k : Nat) (hk : k < 13) (args : Array Value) (w : World) : (callFunc (dfn.getD k 0) args).run Tryd.prog w = .ok (.enter (dfn.getD k 0) args) w := by
  obtain rfl | rfl | rfl | rfl | rfl | rfl | rfl | rfl | rfl | rfl | rfl | rfl | rfl : k = 0 ∨ k = 1 ∨ k = 2 ∨ k = 3 ∨ k = 4 ∨ k = 5 ∨ k = 6 ∨ k = 7 ∨ k = 8 ∨ k = 9 ∨ k = 10 ∨ k = 11 ∨ k = 12 := by omega
  all_goals rfl
end Go.Proofs.YtebmhadpkncgfaaDoor
namespace Go.Proofs.YtebmhadpkncgfaaDoor
open Go.RowKit Go.Maps Go.Sort
open Aw.Ac (Acn Opd)
theorem DoP.q {w : World} {s : SV} {ev : Array Value} {e : Ending} {w' : World} (h : DoP w s ev e w') : DoQ w s.pt s.vs s.is s.cs ev e w' := by
  obtain ⟨t, h1, h2, h3, h4⟩ := h
  exact ⟨t, h1, ⟨h2.pt.symm, h2.vs.symm, h2.is.symm, h2.cs.symm⟩, h3, h4⟩
/-- Cells that were made lie as they are, whatever is done with elder blocks and with O. -/
def LayF (w5 : World) (O : Nat) (w : World) (p : Option Addr) (rs : List RC) : Prop := ∀ w', Gr w w' (fun k => k < w5.heap.size ∨ k = O) → LayR 3 RC.cells RC.lies w' p rs
theorem LayF.far {w5 w w' : World} {O : Nat} {p : Option Addr} {rs : List RC} (h : LayF w5 O w p rs) (hb : RowKit.Below w.heap.size w w') : LayF w5 O w' p rs := fun w'' hg => h w'' ((Gr.of_below hb).trans hg)
def PutR (F : Nat) (w5 : World) (O : Nat) (wz : World) (cs : List PC) (n : Int) (e : Ending) (w' : World) : Prop :=
  ∃ (p : Option Addr) (cap : Nat) (rs : List RC), e = .returned (.tuple #[.agg #[.int .i64 F, .slice p rs.length cap, .bool true], .int .i64 n]) ∧ Hid (rs.map RC.c = cs) ∧ Hid (LayF w5 O w' p rs) ∧ Hid (RowKit.Below wz.heap.size wz w')
theorem D7.putr {w w5 wz w' : World} {g : GR} {s : SV} {a : Acn} {O B : Nat} {t : SV} {v : Value} {N : Nat → Prop} {cs : List PC} {n : Int} {e : Ending} (h : D7 w w5 wz g s a O t B v N) (hok : ∀ c ∈ cs, c.ok) (hr : RefQ g.F wz N cs n e w') : PutR g.F w5 O wz cs n e w' := by
  obtain ⟨v', N', h1, h2, h3, h4⟩ := hr
  obtain ⟨p, cap, rs, rfl, e1, e2⟩ := Out.lay h2 hok
  refine ⟨p, cap, rs, h1, hdn e1, hdn (fun w'' hg => e2 w'' (hg.mono (fun k _ hk hn => ?_))), hdn h4⟩
  have hO := h.d6.out.lt
  have hz := h.d6.low.size
  rcases h3 k hn with q | q
  · have := h.new k q; omega
  · omega
theorem D7.addr {w w5 wz w' : World} {g : GR} {s : SV} {a : Acn} {O B : Nat} {t : SV} {v : Value} {N : Nat → Prop} {cs : List PC} {n : Int} {e : Ending} (h : D7 w w5 wz g s a O t B v N) (hok : ∀ c ∈ cs, c.ok) (hr : RefP g.F wz cs n e w') : PutR g.F w5 O wz cs n e w' := by
  obtain ⟨v', N', h1, h2, h3, h4⟩ := hr
  exact h.putr hok ⟨v', N', h1, h2, fun b hb => .inr (h3 b hb), h4⟩
theorem D6.putc {w w5 wr : World} {g : GR} {s : SV} {a : Acn} {O cap : Nat} {t : SV} {p : Option Addr} {rs : List RC} (h : D6 w w5 wr g s a O t) (h5w : w.heap.size + 5 ≤ w5.heap.size) (hl : LayF w5 O wr p rs) :
    D6 w w5 (wr.setCell ⟨O, 3, none⟩ (.slice p rs.length cap)) g s a O { t with cp := p, rs := rs, cc := cap } := by
  have hz := h.d5.sz
  have hf := h.far
  have h5 := h.low.size
  have hg : Gr wr (wr.setCell ⟨O, 3, none⟩ (.slice p rs.length cap)) (fun k => k = O) := Gr.setCell (S := fun k => k = O) (Gr.refl _ _) (p := ⟨O, 3, none⟩) (fun _ => rfl) _
  have hb := h.out.set_ 3 (.slice p rs.length cap)
  have e : t.A.setIfInBounds 3 (.slice p rs.length cap) = ({ t with cp := p, rs := rs, cc := cap } : SV).A := by simp [SV.A]
  rw [e] at hb
  have hbel : RowKit.Below w5.heap.size wr (wr.setCell ⟨O, 3, none⟩ (.slice p rs.length cap)) := hg.below h5 (fun k h => by omega)
  refine ⟨⟨hg.bk h.d5.gr (fun e => by omega), hg.bk h.d5.st (fun e => by omega), hg.bk h.d5.ac (fun e => by omega), hg.bk h.d5.r1 (fun e => by omega), hg.bk h.d5.r2 (fun e => by omega), h.d5.low.trans (hg.below h.d5.low.size (fun k h' => by omega)), by have := hg.size; omega⟩, hb, h.far, fun w' h' => ?_, h.low.trans hbel⟩
  have hall : Gr wr w' (fun k => k < w5.heap.size ∨ k = O) := (hg.mono (fun _ _ h => .inr h)).trans h'
  have ht := h.lies w' hall
  exact ⟨ht.v, ht.i, hl w' hall⟩
theorem LayF.set {w5 wr : World} {O : Nat} {p : Option Addr} {rs : List RC} (h : LayF w5 O wr p rs) (i : Nat) (v : Value) : LayF w5 O (wr.setCell ⟨O, i, none⟩ v) p rs := fun w' hg =>
  h w' ((Gr.setCell (S := fun k => k < w5.heap.size ∨ k = O) (Gr.refl _ _) (p := ⟨O, i, none⟩) (fun _ => .inr rfl) v).trans hg)
theorem D6.finQ {w w5 wr w8 w9 : World} {g : GR} {s : SV} {a : Acn} {O : Nat} {t : SV} {ev : Array Value} {pt : Int} {vs is : List Int} {cs : List PC} (h5 : w.heap.size + 5 ≤ w5.heap.size) (h : D6 w w5 wr g s a O t) (hs : t.pt = pt ∧ t.vs = vs ∧ t.is = is ∧ t.cs = cs) (g1 : wr.grownBy w8 (some (w.heap.size + 1 + 1 + 1))) (g2 : w8.grownBy w9 (some (w.heap.size + 1 + 1 + 1 + 1))) :
    DoQ w pt vs is cs ev (.returned (.tuple #[.agg t.A, .agg ev])) w9 := by
  have hg : Gr wr w9 (fun k => k = w.heap.size + 1 + 1 + 1 ∨ k = w.heap.size + 1 + 1 + 1 + 1) := ((Gr.of_grown g1).mono (fun k _ h => .inl (by injection h))).trans ((Gr.of_grown g2).mono (fun k _ h => .inr (by injection h)))
  have hz := h.d5.low.size
  refine ⟨t, rfl, hs, fun w'' h'' => h.lies w'' ((hg.mono (fun k _ h => by omega)).trans (h''.mono (fun k _ h => by omega))), h.d5.low.trans (hg.below hz (fun k h => by omega))⟩
theorem Rt.oks {g : GR} {cs : List PC} (hn : cs.length ≤ 2000000) (h : CsOk g.F g.S cs) : ∀ c ∈ cs, c.ok := fun c hc => loadC_ok (h c hc).2 hn
theorem do8_4no (g : GR) (s : SV) (a : Acn) (inp : Int) (w : World) (hg : Gok g) (hs : Rt g s) (hl : s.lies w) (hh : hasB g a = true) (hk : a.kind = 4) (hf : faultC (s.rs.map RC.c) (atL s.vs a.x) ≠ 0) : Calls Tryd.prog 8 #[.agg g.cs, .agg s.A, .agg a.cs, .int .i64 inp] w (DoQ w s.pt s.vs s.is s.cs (evA 3 a.pl (faultC (s.rs.map RC.c) (atL s.vs a.x)))) := by
  have HF0 := hdn hf
  obtain ⟨w5, hw5⟩ : ∃ w5, ((((w.alloc (.cells g.cs 30)).alloc (.cells s.A 33)).alloc (.cells a.cs 43)).alloc (.cells (stA 0 none 0 0 none 0 0 none 0 0) 33)).alloc (.cells (evA 0 0 0) 37) = w5 := ⟨_, rfl⟩
  have HW : Hid (((((w.alloc (.cells g.cs 30)).alloc (.cells s.A 33)).alloc (.cells a.cs 43)).alloc (.cells #[.int .i64 0, .slice none 0 0, .slice none 0 0, .slice none 0 0] 33)).alloc (.cells #[.int .i64 0, .int .i64 0, .int .i64 0] 37) = w5) := hdn hw5
  have HD : Hid (D5 w w5 g s a) := hdn (by rw [← hw5]; exact D5.start w g s a)
  have HS5 := hdn HD.out.st
  have HL : Hid (s.lies w5) := hdn (hl.below HD.out.low)
  have HC := hdn (own21_any g.F s w5 HL.out (by have := hs.vl; have := hg.V; omega) (by have := hs.il; have := hg.I; omega) hs.n hs.lens hg.F)
  have HRI := hdn (fun wz (hz : RowKit.Below w5.heap.size w5 wz) => right22_any g s wz hg hs (HL.out.below hz))
  have HHA := hdn (fun wz => has23_any g a wz)
  rw [hh] at HHA
  have HLO : Hid (∀ wz, RowKit.Below w5.heap.size w5 wz → Calls Tryd.prog 24 #[.slice g.fp g.F g.fc, .slice s.cp s.rs.length s.cc] wz fun e w' => ∃ v N, e = .returned (.agg #[.int .i64 g.F, v, .bool true]) ∧ Out g.F w' N v (s.rs.map RC.c) ∧ (∀ b, N b → wz.heap.size ≤ b) ∧ RowKit.Below wz.heap.size wz w') := hdn (fun wz hz => by
    have := refLoad_any g.F g.fc s.cc g.fp s.cp s.rs wz (HL.out.c.below hz (fun x h => RC.lies_below' h hz)) hg.F hs.n
    rw [hs.loaded] at this
    exact this)
  have CV := fun (x : Int) (wz : World) (hz : RowKit.Below w5.heap.size w5 wz) => qb_call (wB := wz) (F := 25) (ar := #[.slice s.vp s.vs.length s.vc, .int .i64 x]) (v := .int .i64 (atL s.vs x)) (fun wr hb' => (at25_any s.vp s.vs s.vc x wr ((HL.out.below hz).v.below hb')).mono (fun e w' he => ⟨he.1, same_below he.2⟩))
  have HVX := hdn (CV a.x)
  have HVY := hdn (CV a.y)
  have HFA := hdn (fun n wz (hz : RowKit.Below w5.heap.size w5 wz) => fails_any g.F s a n wz (HL.out.below hz) (by have := hs.vl; have := hg.V; omega) (by have := hs.il; have := hg.I; omega) hs.n hs.lens hg.F)
  have HPU : Hid (∀ v N wz B O t c x, D7 w w5 wz g s a O t B v N → 0 ≤ x ∧ x ≤ (s.rs.length : Int) → Calls Tryd.prog 29 #[.agg #[.int .i64 g.F, v, .bool true], .int .i64 c, .int .i64 a.f, .int .i64 x] wz (PutR g.F w5 O wz (putC g.F (s.rs.map RC.c) c a.f x) (faultC (s.rs.map RC.c) c))) := hdn (fun v N wz B O t c x h hx => (refPut_any g.F N _ v c a.f x wz h.heap hg.F (by rw [List.length_map]; exact hs.n)).mono (fun e w' hp => h.putr (Rt.oks (by rw [putC_len, List.length_map]; exact hs.n) (putC_ok hs.csok c a.f x (by rw [s.csl]; exact hx))) hp))
  have HAT := hdn (hs.at_ a.y)
  have HK := hdn hk
  clear CV hk
  clear hw5 hl hs hg hh hf
  go_enter Tryd.func8, Tryd.ntmps8
  go_upto_region 1 with fail
  rw [HW.out]
  clear HW
  go_upto_region 2 with (first
    | ((with_reducible show wpList _ _ _ (Oper.mk _ (Op.load 33 _) _ _ _ _ :: _) _ _); refine wpList_load_bk rfl 33 _ rfl (w.heap.size + 1) 33 s.A rfl _ HS5.out Tryd.underlying33 rfl size33 ?_)
    | (go_at_call 21; refine HC.out.mono ?_; rintro e w6 ⟨t, rfl, hs6, hv6, hb6⟩; have HT := hdn hs6; have HV := hdn hv6; have HB6 := hdn hb6; have HZ6 : Hid (Bk (w6.alloc (.cells #[.int .i64 0, .slice none 0 0, .slice none 0 0, .slice none 0 0] 33)) w6.heap.size 33 (stA 0 none 0 0 none 0 0 none 0 0)) := hdn (MapKept.heap_alloc w6 _).1; clear hs6 hv6 hb6)
    | ((with_reducible show wpList _ _ _ (Oper.mk none (Op.store 33 _ _) _ _ _ _ :: _) _ _); refine wpList_store_all rfl 33 _ _ rfl w6.heap.size 33 _ t.A rfl rfl HZ6.out size33 rfl (SV.A_one t) ?_; intro w7 h7 g7))
  have H6 : Hid (D6 w w5 w7 g s a w6.heap.size t) := hdn (D6.start HD.out HB6.out HV.out h7.out g7.out)
  clear h7 g7 HC HS5 HV HB6 HZ6
  generalize w6.heap.size = O at H6 ⊢
  have HG7 := hdn H6.out.d5.gr
  have HS7 := hdn H6.out.d5.st
  go_upto_region 4 with (first
    | ((with_reducible show wpList _ _ _ (Oper.mk (some 25) (Op.load 30 _) _ _ _ _ :: _) _ _); refine wpList_load_bk rfl 30 _ rfl w.heap.size 30 g.cs rfl _ HG7.out Tryd.underlying30 rfl size30 ?_)
    | ((with_reducible show wpList _ _ _ (Oper.mk (some 26) (Op.load 33 _) _ _ _ _ :: _) _ _); refine wpList_load_bk rfl 33 _ rfl (w.heap.size + 1) 33 s.A rfl _ HS7.out Tryd.underlying33 rfl size33 ?_)
    | (go_at_call 22; refine (HRI.out w7 H6.out.low).mono ?_; rintro e w8 ⟨rfl, hb8⟩; have H8 := hdn (H6.out.far' hb8); have HG8 := hdn H8.out.d5.gr; have HA8 := hdn H8.out.d5.ac; obtain ⟨c0, c1, c2, c3, c4, c5, c6, c7, c8, c9⟩ := G10.of HG8.out; obtain ⟨a0, a1, a2, a3, a4, a5, a6, a7, a8, a9, a10, a11⟩ := A12f.of HA8.out; clear hb8)
    | (go_at_call 23; refine (HHA.out w8).mono ?_; rintro e w9 ⟨rfl, hb9⟩; have H9 := hdn (H8.out.far' hb9); clear hb9))
  clear c0 c1 c2 c3 c4 c5 c6 c7 c8 c9 a0 a1 a2 a3 a4 a5 a6 a7 a8 a9 a10 a11 HG8 HA8 HRI HHA HG7 HS7 H8
  obtain ⟨_, _, _, _, _, _, _, _, _, c9⟩ := G10.of H9.out.d5.gr
  obtain ⟨_, _, _, s3⟩ := Z33.of H9.out.d5.st
  go_upto_region 5 with (first
    | (go_at_call 24; refine (HLO.out w9 H9.out.low).mono ?_; rintro e w10 ⟨v, N, rfl, hov, hnv, hbv⟩; have HOV := hdn hov; have HNV := hdn hnv; have HBV := hdn hbv; have HZ10 : Hid (Bk (w10.alloc (.cells #[.int .i64 0, .slice none 0 0, .bool false] 59)) w10.heap.size 59 #[.int .i64 0, .slice none 0 0, .bool false]) := hdn (MapKept.heap_alloc w10 _).1; have H1C : Hid ((#[.int .i64 g.F, v, .bool true] : Array Value).all (·.oneCell') = true) := hdn (Kin.Lie.oneA hov); clear hov hnv hbv)
    | ((with_reducible show wpList _ _ _ (Oper.mk none (Op.store 59 _ _) _ _ _ _ :: _) _ _); refine wpList_store_all rfl 59 _ _ rfl w10.heap.size 59 _ #[.int .i64 g.F, v, .bool true] rfl rfl HZ10.out size29 rfl H1C.out ?_; intro w11 h11 g11))
  have H7 : Hid (D7 w w5 w11 g s a O t w10.heap.size v N) := hdn (D7.start H9.out HBV.out HOV.out HNV.out h11.out g11.out)
  clear h11 g11 HOV HNV HBV HZ10 H1C c9 s3
  generalize w10.heap.size = B at H7 ⊢
  simp only [Act.put]
  obtain ⟨a0, a1, a2, a3, a4, a5, a6, a7, a8, a9, a10, a11⟩ := A12f.of H7.out.d6.d5.ac
  obtain ⟨s0, s1, s2, s3⟩ := Z33.of H7.out.d6.d5.st
  have cX := HVX.out w11 H7.out.d6.low
  have cY := HVY.out w11 H7.out.d6.low
  have p1 := cell_regrown a1; have p2 := cell_regrown a2; have p3 := cell_regrown s1
  refine wp_region_quiet_below (by kernel_rfl) (by kernel_rfl) ?_
  repeat (go_big_quiet_step (first | (with_reducible exact cX _ _) | (with_reducible exact cY _ _)))
  refine wpQuiet_nil ?_
  intro _ hw'
  obtain ⟨⟨dz, osz⟩, hw''⟩ := hw'
  subst hw''
  have H12 : Hid (D7 w w5 (grow (redrawn w11 dz) osz) g s a O t B v N) := hdn (H7.out.far' (below_regrown w11 dz osz))
  generalize grow (redrawn w11 dz) osz = w12 at H12 ⊢
  clear p1 p2 p3 cX cY a0 a1 a2 a3 a4 a5 a6 a7 a8 a9 a10 a11 s0 s1 s2 s3 H7 H9 HVX HVY HLO
  obtain ⟨a0, a1, a2, a3, a4, a5, a6, a7, a8, a9, a10, a11⟩ := A12f.of H12.out.d6.d5.ac
  obtain ⟨s0, s1, s2, s3⟩ := Z33.of H12.out.d6.d5.st
  rw [HK.out] at a0
  have HB12 := hdn H12.out.box
  have HGY := hdn (HPU.out v N w12 B O t (atL s.vs a.x) 0 H12.out ⟨by omega, by omega⟩)
  generalize hcs : putC g.F (s.rs.map RC.c) (atL s.vs a.x) a.f 0 = cs1 at *
  clear hcs
  generalize faultC (s.rs.map RC.c) (atL s.vs a.x) = kk at *
  have hkk : (kk != 0) = true := by have := HF0.out; simpa using this
  clear HPU HAT
  go_upto_region 21 with (first
    | ((with_reducible show wpList _ _ _ (Oper.mk (some 103) (Op.load 59 _) _ _ _ _ :: _) _ _); refine wpList_load_bk rfl 59 _ rfl B 59 #[.int .i64 g.F, v, .bool true] rfl _ HB12.out Tryd.underlying59 rfl size29 ?_)
    | (go_at_call 29; refine HGY.out.mono ?_; rintro e w12b ⟨p1, cap1, rs1, rfl, hm1, hl1, hbz⟩; have H12b := hdn (H12.out.far' hbz.out); have HZ10 : Hid (Bk (w12b.alloc (.cells #[.int .i64 0, .slice none 0 0, .bool false] 59)) w12b.heap.size 59 #[.int .i64 0, .slice none 0 0, .bool false]) := hdn (MapKept.heap_alloc w12b _).1; have H1C : Hid ((#[.int .i64 g.F, .slice p1 rs1.length cap1, .bool true] : Array Value).all (·.oneCell') = true) := hdn (by simp [Value.oneCell']); clear hbz)
    | ((with_reducible show wpList _ _ _ (Oper.mk none (Op.store 59 _ _) _ _ _ _ :: _) _ _); refine wpList_store_all rfl 59 _ _ rfl w12b.heap.size 59 _ #[.int .i64 g.F, .slice p1 rs1.length cap1, .bool true] rfl rfl HZ10.out size29 rfl H1C.out ?_; intro w11b h11 g11))
  have hb13 : RowKit.Below w12b.heap.size w12b w11b := (alloc_below w12b _).grown g11.out (by simp) (fun j hj => by injection hj with hj; omega)
  have H13 := hdn (H12b.out.far' hb13)
  have HL13 := hdn (hl1.out.far hb13)
  clear g11 hl1 HZ10 H1C hb13 a0 a1 a2 a3 a4 a5 a6 a7 a8 a9 a10 a11 s0 s1 s2 s3
  clear h11 HL13
  have HS12 := hdn H13.out.d6.d5.st
  have HA12 := hdn H13.out.d6.d5.ac
  go_wp2_with (first
    | ((with_reducible show wpList _ _ _ (Oper.mk (some 113) (Op.load 33 _) _ _ _ _ :: _) _ _); refine wpList_load_bk rfl 33 _ rfl (w.heap.size + 1) 33 s.A rfl _ HS12.out Tryd.underlying33 rfl size33 ?_)
    | ((with_reducible show wpList _ _ _ (Oper.mk (some 114) (Op.load 43 _) _ _ _ _ :: _) _ _); refine wpList_load_bk rfl 43 _ rfl (w.heap.size + 1 + 1) 43 a.cs rfl _ HA12.out Tryd.underlying43 rfl size43 ?_)
    | (go_at_call 28; refine (HFA.out _ w11b H13.out.d6.low).mono ?_; rintro e w13 ⟨t2, rfl, hs2, hv2, hb2⟩; have HT2 := hdn hs2; have HV2 := hdn hv2; have H13z := hdn (H13.out.d6.d5.far hb2); have HR1 := hdn H13z.out.r1; have HR2 := hdn H13z.out.r2; clear hs2 hv2 hb2)
    | ((with_reducible show wpList _ _ _ (Oper.mk none (Op.store 33 _ _) _ _ _ _ :: _) _ _); refine wpList_store_all rfl 33 _ _ rfl (w.heap.size + 1 + 1 + 1) 33 _ t2.A rfl rfl HR1.out size33 rfl (SV.A_one _) ?_; intro w20 h20 g20; have HR3 := hdn ((Gr.of_grown g20.out).bk HR2.out (by intro h; injection h; omega)))
    | ((with_reducible show wpList _ _ _ (Oper.mk none (Op.store 37 _ _) _ _ _ _ :: _) _ _); refine wpList_store_all rfl 37 _ _ rfl (w.heap.size + 1 + 1 + 1 + 1) 37 _ (evA 3 a.pl kk) rfl rfl HR3.out size37 rfl (evA_one _ _ _) ?_; intro w21 h21 g21))
  have q1 : Bk w21 (w.heap.size + 1 + 1 + 1) 33 t2.A := (Gr.of_grown g21.out).bk h20.out (by intro h; injection h; omega)
  exact bodyPost_ret (results_two Tryd.results8 rfl rfl rfl rfl q1 h21.out) rfl (DoP.q (D5.finF H13.out.d6.d5.sz H13z.out HT2.out HV2.out g20.out g21.out))
theorem do8_4ok (g : GR) (s : SV) (a : Acn) (inp : Int) (w : World) (hg : Gok g) (hs : Rt g s) (hl : s.lies w) (hh : hasB g a = true) (hk : a.kind = 4) (hf : faultC (s.rs.map RC.c) (atL s.vs a.x) = 0) : Calls Tryd.prog 8 #[.agg g.cs, .agg s.A, .agg a.cs, .int .i64 inp] w (DoQ w s.pt s.vs s.is (putC g.F (s.rs.map RC.c) (atL s.vs a.x) a.f 0) (evA 0 0 0)) := by
  have HF0 := hdn hf
  obtain ⟨w5, hw5⟩ : ∃ w5, ((((w.alloc (.cells g.cs 30)).alloc (.cells s.A 33)).alloc (.cells a.cs 43)).alloc (.cells (stA 0 none 0 0 none 0 0 none 0 0) 33)).alloc (.cells (evA 0 0 0) 37) = w5 := ⟨_, rfl⟩
  have HW : Hid (((((w.alloc (.cells g.cs 30)).alloc (.cells s.A 33)).alloc (.cells a.cs 43)).alloc (.cells #[.int .i64 0, .slice none 0 0, .slice none 0 0, .slice none 0 0] 33)).alloc (.cells #[.int .i64 0, .int .i64 0, .int .i64 0] 37) = w5) := hdn hw5
  have HD : Hid (D5 w w5 g s a) := hdn (by rw [← hw5]; exact D5.start w g s a)
  have HS5 := hdn HD.out.st
  have HL : Hid (s.lies w5) := hdn (hl.below HD.out.low)
  have HC := hdn (own21_any g.F s w5 HL.out (by have := hs.vl; have := hg.V; omega) (by have := hs.il; have := hg.I; omega) hs.n hs.lens hg.F)
  have HRI := hdn (fun wz (hz : RowKit.Below w5.heap.size w5 wz) => right22_any g s wz hg hs (HL.out.below hz))
  have HHA := hdn (fun wz => has23_any g a wz)
  rw [hh] at HHA
  have HLO : Hid (∀ wz, RowKit.Below w5.heap.size w5 wz → Calls Tryd.prog 24 #[.slice g.fp g.F g.fc, .slice s.cp s.rs.length s.cc] wz fun e w' => ∃ v N, e = .returned (.agg #[.int .i64 g.F, v, .bool true]) ∧ Out g.F w' N v (s.rs.map RC.c) ∧ (∀ b, N b → wz.heap.size ≤ b) ∧ RowKit.Below wz.heap.size wz w') := hdn (fun wz hz => by
    have := refLoad_any g.F g.fc s.cc g.fp s.cp s.rs wz (HL.out.c.below hz (fun x h => RC.lies_below' h hz)) hg.F hs.n
    rw [hs.loaded] at this
    exact this)
  have CV := fun (x : Int) (wz : World) (hz : RowKit.Below w5.heap.size w5 wz) => qb_call (wB := wz) (F := 25) (ar := #[.slice s.vp s.vs.length s.vc, .int .i64 x]) (v := .int .i64 (atL s.vs x)) (fun wr hb' => (at25_any s.vp s.vs s.vc x wr ((HL.out.below hz).v.below hb')).mono (fun e w' he => ⟨he.1, same_below he.2⟩))
  have HVX := hdn (CV a.x)
  have HVY := hdn (CV a.y)
  have HPU : Hid (∀ v N wz B O t c x, D7 w w5 wz g s a O t B v N → 0 ≤ x ∧ x ≤ (s.rs.length : Int) → Calls Tryd.prog 29 #[.agg #[.int .i64 g.F, v, .bool true], .int .i64 c, .int .i64 a.f, .int .i64 x] wz (PutR g.F w5 O wz (putC g.F (s.rs.map RC.c) c a.f x) (faultC (s.rs.map RC.c) c))) := hdn (fun v N wz B O t c x h hx => (refPut_any g.F N _ v c a.f x wz h.heap hg.F (by rw [List.length_map]; exact hs.n)).mono (fun e w' hp => h.putr (Rt.oks (by rw [putC_len, List.length_map]; exact hs.n) (putC_ok hs.csok c a.f x (by rw [s.csl]; exact hx))) hp))
  have HAT := hdn (hs.at_ a.y)
  have HK := hdn hk
  clear CV hk
  clear hw5 hl hs hg hh hf
  go_enter Tryd.func8, Tryd.ntmps8
  go_upto_region 1 with fail
  rw [HW.out]
  clear HW
  go_upto_region 2 with (first
    | ((with_reducible show wpList _ _ _ (Oper.mk _ (Op.load 33 _) _ _ _ _ :: _) _ _); refine wpList_load_bk rfl 33 _ rfl (w.heap.size + 1) 33 s.A rfl _ HS5.out Tryd.underlying33 rfl size33 ?_)
    | (go_at_call 21; refine HC.out.mono ?_; rintro e w6 ⟨t, rfl, hs6, hv6, hb6⟩; have HT := hdn hs6; have HV := hdn hv6; have HB6 := hdn hb6; have HZ6 : Hid (Bk (w6.alloc (.cells #[.int .i64 0, .slice none 0 0, .slice none 0 0, .slice none 0 0] 33)) w6.heap.size 33 (stA 0 none 0 0 none 0 0 none 0 0)) := hdn (MapKept.heap_alloc w6 _).1; clear hs6 hv6 hb6)
    | ((with_reducible show wpList _ _ _ (Oper.mk none (Op.store 33 _ _) _ _ _ _ :: _) _ _); refine wpList_store_all rfl 33 _ _ rfl w6.heap.size 33 _ t.A rfl rfl HZ6.out size33 rfl (SV.A_one t) ?_; intro w7 h7 g7))
  have H6 : Hid (D6 w w5 w7 g s a w6.heap.size t) := hdn (D6.start HD.out HB6.out HV.out h7.out g7.out)
  clear h7 g7 HC HS5 HV HB6 HZ6
  generalize w6.heap.size = O at H6 ⊢
  have HG7 := hdn H6.out.d5.gr
  have HS7 := hdn H6.out.d5.st
  go_upto_region 4 with (first
    | ((with_reducible show wpList _ _ _ (Oper.mk (some 25) (Op.load 30 _) _ _ _ _ :: _) _ _); refine wpList_load_bk rfl 30 _ rfl w.heap.size 30 g.cs rfl _ HG7.out Tryd.underlying30 rfl size30 ?_)
    | ((with_reducible show wpList _ _ _ (Oper.mk (some 26) (Op.load 33 _) _ _ _ _ :: _) _ _); refine wpList_load_bk rfl 33 _ rfl (w.heap.size + 1) 33 s.A rfl _ HS7.out Tryd.underlying33 rfl size33 ?_)
    | (go_at_call 22; refine (HRI.out w7 H6.out.low).mono ?_; rintro e w8 ⟨rfl, hb8⟩; have H8 := hdn (H6.out.far' hb8); have HG8 := hdn H8.out.d5.gr; have HA8 := hdn H8.out.d5.ac; obtain ⟨c0, c1, c2, c3, c4, c5, c6, c7, c8, c9⟩ := G10.of HG8.out; obtain ⟨a0, a1, a2, a3, a4, a5, a6, a7, a8, a9, a10, a11⟩ := A12f.of HA8.out; clear hb8)
    | (go_at_call 23; refine (HHA.out w8).mono ?_; rintro e w9 ⟨rfl, hb9⟩; have H9 := hdn (H8.out.far' hb9); clear hb9))
  clear c0 c1 c2 c3 c4 c5 c6 c7 c8 c9 a0 a1 a2 a3 a4 a5 a6 a7 a8 a9 a10 a11 HG8 HA8 HRI HHA HG7 HS7 H8
  obtain ⟨_, _, _, _, _, _, _, _, _, c9⟩ := G10.of H9.out.d5.gr
  obtain ⟨_, _, _, s3⟩ := Z33.of H9.out.d5.st
  go_upto_region 5 with (first
    | (go_at_call 24; refine (HLO.out w9 H9.out.low).mono ?_; rintro e w10 ⟨v, N, rfl, hov, hnv, hbv⟩; have HOV := hdn hov; have HNV := hdn hnv; have HBV := hdn hbv; have HZ10 : Hid (Bk (w10.alloc (.cells #[.int .i64 0, .slice none 0 0, .bool false] 59)) w10.heap.size 59 #[.int .i64 0, .slice none 0 0, .bool false]) := hdn (MapKept.heap_alloc w10 _).1; have H1C : Hid ((#[.int .i64 g.F, v, .bool true] : Array Value).all (·.oneCell') = true) := hdn (Kin.Lie.oneA hov); clear hov hnv hbv)
    | ((with_reducible show wpList _ _ _ (Oper.mk none (Op.store 59 _ _) _ _ _ _ :: _) _ _); refine wpList_store_all rfl 59 _ _ rfl w10.heap.size 59 _ #[.int .i64 g.F, v, .bool true] rfl rfl HZ10.out size29 rfl H1C.out ?_; intro w11 h11 g11))
  have H7 : Hid (D7 w w5 w11 g s a O t w10.heap.size v N) := hdn (D7.start H9.out HBV.out HOV.out HNV.out h11.out g11.out)
  clear h11 g11 HOV HNV HBV HZ10 H1C c9 s3
  generalize w10.heap.size = B at H7 ⊢
  simp only [Act.put]
  obtain ⟨a0, a1, a2, a3, a4, a5, a6, a7, a8, a9, a10, a11⟩ := A12f.of H7.out.d6.d5.ac
  obtain ⟨s0, s1, s2, s3⟩ := Z33.of H7.out.d6.d5.st
  have cX := HVX.out w11 H7.out.d6.low
  have cY := HVY.out w11 H7.out.d6.low
  have p1 := cell_regrown a1; have p2 := cell_regrown a2; have p3 := cell_regrown s1
  refine wp_region_quiet_below (by kernel_rfl) (by kernel_rfl) ?_
  repeat (go_big_quiet_step (first | (with_reducible exact cX _ _) | (with_reducible exact cY _ _)))
  refine wpQuiet_nil ?_
  intro _ hw'
  obtain ⟨⟨dz, osz⟩, hw''⟩ := hw'
  subst hw''
  have H12 : Hid (D7 w w5 (grow (redrawn w11 dz) osz) g s a O t B v N) := hdn (H7.out.far' (below_regrown w11 dz osz))
  generalize grow (redrawn w11 dz) osz = w12 at H12 ⊢
  clear p1 p2 p3 cX cY a0 a1 a2 a3 a4 a5 a6 a7 a8 a9 a10 a11 s0 s1 s2 s3 H7 H9 HVX HVY HLO
  obtain ⟨a0, a1, a2, a3, a4, a5, a6, a7, a8, a9, a10, a11⟩ := A12f.of H12.out.d6.d5.ac
  obtain ⟨s0, s1, s2, s3⟩ := Z33.of H12.out.d6.d5.st
  rw [HK.out] at a0
  have HB12 := hdn H12.out.box
  have HGY := hdn (HPU.out v N w12 B O t (atL s.vs a.x) 0 H12.out ⟨by omega, by omega⟩)
  generalize hcs : putC g.F (s.rs.map RC.c) (atL s.vs a.x) a.f 0 = cs1 at *
  clear hcs
  generalize faultC (s.rs.map RC.c) (atL s.vs a.x) = kk at *
  have hkk : (kk != 0) = false := by have := HF0.out; simpa using this
  clear HPU HAT
  go_upto_region 21 with (first
    | ((with_reducible show wpList _ _ _ (Oper.mk (some 103) (Op.load 59 _) _ _ _ _ :: _) _ _); refine wpList_load_bk rfl 59 _ rfl B 59 #[.int .i64 g.F, v, .bool true] rfl _ HB12.out Tryd.underlying59 rfl size29 ?_)
    | (go_at_call 29; refine HGY.out.mono ?_; rintro e w12b ⟨p1, cap1, rs1, rfl, hm1, hl1, hbz⟩; have H12b := hdn (H12.out.far' hbz.out); have HZ10 : Hid (Bk (w12b.alloc (.cells #[.int .i64 0, .slice none 0 0, .bool false] 59)) w12b.heap.size 59 #[.int .i64 0, .slice none 0 0, .bool false]) := hdn (MapKept.heap_alloc w12b _).1; have H1C : Hid ((#[.int .i64 g.F, .slice p1 rs1.length cap1, .bool true] : Array Value).all (·.oneCell') = true) := hdn (by simp [Value.oneCell']); clear hbz)
    | ((with_reducible show wpList _ _ _ (Oper.mk none (Op.store 59 _ _) _ _ _ _ :: _) _ _); refine wpList_store_all rfl 59 _ _ rfl w12b.heap.size 59 _ #[.int .i64 g.F, .slice p1 rs1.length cap1, .bool true] rfl rfl HZ10.out size29 rfl H1C.out ?_; intro w11b h11 g11))
  have hb13 : RowKit.Below w12b.heap.size w12b w11b := (alloc_below w12b _).grown g11.out (by simp) (fun j hj => by injection hj with hj; omega)
  have H13 := hdn (H12b.out.far' hb13)
  have HL13 := hdn (hl1.out.far hb13)
  clear g11 hl1 HZ10 H1C hb13 a0 a1 a2 a3 a4 a5 a6 a7 a8 a9 a10 a11 s0 s1 s2 s3
  have c1 : w11b.cell? ⟨w12b.heap.size, 1, none⟩ = some (.slice p1 rs1.length cap1) := h11.out.cell 1
  have f13 := H13.out.d6.out.frozen 3
  have g13 : w11b.cell? ⟨O, 3, none⟩ = some (.slice t.cp t.rs.length t.cc) := H13.out.d6.out.cell 3
  have H14 := hdn (H13.out.d6.putc (cap := cap1) HD.out.sz HL13.out)
  have HM1 := hm1
  clear h11 hm1
  go_upto_region 46 with fail
  clear c1 f13 g13
  generalize w11b.setCell ⟨O, 3, none⟩ (.slice p1 rs1.length cap1) = w14 at H14 ⊢
  have HO14 := hdn H14.out.out
  have HR1 := hdn H14.out.d5.r1
  have HR2 := hdn H14.out.d5.r2
  go_wp2_with (first
    | ((with_reducible show wpList _ _ _ (Oper.mk (some 221) (Op.load 33 _) _ _ _ _ :: _) _ _); refine wpList_load_bk rfl 33 _ rfl O 33 ({ t with cp := p1, rs := rs1, cc := cap1 } : SV).A rfl _ HO14.out Tryd.underlying33 rfl size33 ?_)
    | ((with_reducible show wpList _ _ _ (Oper.mk none (Op.store 33 _ _) _ _ _ _ :: _) _ _); refine wpList_store_all rfl 33 _ _ rfl (w.heap.size + 1 + 1 + 1) 33 _ ({ t with cp := p1, rs := rs1, cc := cap1 } : SV).A rfl rfl HR1.out size33 rfl (SV.A_one _) ?_; intro w20 h20 g20; have HR3 := hdn ((Gr.of_grown g20.out).bk HR2.out (by intro h; injection h; omega)))
    | ((with_reducible show wpList _ _ _ (Oper.mk none (Op.store 37 _ _) _ _ _ _ :: _) _ _); refine wpList_store_all rfl 37 _ _ rfl (w.heap.size + 1 + 1 + 1 + 1) 37 _ (evA 0 0 0) rfl rfl HR3.out size37 rfl (evA_one _ _ _) ?_; intro w21 h21 g21))
  have q1 : Bk w21 (w.heap.size + 1 + 1 + 1) 33 ({ t with cp := p1, rs := rs1, cc := cap1 } : SV).A := (Gr.of_grown g21.out).bk h20.out (by intro h; injection h; omega)
  exact bodyPost_ret (results_two Tryd.results8 rfl rfl rfl rfl q1 h21.out) rfl (D6.finQ HD.out.sz H14.out ⟨HT.out.pt.symm, HT.out.vs.symm, HT.out.is.symm, HM1.out⟩ g20.out g21.out)
theorem do8_5no (g : GR) (s : SV) (a : Acn) (inp : Int) (w : World) (hg : Gok g) (hs : Rt g s) (hl : s.lies w) (hh : hasB g a = true) (hk : a.kind = 5) (hf : faultC (s.rs.map RC.c) (atL s.vs a.x) ≠ 0) : Calls Tryd.prog 8 #[.agg g.cs, .agg s.A, .agg a.cs, .int .i64 inp] w (DoQ w s.pt s.vs s.is s.cs (evA 3 a.pl (faultC (s.rs.map RC.c) (atL s.vs a.x)))) := by
  have HF0 := hdn hf
  obtain ⟨w5, hw5⟩ : ∃ w5, ((((w.alloc (.cells g.cs 30)).alloc (.cells s.A 33)).alloc (.cells a.cs 43)).alloc (.cells (stA 0 none 0 0 none 0 0 none 0 0) 33)).alloc (.cells (evA 0 0 0) 37) = w5 := ⟨_, rfl⟩
  have HW : Hid (((((w.alloc (.cells g.cs 30)).alloc (.cells s.A 33)).alloc (.cells a.cs 43)).alloc (.cells #[.int .i64 0, .slice none 0 0, .slice none 0 0, .slice none 0 0] 33)).alloc (.cells #[.int .i64 0, .int .i64 0, .int .i64 0] 37) = w5) := hdn hw5
  have HD : Hid (D5 w w5 g s a) := hdn (by rw [← hw5]; exact D5.start w g s a)
  have HS5 := hdn HD.out.st
  have HL : Hid (s.lies w5) := hdn (hl.below HD.out.low)
  have HC := hdn (own21_any g.F s w5 HL.out (by have := hs.vl; have := hg.V; omega) (by have := hs.il; have := hg.I; omega) hs.n hs.lens hg.F)
  have HRI := hdn (fun wz (hz : RowKit.Below w5.heap.size w5 wz) => right22_any g s wz hg hs (HL.out.below hz))
  have HHA := hdn (fun wz => has23_any g a wz)
  rw [hh] at HHA
  have HLO : Hid (∀ wz, RowKit.Below w5.heap.size w5 wz → Calls Tryd.prog 24 #[.slice g.fp g.F g.fc, .slice s.cp s.rs.length s.cc] wz fun e w' => ∃ v N, e = .returned (.agg #[.int .i64 g.F, v, .bool true]) ∧ Out g.F w' N v (s.rs.map RC.c) ∧ (∀ b, N b → wz.heap.size ≤ b) ∧ RowKit.Below wz.heap.size wz w') := hdn (fun wz hz => by
    have := refLoad_any g.F g.fc s.cc g.fp s.cp s.rs wz (HL.out.c.below hz (fun x h => RC.lies_below' h hz)) hg.F hs.n
    rw [hs.loaded] at this
    exact this)
  have CV := fun (x : Int) (wz : World) (hz : RowKit.Below w5.heap.size w5 wz) => qb_call (wB := wz) (F := 25) (ar := #[.slice s.vp s.vs.length s.vc, .int .i64 x]) (v := .int .i64 (atL s.vs x)) (fun wr hb' => (at25_any s.vp s.vs s.vc x wr ((HL.out.below hz).v.below hb')).mono (fun e w' he => ⟨he.1, same_below he.2⟩))
  have HVX := hdn (CV a.x)
  have HVY := hdn (CV a.y)
  have HFA := hdn (fun n wz (hz : RowKit.Below w5.heap.size w5 wz) => fails_any g.F s a n wz (HL.out.below hz) (by have := hs.vl; have := hg.V; omega) (by have := hs.il; have := hg.I; omega) hs.n hs.lens hg.F)
  have HPU : Hid (∀ v N wz B O t c x, D7 w w5 wz g s a O t B v N → 0 ≤ x ∧ x ≤ (s.rs.length : Int) → Calls Tryd.prog 29 #[.agg #[.int .i64 g.F, v, .bool true], .int .i64 c, .int .i64 a.f, .int .i64 x] wz (PutR g.F w5 O wz (putC g.F (s.rs.map RC.c) c a.f x) (faultC (s.rs.map RC.c) c))) := hdn (fun v N wz B O t c x h hx => (refPut_any g.F N _ v c a.f x wz h.heap hg.F (by rw [List.length_map]; exact hs.n)).mono (fun e w' hp => h.putr (Rt.oks (by rw [putC_len, List.length_map]; exact hs.n) (putC_ok hs.csok c a.f x (by rw [s.csl]; exact hx))) hp))
  have HAT := hdn (hs.at_ a.y)
  have HK := hdn hk
  clear CV hk
  clear hw5 hl hs hg hh hf
  go_enter Tryd.func8, Tryd.ntmps8
  go_upto_region 1 with fail
  rw [HW.out]
  clear HW
  go_upto_region 2 with (first
    | ((with_reducible show wpList _ _ _ (Oper.mk _ (Op.load 33 _) _ _ _ _ :: _) _ _); refine wpList_load_bk rfl 33 _ rfl (w.heap.size + 1) 33 s.A rfl _ HS5.out Tryd.underlying33 rfl size33 ?_)
    | (go_at_call 21; refine HC.out.mono ?_; rintro e w6 ⟨t, rfl, hs6, hv6, hb6⟩; have HT := hdn hs6; have HV := hdn hv6; have HB6 := hdn hb6; have HZ6 : Hid (Bk (w6.alloc (.cells #[.int .i64 0, .slice none 0 0, .slice none 0 0, .slice none 0 0] 33)) w6.heap.size 33 (stA 0 none 0 0 none 0 0 none 0 0)) := hdn (MapKept.heap_alloc w6 _).1; clear hs6 hv6 hb6)
    | ((with_reducible show wpList _ _ _ (Oper.mk none (Op.store 33 _ _) _ _ _ _ :: _) _ _); refine wpList_store_all rfl 33 _ _ rfl w6.heap.size 33 _ t.A rfl rfl HZ6.out size33 rfl (SV.A_one t) ?_; intro w7 h7 g7))
  have H6 : Hid (D6 w w5 w7 g s a w6.heap.size t) := hdn (D6.start HD.out HB6.out HV.out h7.out g7.out)
  clear h7 g7 HC HS5 HV HB6 HZ6
  generalize w6.heap.size = O at H6 ⊢
  have HG7 := hdn H6.out.d5.gr
  have HS7 := hdn H6.out.d5.st
  go_upto_region 4 with (first
    | ((with_reducible show wpList _ _ _ (Oper.mk (some 25) (Op.load 30 _) _ _ _ _ :: _) _ _); refine wpList_load_bk rfl 30 _ rfl w.heap.size 30 g.cs rfl _ HG7.out Tryd.underlying30 rfl size30 ?_)
    | ((with_reducible show wpList _ _ _ (Oper.mk (some 26) (Op.load 33 _) _ _ _ _ :: _) _ _); refine wpList_load_bk rfl 33 _ rfl (w.heap.size + 1) 33 s.A rfl _ HS7.out Tryd.underlying33 rfl size33 ?_)
    | (go_at_call 22; refine (HRI.out w7 H6.out.low).mono ?_; rintro e w8 ⟨rfl, hb8⟩; have H8 := hdn (H6.out.far' hb8); have HG8 := hdn H8.out.d5.gr; have HA8 := hdn H8.out.d5.ac; obtain ⟨c0, c1, c2, c3, c4, c5, c6, c7, c8, c9⟩ := G10.of HG8.out; obtain ⟨a0, a1, a2, a3, a4, a5, a6, a7, a8, a9, a10, a11⟩ := A12f.of HA8.out; clear hb8)
    | (go_at_call 23; refine (HHA.out w8).mono ?_; rintro e w9 ⟨rfl, hb9⟩; have H9 := hdn (H8.out.far' hb9); clear hb9))
  clear c0 c1 c2 c3 c4 c5 c6 c7 c8 c9 a0 a1 a2 a3 a4 a5 a6 a7 a8 a9 a10 a11 HG8 HA8 HRI HHA HG7 HS7 H8
  obtain ⟨_, _, _, _, _, _, _, _, _, c9⟩ := G10.of H9.out.d5.gr
  obtain ⟨_, _, _, s3⟩ := Z33.of H9.out.d5.st
  go_upto_region 5 with (first
    | (go_at_call 24; refine (HLO.out w9 H9.out.low).mono ?_; rintro e w10 ⟨v, N, rfl, hov, hnv, hbv⟩; have HOV := hdn hov; have HNV := hdn hnv; have HBV := hdn hbv; have HZ10 : Hid (Bk (w10.alloc (.cells #[.int .i64 0, .slice none 0 0, .bool false] 59)) w10.heap.size 59 #[.int .i64 0, .slice none 0 0, .bool false]) := hdn (MapKept.heap_alloc w10 _).1; have H1C : Hid ((#[.int .i64 g.F, v, .bool true] : Array Value).all (·.oneCell') = true) := hdn (Kin.Lie.oneA hov); clear hov hnv hbv)
    | ((with_reducible show wpList _ _ _ (Oper.mk none (Op.store 59 _ _) _ _ _ _ :: _) _ _); refine wpList_store_all rfl 59 _ _ rfl w10.heap.size 59 _ #[.int .i64 g.F, v, .bool true] rfl rfl HZ10.out size29 rfl H1C.out ?_; intro w11 h11 g11))
  have H7 : Hid (D7 w w5 w11 g s a O t w10.heap.size v N) := hdn (D7.start H9.out HBV.out HOV.out HNV.out h11.out g11.out)
  clear h11 g11 HOV HNV HBV HZ10 H1C c9 s3
  generalize w10.heap.size = B at H7 ⊢
  simp only [Act.put]
  obtain ⟨a0, a1, a2, a3, a4, a5, a6, a7, a8, a9, a10, a11⟩ := A12f.of H7.out.d6.d5.ac
  obtain ⟨s0, s1, s2, s3⟩ := Z33.of H7.out.d6.d5.st
  have cX := HVX.out w11 H7.out.d6.low
  have cY := HVY.out w11 H7.out.d6.low
  have p1 := cell_regrown a1; have p2 := cell_regrown a2; have p3 := cell_regrown s1
  refine wp_region_quiet_below (by kernel_rfl) (by kernel_rfl) ?_
  repeat (go_big_quiet_step (first | (with_reducible exact cX _ _) | (with_reducible exact cY _ _)))
  refine wpQuiet_nil ?_
  intro _ hw'
  obtain ⟨⟨dz, osz⟩, hw''⟩ := hw'
  subst hw''
  have H12 : Hid (D7 w w5 (grow (redrawn w11 dz) osz) g s a O t B v N) := hdn (H7.out.far' (below_regrown w11 dz osz))
  generalize grow (redrawn w11 dz) osz = w12 at H12 ⊢
  clear p1 p2 p3 cX cY a0 a1 a2 a3 a4 a5 a6 a7 a8 a9 a10 a11 s0 s1 s2 s3 H7 H9 HVX HVY HLO
  obtain ⟨a0, a1, a2, a3, a4, a5, a6, a7, a8, a9, a10, a11⟩ := A12f.of H12.out.d6.d5.ac
  obtain ⟨s0, s1, s2, s3⟩ := Z33.of H12.out.d6.d5.st
  rw [HK.out] at a0
  have HB12 := hdn H12.out.box
  have HGY := hdn (HPU.out v N w12 B O t (atL s.vs a.x) (atL s.vs a.y) H12.out (by rw [← s.csl]; exact HAT.out))
  generalize hcs : putC g.F (s.rs.map RC.c) (atL s.vs a.x) a.f (atL s.vs a.y) = cs1 at *
  clear hcs
  generalize faultC (s.rs.map RC.c) (atL s.vs a.x) = kk at *
  have hkk : (kk != 0) = true := by have := HF0.out; simpa using this
  clear HPU HAT
  go_upto_region 21 with (first
    | ((with_reducible show wpList _ _ _ (Oper.mk (some 103) (Op.load 59 _) _ _ _ _ :: _) _ _); refine wpList_load_bk rfl 59 _ rfl B 59 #[.int .i64 g.F, v, .bool true] rfl _ HB12.out Tryd.underlying59 rfl size29 ?_)
    | (go_at_call 29; refine HGY.out.mono ?_; rintro e w12b ⟨p1, cap1, rs1, rfl, hm1, hl1, hbz⟩; have H12b := hdn (H12.out.far' hbz.out); have HZ10 : Hid (Bk (w12b.alloc (.cells #[.int .i64 0, .slice none 0 0, .bool false] 59)) w12b.heap.size 59 #[.int .i64 0, .slice none 0 0, .bool false]) := hdn (MapKept.heap_alloc w12b _).1; have H1C : Hid ((#[.int .i64 g.F, .slice p1 rs1.length cap1, .bool true] : Array Value).all (·.oneCell') = true) := hdn (by simp [Value.oneCell']); clear hbz)
    | ((with_reducible show wpList _ _ _ (Oper.mk none (Op.store 59 _ _) _ _ _ _ :: _) _ _); refine wpList_store_all rfl 59 _ _ rfl w12b.heap.size 59 _ #[.int .i64 g.F, .slice p1 rs1.length cap1, .bool true] rfl rfl HZ10.out size29 rfl H1C.out ?_; intro w11b h11 g11))
  have hb13 : RowKit.Below w12b.heap.size w12b w11b := (alloc_below w12b _).grown g11.out (by simp) (fun j hj => by injection hj with hj; omega)
  have H13 := hdn (H12b.out.far' hb13)
  have HL13 := hdn (hl1.out.far hb13)
  clear g11 hl1 HZ10 H1C hb13 a0 a1 a2 a3 a4 a5 a6 a7 a8 a9 a10 a11 s0 s1 s2 s3
  clear h11 HL13
  have HS12 := hdn H13.out.d6.d5.st
  have HA12 := hdn H13.out.d6.d5.ac
  go_wp2_with (first
    | ((with_reducible show wpList _ _ _ (Oper.mk (some 113) (Op.load 33 _) _ _ _ _ :: _) _ _); refine wpList_load_bk rfl 33 _ rfl (w.heap.size + 1) 33 s.A rfl _ HS12.out Tryd.underlying33 rfl size33 ?_)
    | ((with_reducible show wpList _ _ _ (Oper.mk (some 114) (Op.load 43 _) _ _ _ _ :: _) _ _); refine wpList_load_bk rfl 43 _ rfl (w.heap.size + 1 + 1) 43 a.cs rfl _ HA12.out Tryd.underlying43 rfl size43 ?_)
    | (go_at_call 28; refine (HFA.out _ w11b H13.out.d6.low).mono ?_; rintro e w13 ⟨t2, rfl, hs2, hv2, hb2⟩; have HT2 := hdn hs2; have HV2 := hdn hv2; have H13z := hdn (H13.out.d6.d5.far hb2); have HR1 := hdn H13z.out.r1; have HR2 := hdn H13z.out.r2; clear hs2 hv2 hb2)
    | ((with_reducible show wpList _ _ _ (Oper.mk none (Op.store 33 _ _) _ _ _ _ :: _) _ _); refine wpList_store_all rfl 33 _ _ rfl (w.heap.size + 1 + 1 + 1) 33 _ t2.A rfl rfl HR1.out size33 rfl (SV.A_one _) ?_; intro w20 h20 g20; have HR3 := hdn ((Gr.of_grown g20.out).bk HR2.out (by intro h; injection h; omega)))
    | ((with_reducible show wpList _ _ _ (Oper.mk none (Op.store 37 _ _) _ _ _ _ :: _) _ _); refine wpList_store_all rfl 37 _ _ rfl (w.heap.size + 1 + 1 + 1 + 1) 37 _ (evA 3 a.pl kk) rfl rfl HR3.out size37 rfl (evA_one _ _ _) ?_; intro w21 h21 g21))
  have q1 : Bk w21 (w.heap.size + 1 + 1 + 1) 33 t2.A := (Gr.of_grown g21.out).bk h20.out (by intro h; injection h; omega)
  exact bodyPost_ret (results_two Tryd.results8 rfl rfl rfl rfl q1 h21.out) rfl (DoP.q (D5.finF H13.out.d6.d5.sz H13z.out HT2.out HV2.out g20.out g21.out))
theorem do8_5ok (g : GR) (s : SV) (a : Acn) (inp : Int) (w : World) (hg : Gok g) (hs : Rt g s) (hl : s.lies w) (hh : hasB g a = true) (hk : a.kind = 5) (hf : faultC (s.rs.map RC.c) (atL s.vs a.x) = 0) : Calls Tryd.prog 8 #[.agg g.cs, .agg s.A, .agg a.cs, .int .i64 inp] w (DoQ w s.pt s.vs s.is (putC g.F (s.rs.map RC.c) (atL s.vs a.x) a.f (atL s.vs a.y)) (evA 0 0 0)) := by
  have HF0 := hdn hf
  obtain ⟨w5, hw5⟩ : ∃ w5, ((((w.alloc (.cells g.cs 30)).alloc (.cells s.A 33)).alloc (.cells a.cs 43)).alloc (.cells (stA 0 none 0 0 none 0 0 none 0 0) 33)).alloc (.cells (evA 0 0 0) 37) = w5 := ⟨_, rfl⟩
  have HW : Hid (((((w.alloc (.cells g.cs 30)).alloc (.cells s.A 33)).alloc (.cells a.cs 43)).alloc (.cells #[.int .i64 0, .slice none 0 0, .slice none 0 0, .slice none 0 0] 33)).alloc (.cells #[.int .i64 0, .int .i64 0, .int .i64 0] 37) = w5) := hdn hw5
  have HD : Hid (D5 w w5 g s a) := hdn (by rw [← hw5]; exact D5.start w g s a)
  have HS5 := hdn HD.out.st
  have HL : Hid (s.lies w5) := hdn (hl.below HD.out.low)
  have HC := hdn (own21_any g.F s w5 HL.out (by have := hs.vl; have := hg.V; omega) (by have := hs.il; have := hg.I; omega) hs.n hs.lens hg.F)
  have HRI := hdn (fun wz (hz : RowKit.Below w5.heap.size w5 wz) => right22_any g s wz hg hs (HL.out.below hz))
  have HHA := hdn (fun wz => has23_any g a wz)
  rw [hh] at HHA
  have HLO : Hid (∀ wz, RowKit.Below w5.heap.size w5 wz → Calls Tryd.prog 24 #[.slice g.fp g.F g.fc, .slice s.cp s.rs.length s.cc] wz fun e w' => ∃ v N, e = .returned (.agg #[.int .i64 g.F, v, .bool true]) ∧ Out g.F w' N v (s.rs.map RC.c) ∧ (∀ b, N b → wz.heap.size ≤ b) ∧ RowKit.Below wz.heap.size wz w') := hdn (fun wz hz => by
    have := refLoad_any g.F g.fc s.cc g.fp s.cp s.rs wz (HL.out.c.below hz (fun x h => RC.lies_below' h hz)) hg.F hs.n
    rw [hs.loaded] at this
    exact this)
  have CV := fun (x : Int) (wz : World) (hz : RowKit.Below w5.heap.size w5 wz) => qb_call (wB := wz) (F := 25) (ar := #[.slice s.vp s.vs.length s.vc, .int .i64 x]) (v := .int .i64 (atL s.vs x)) (fun wr hb' => (at25_any s.vp s.vs s.vc x wr ((HL.out.below hz).v.below hb')).mono (fun e w' he => ⟨he.1, same_below he.2⟩))
  have HVX := hdn (CV a.x)
  have HVY := hdn (CV a.y)
  have HPU : Hid (∀ v N wz B O t c x, D7 w w5 wz g s a O t B v N → 0 ≤ x ∧ x ≤ (s.rs.length : Int) → Calls Tryd.prog 29 #[.agg #[.int .i64 g.F, v, .bool true], .int .i64 c, .int .i64 a.f, .int .i64 x] wz (PutR g.F w5 O wz (putC g.F (s.rs.map RC.c) c a.f x) (faultC (s.rs.map RC.c) c))) := hdn (fun v N wz B O t c x h hx => (refPut_any g.F N _ v c a.f x wz h.heap hg.F (by rw [List.length_map]; exact hs.n)).mono (fun e w' hp => h.putr (Rt.oks (by rw [putC_len, List.length_map]; exact hs.n) (putC_ok hs.csok c a.f x (by rw [s.csl]; exact hx))) hp))
  have HAT := hdn (hs.at_ a.y)
  have HK := hdn hk
  clear CV hk
  clear hw5 hl hs hg hh hf
  go_enter Tryd.func8, Tryd.ntmps8
  go_upto_region 1 with fail
  rw [HW.out]
  clear HW
  go_upto_region 2 with (first
    | ((with_reducible show wpList _ _ _ (Oper.mk _ (Op.load 33 _) _ _ _ _ :: _) _ _); refine wpList_load_bk rfl 33 _ rfl (w.heap.size + 1) 33 s.A rfl _ HS5.out Tryd.underlying33 rfl size33 ?_)
    | (go_at_call 21; refine HC.out.mono ?_; rintro e w6 ⟨t, rfl, hs6, hv6, hb6⟩; have HT := hdn hs6; have HV := hdn hv6; have HB6 := hdn hb6; have HZ6 : Hid (Bk (w6.alloc (.cells #[.int .i64 0, .slice none 0 0, .slice none 0 0, .slice none 0 0] 33)) w6.heap.size 33 (stA 0 none 0 0 none 0 0 none 0 0)) := hdn (MapKept.heap_alloc w6 _).1; clear hs6 hv6 hb6)
    | ((with_reducible show wpList _ _ _ (Oper.mk none (Op.store 33 _ _) _ _ _ _ :: _) _ _); refine wpList_store_all rfl 33 _ _ rfl w6.heap.size 33 _ t.A rfl rfl HZ6.out size33 rfl (SV.A_one t) ?_; intro w7 h7 g7))
  have H6 : Hid (D6 w w5 w7 g s a w6.heap.size t) := hdn (D6.start HD.out HB6.out HV.out h7.out g7.out)
  clear h7 g7 HC HS5 HV HB6 HZ6
  generalize w6.heap.size = O at H6 ⊢
  have HG7 := hdn H6.out.d5.gr
  have HS7 := hdn H6.out.d5.st
  go_upto_region 4 with (first
    | ((with_reducible show wpList _ _ _ (Oper.mk (some 25) (Op.load 30 _) _ _ _ _ :: _) _ _); refine wpList_load_bk rfl 30 _ rfl w.heap.size 30 g.cs rfl _ HG7.out Tryd.underlying30 rfl size30 ?_)
    | ((with_reducible show wpList _ _ _ (Oper.mk (some 26) (Op.load 33 _) _ _ _ _ :: _) _ _); refine wpList_load_bk rfl 33 _ rfl (w.heap.size + 1) 33 s.A rfl _ HS7.out Tryd.underlying33 rfl size33 ?_)
    | (go_at_call 22; refine (HRI.out w7 H6.out.low).mono ?_; rintro e w8 ⟨rfl, hb8⟩; have H8 := hdn (H6.out.far' hb8); have HG8 := hdn H8.out.d5.gr; have HA8 := hdn H8.out.d5.ac; obtain ⟨c0, c1, c2, c3, c4, c5, c6, c7, c8, c9⟩ := G10.of HG8.out; obtain ⟨a0, a1, a2, a3, a4, a5, a6, a7, a8, a9, a10, a11⟩ := A12f.of HA8.out; clear hb8)
    | (go_at_call 23; refine (HHA.out w8).mono ?_; rintro e w9 ⟨rfl, hb9⟩; have H9 := hdn (H8.out.far' hb9); clear hb9))
  clear c0 c1 c2 c3 c4 c5 c6 c7 c8 c9 a0 a1 a2 a3 a4 a5 a6 a7 a8 a9 a10 a11 HG8 HA8 HRI HHA HG7 HS7 H8
  obtain ⟨_, _, _, _, _, _, _, _, _, c9⟩ := G10.of H9.out.d5.gr
  obtain ⟨_, _, _, s3⟩ := Z33.of H9.out.d5.st
  go_upto_region 5 with (first
    | (go_at_call 24; refine (HLO.out w9 H9.out.low).mono ?_; rintro e w10 ⟨v, N, rfl, hov, hnv, hbv⟩; have HOV := hdn hov; have HNV := hdn hnv; have HBV := hdn hbv; have HZ10 : Hid (Bk (w10.alloc (.cells #[.int .i64 0, .slice none 0 0, .bool false] 59)) w10.heap.size 59 #[.int .i64 0, .slice none 0 0, .bool false]) := hdn (MapKept.heap_alloc w10 _).1; have H1C : Hid ((#[.int .i64 g.F, v, .bool true] : Array Value).all (·.oneCell') = true) := hdn (Kin.Lie.oneA hov); clear hov hnv hbv)
    | ((with_reducible show wpList _ _ _ (Oper.mk none (Op.store 59 _ _) _ _ _ _ :: _) _ _); refine wpList_store_all rfl 59 _ _ rfl w10.heap.size 59 _ #[.int .i64 g.F, v, .bool true] rfl rfl HZ10.out size29 rfl H1C.out ?_; intro w11 h11 g11))
  have H7 : Hid (D7 w w5 w11 g s a O t w10.heap.size v N) := hdn (D7.start H9.out HBV.out HOV.out HNV.out h11.out g11.out)
  clear h11 g11 HOV HNV HBV HZ10 H1C c9 s3
  generalize w10.heap.size = B at H7 ⊢
  simp only [Act.put]
  obtain ⟨a0, a1, a2, a3, a4, a5, a6, a7, a8, a9, a10, a11⟩ := A12f.of H7.out.d6.d5.ac
  obtain ⟨s0, s1, s2, s3⟩ := Z33.of H7.out.d6.d5.st
  have cX := HVX.out w11 H7.out.d6.low
  have cY := HVY.out w11 H7.out.d6.low
  have p1 := cell_regrown a1; have p2 := cell_regrown a2; have p3 := cell_regrown s1
  refine wp_region_quiet_below (by kernel_rfl) (by kernel_rfl) ?_
  repeat (go_big_quiet_step (first | (with_reducible exact cX _ _) | (with_reducible exact cY _ _)))
  refine wpQuiet_nil ?_
  intro _ hw'
  obtain ⟨⟨dz, osz⟩, hw''⟩ := hw'
  subst hw''
  have H12 : Hid (D7 w w5 (grow (redrawn w11 dz) osz) g s a O t B v N) := hdn (H7.out.far' (below_regrown w11 dz osz))
  generalize grow (redrawn w11 dz) osz = w12 at H12 ⊢
  clear p1 p2 p3 cX cY a0 a1 a2 a3 a4 a5 a6 a7 a8 a9 a10 a11 s0 s1 s2 s3 H7 H9 HVX HVY HLO
  obtain ⟨a0, a1, a2, a3, a4, a5, a6, a7, a8, a9, a10, a11⟩ := A12f.of H12.out.d6.d5.ac
  obtain ⟨s0, s1, s2, s3⟩ := Z33.of H12.out.d6.d5.st
  rw [HK.out] at a0
  have HB12 := hdn H12.out.box
  have HGY := hdn (HPU.out v N w12 B O t (atL s.vs a.x) (atL s.vs a.y) H12.out (by rw [← s.csl]; exact HAT.out))
  generalize hcs : putC g.F (s.rs.map RC.c) (atL s.vs a.x) a.f (atL s.vs a.y) = cs1 at *
  clear hcs
  generalize faultC (s.rs.map RC.c) (atL s.vs a.x) = kk at *
  have hkk : (kk != 0) = false := by have := HF0.out; simpa using this
  clear HPU HAT
  go_upto_region 21 with (first
    | ((with_reducible show wpList _ _ _ (Oper.mk (some 103) (Op.load 59 _) _ _ _ _ :: _) _ _); refine wpList_load_bk rfl 59 _ rfl B 59 #[.int .i64 g.F, v, .bool true] rfl _ HB12.out Tryd.underlying59 rfl size29 ?_)
    | (go_at_call 29; refine HGY.out.mono ?_; rintro e w12b ⟨p1, cap1, rs1, rfl, hm1, hl1, hbz⟩; have H12b := hdn (H12.out.far' hbz.out); have HZ10 : Hid (Bk (w12b.alloc (.cells #[.int .i64 0, .slice none 0 0, .bool false] 59)) w12b.heap.size 59 #[.int .i64 0, .slice none 0 0, .bool false]) := hdn (MapKept.heap_alloc w12b _).1; have H1C : Hid ((#[.int .i64 g.F, .slice p1 rs1.length cap1, .bool true] : Array Value).all (·.oneCell') = true) := hdn (by simp [Value.oneCell']); clear hbz)
    | ((with_reducible show wpList _ _ _ (Oper.mk none (Op.store 59 _ _) _ _ _ _ :: _) _ _); refine wpList_store_all rfl 59 _ _ rfl w12b.heap.size 59 _ #[.int .i64 g.F, .slice p1 rs1.length cap1, .bool true] rfl rfl HZ10.out size29 rfl H1C.out ?_; intro w11b h11 g11))
  have hb13 : RowKit.Below w12b.heap.size w12b w11b := (alloc_below w12b _).grown g11.out (by simp) (fun j hj => by injection hj with hj; omega)
  have H13 := hdn (H12b.out.far' hb13)
  have HL13 := hdn (hl1.out.far hb13)
  clear g11 hl1 HZ10 H1C hb13 a0 a1 a2 a3 a4 a5 a6 a7 a8 a9 a10 a11 s0 s1 s2 s3
  have c1 : w11b.cell? ⟨w12b.heap.size, 1, none⟩ = some (.slice p1 rs1.length cap1) := h11.out.cell 1
  have f13 := H13.out.d6.out.frozen 3
  have g13 : w11b.cell? ⟨O, 3, none⟩ = some (.slice t.cp t.rs.length t.cc) := H13.out.d6.out.cell 3
  have H14 := hdn (H13.out.d6.putc (cap := cap1) HD.out.sz HL13.out)
  have HM1 := hm1
  clear h11 hm1
  go_upto_region 46 with fail
  clear c1 f13 g13
  generalize w11b.setCell ⟨O, 3, none⟩ (.slice p1 rs1.length cap1) = w14 at H14 ⊢
  have HO14 := hdn H14.out.out
  have HR1 := hdn H14.out.d5.r1
  have HR2 := hdn H14.out.d5.r2
  go_wp2_with (first
    | ((with_reducible show wpList _ _ _ (Oper.mk (some 221) (Op.load 33 _) _ _ _ _ :: _) _ _); refine wpList_load_bk rfl 33 _ rfl O 33 ({ t with cp := p1, rs := rs1, cc := cap1 } : SV).A rfl _ HO14.out Tryd.underlying33 rfl size33 ?_)
    | ((with_reducible show wpList _ _ _ (Oper.mk none (Op.store 33 _ _) _ _ _ _ :: _) _ _); refine wpList_store_all rfl 33 _ _ rfl (w.heap.size + 1 + 1 + 1) 33 _ ({ t with cp := p1, rs := rs1, cc := cap1 } : SV).A rfl rfl HR1.out size33 rfl (SV.A_one _) ?_; intro w20 h20 g20; have HR3 := hdn ((Gr.of_grown g20.out).bk HR2.out (by intro h; injection h; omega)))
    | ((with_reducible show wpList _ _ _ (Oper.mk none (Op.store 37 _ _) _ _ _ _ :: _) _ _); refine wpList_store_all rfl 37 _ _ rfl (w.heap.size + 1 + 1 + 1 + 1) 37 _ (evA 0 0 0) rfl rfl HR3.out size37 rfl (evA_one _ _ _) ?_; intro w21 h21 g21))
  have q1 : Bk w21 (w.heap.size + 1 + 1 + 1) 33 ({ t with cp := p1, rs := rs1, cc := cap1 } : SV).A := (Gr.of_grown g21.out).bk h20.out (by intro h; injection h; omega)
  exact bodyPost_ret (results_two Tryd.results8 rfl rfl rfl rfl q1 h21.out) rfl (D6.finQ HD.out.sz H14.out ⟨HT.out.pt.symm, HT.out.vs.symm, HT.out.is.symm, HM1.out⟩ g20.out g21.out)
end Go.Proofs.YtebmhadpkncgfaaDoor
namespace Go.Proofs.YtebmhadpkncgfaaDoor
open Go.RowKit Go.Maps Go.Sort
open Aw.Ac (Acn Opd)
theorem D6.finG {w w5 wr W : World} {g : GR} {s : SV} {a : Acn} {O : Nat} {t : SV} {ev : Array Value} {pt : Int} {vs is : List Int} {cs : List PC} (h5 : w.heap.size + 5 ≤ w5.heap.size) (h : D6 w w5 wr g s a O t) (hs : t.pt = pt ∧ t.vs = vs ∧ t.is = is ∧ t.cs = cs) (hg : Gr wr W (fun k => k = w.heap.size + 1 + 1 + 1 ∨ k = w.heap.size + 1 + 1 + 1 + 1)) :
    DoQ w pt vs is cs ev (.returned (.tuple #[.agg t.A, .agg ev])) W := by
  have hz := h.d5.low.size
  refine ⟨t, rfl, hs, fun w'' h'' => h.lies w'' ((hg.mono (fun k _ h => by omega)).trans (h''.mono (fun k _ h => by omega))), h.d5.low.trans (hg.below hz (fun k h => by omega))⟩
/-- The result's blocks, and what else the end of a deed reads. -/
theorem D6.tail {w w5 wr : World} {g : GR} {s : SV} {a : Acn} {O : Nat} {t : SV} (h5 : w.heap.size + 5 ≤ w5.heap.size) (h : D6 w w5 wr g s a O t) : ∀ w', Gr wr w' (fun i => i = w.heap.size + 1 + 1 + 1 ∨ i = w.heap.size + 1 + 1 + 1 + 1) →
    w'.cell? ⟨O, 0, none⟩ = some (.int .i64 t.pt) ∧ w'.cell? ⟨O, 1, none⟩ = some (.slice t.vp t.vs.length t.vc) ∧ w'.cell? ⟨O, 2, none⟩ = some (.slice t.ip t.is.length t.ic) ∧ w'.cell? ⟨O, 3, none⟩ = some (.slice t.cp t.rs.length t.cc) ∧ w'.cell? ⟨w.heap.size + 1 + 1, 5, none⟩ = some (.int .i64 a.pl) := fun w' hz => by
  have hf := h.far
  have h1 := hz.bk h.out (by omega)
  have h2 := hz.bk h.d5.ac (by omega)
  exact ⟨h1.cell 0, h1.cell 1, h1.cell 2, h1.cell 3, h2.cell 5⟩
theorem Nw.other {w w3 w4 : World} {g O : Nat} {l : List Int} (h : Nw w w3 g l) (hg : Gr w3 w4 (fun k => k = O)) (h1 : w.heap.size ≤ O) (h2 : g ≠ O) : Nw w w4 g l := by
  obtain ⟨cr, b1, b2⟩ := h.row
  exact ⟨h.below.trans (hg.below h.below.size (fun k e => by subst e; exact h1)), h.lo, cr, hg.bk b1 h2, b2⟩
theorem do8_7no (g : GR) (s : SV) (a : Acn) (inp : Int) (w : World) (hg : Gok g) (hs : Rt g s) (hl : s.lies w) (hh : hasB g a = true) (hk : a.kind = 7) (hf : freeE (s.rs.map RC.c) (atL s.vs a.x) ≠ 0) : Calls Tryd.prog 8 #[.agg g.cs, .agg s.A, .agg a.cs, .int .i64 inp] w (DoQ w s.pt s.vs s.is s.cs (evA 3 a.pl (freeE (s.rs.map RC.c) (atL s.vs a.x)))) := by
  have HF0 := hdn hf
  obtain ⟨w5, hw5⟩ : ∃ w5, ((((w.alloc (.cells g.cs 30)).alloc (.cells s.A 33)).alloc (.cells a.cs 43)).alloc (.cells (stA 0 none 0 0 none 0 0 none 0 0) 33)).alloc (.cells (evA 0 0 0) 37) = w5 := ⟨_, rfl⟩
  have HW : Hid (((((w.alloc (.cells g.cs 30)).alloc (.cells s.A 33)).alloc (.cells a.cs 43)).alloc (.cells #[.int .i64 0, .slice none 0 0, .slice none 0 0, .slice none 0 0] 33)).alloc (.cells #[.int .i64 0, .int .i64 0, .int .i64 0] 37) = w5) := hdn hw5
  have HD : Hid (D5 w w5 g s a) := hdn (by rw [← hw5]; exact D5.start w g s a)
  have HS5 := hdn HD.out.st
  have HL : Hid (s.lies w5) := hdn (hl.below HD.out.low)
  have HC := hdn (own21_any g.F s w5 HL.out (by have := hs.vl; have := hg.V; omega) (by have := hs.il; have := hg.I; omega) hs.n hs.lens hg.F)
  have HRI := hdn (fun wz (hz : RowKit.Below w5.heap.size w5 wz) => right22_any g s wz hg hs (HL.out.below hz))
  have HHA := hdn (fun wz => has23_any g a wz)
  rw [hh] at HHA
  have HLO : Hid (∀ wz, RowKit.Below w5.heap.size w5 wz → Calls Tryd.prog 24 #[.slice g.fp g.F g.fc, .slice s.cp s.rs.length s.cc] wz fun e w' => ∃ v N, e = .returned (.agg #[.int .i64 g.F, v, .bool true]) ∧ Out g.F w' N v (s.rs.map RC.c) ∧ (∀ b, N b → wz.heap.size ≤ b) ∧ RowKit.Below wz.heap.size wz w') := hdn (fun wz hz => by
    have := refLoad_any g.F g.fc s.cc g.fp s.cp s.rs wz (HL.out.c.below hz (fun x h => RC.lies_below' h hz)) hg.F hs.n
    rw [hs.loaded] at this
    exact this)
  have CV := fun (x : Int) (wz : World) (hz : RowKit.Below w5.heap.size w5 wz) => qb_call (wB := wz) (F := 25) (ar := #[.slice s.vp s.vs.length s.vc, .int .i64 x]) (v := .int .i64 (atL s.vs x)) (fun wr hb' => (at25_any s.vp s.vs s.vc x wr ((HL.out.below hz).v.below hb')).mono (fun e w' he => ⟨he.1, same_below he.2⟩))
  have HVX := hdn (CV a.x)
  have HVY := hdn (CV a.y)
  have HFA := hdn (fun n wz (hz : RowKit.Below w5.heap.size w5 wz) => fails_any g.F s a n wz (HL.out.below hz) (by have := hs.vl; have := hg.V; omega) (by have := hs.il; have := hg.I; omega) hs.n hs.lens hg.F)
  have HPU : Hid (∀ v N wz B O t c, D7 w w5 wz g s a O t B v N → Calls Tryd.prog 31 #[.agg #[.int .i64 g.F, v, .bool true], .int .i64 c] wz (PutR g.F w5 O wz (freeC g.F (s.rs.map RC.c) c) (freeE (s.rs.map RC.c) c))) := hdn (fun v N wz B O t c h => (refFree_any g.F N _ v c wz h.heap hg.F (by rw [List.length_map]; exact hs.n)).mono (fun e w' hp => h.putr (Rt.oks (by rw [freeC_len, List.length_map]; exact hs.n) (freeC_ok hs.csok c)) hp))
  have HK := hdn hk
  clear CV hk
  clear hw5 hl hs hg hh hf
  go_enter Tryd.func8, Tryd.ntmps8
  go_upto_region 1 with fail
  rw [HW.out]
  clear HW
  go_upto_region 2 with (first
    | ((with_reducible show wpList _ _ _ (Oper.mk _ (Op.load 33 _) _ _ _ _ :: _) _ _); refine wpList_load_bk rfl 33 _ rfl (w.heap.size + 1) 33 s.A rfl _ HS5.out Tryd.underlying33 rfl size33 ?_)
    | (go_at_call 21; refine HC.out.mono ?_; rintro e w6 ⟨t, rfl, hs6, hv6, hb6⟩; have HT := hdn hs6; have HV := hdn hv6; have HB6 := hdn hb6; have HZ6 : Hid (Bk (w6.alloc (.cells #[.int .i64 0, .slice none 0 0, .slice none 0 0, .slice none 0 0] 33)) w6.heap.size 33 (stA 0 none 0 0 none 0 0 none 0 0)) := hdn (MapKept.heap_alloc w6 _).1; clear hs6 hv6 hb6)
    | ((with_reducible show wpList _ _ _ (Oper.mk none (Op.store 33 _ _) _ _ _ _ :: _) _ _); refine wpList_store_all rfl 33 _ _ rfl w6.heap.size 33 _ t.A rfl rfl HZ6.out size33 rfl (SV.A_one t) ?_; intro w7 h7 g7))
  have H6 : Hid (D6 w w5 w7 g s a w6.heap.size t) := hdn (D6.start HD.out HB6.out HV.out h7.out g7.out)
  clear h7 g7 HC HS5 HV HB6 HZ6
  generalize w6.heap.size = O at H6 ⊢
  have HG7 := hdn H6.out.d5.gr
  have HS7 := hdn H6.out.d5.st
  go_upto_region 4 with (first
    | ((with_reducible show wpList _ _ _ (Oper.mk (some 25) (Op.load 30 _) _ _ _ _ :: _) _ _); refine wpList_load_bk rfl 30 _ rfl w.heap.size 30 g.cs rfl _ HG7.out Tryd.underlying30 rfl size30 ?_)
    | ((with_reducible show wpList _ _ _ (Oper.mk (some 26) (Op.load 33 _) _ _ _ _ :: _) _ _); refine wpList_load_bk rfl 33 _ rfl (w.heap.size + 1) 33 s.A rfl _ HS7.out Tryd.underlying33 rfl size33 ?_)
    | (go_at_call 22; refine (HRI.out w7 H6.out.low).mono ?_; rintro e w8 ⟨rfl, hb8⟩; have H8 := hdn (H6.out.far' hb8); have HG8 := hdn H8.out.d5.gr; have HA8 := hdn H8.out.d5.ac; obtain ⟨c0, c1, c2, c3, c4, c5, c6, c7, c8, c9⟩ := G10.of HG8.out; obtain ⟨a0, a1, a2, a3, a4, a5, a6, a7, a8, a9, a10, a11⟩ := A12f.of HA8.out; clear hb8)
    | (go_at_call 23; refine (HHA.out w8).mono ?_; rintro e w9 ⟨rfl, hb9⟩; have H9 := hdn (H8.out.far' hb9); clear hb9))
  clear c0 c1 c2 c3 c4 c5 c6 c7 c8 c9 a0 a1 a2 a3 a4 a5 a6 a7 a8 a9 a10 a11 HG8 HA8 HRI HHA HG7 HS7 H8
  obtain ⟨_, _, _, _, _, _, _, _, _, c9⟩ := G10.of H9.out.d5.gr
  obtain ⟨_, _, _, s3⟩ := Z33.of H9.out.d5.st
  go_upto_region 5 with (first
    | (go_at_call 24; refine (HLO.out w9 H9.out.low).mono ?_; rintro e w10 ⟨v, N, rfl, hov, hnv, hbv⟩; have HOV := hdn hov; have HNV := hdn hnv; have HBV := hdn hbv; have HZ10 : Hid (Bk (w10.alloc (.cells #[.int .i64 0, .slice none 0 0, .bool false] 59)) w10.heap.size 59 #[.int .i64 0, .slice none 0 0, .bool false]) := hdn (MapKept.heap_alloc w10 _).1; have H1C : Hid ((#[.int .i64 g.F, v, .bool true] : Array Value).all (·.oneCell') = true) := hdn (Kin.Lie.oneA hov); clear hov hnv hbv)
    | ((with_reducible show wpList _ _ _ (Oper.mk none (Op.store 59 _ _) _ _ _ _ :: _) _ _); refine wpList_store_all rfl 59 _ _ rfl w10.heap.size 59 _ #[.int .i64 g.F, v, .bool true] rfl rfl HZ10.out size29 rfl H1C.out ?_; intro w11 h11 g11))
  have H7 : Hid (D7 w w5 w11 g s a O t w10.heap.size v N) := hdn (D7.start H9.out HBV.out HOV.out HNV.out h11.out g11.out)
  clear h11 g11 HOV HNV HBV HZ10 H1C c9 s3
  generalize w10.heap.size = B at H7 ⊢
  simp only [Act.put]
  obtain ⟨a0, a1, a2, a3, a4, a5, a6, a7, a8, a9, a10, a11⟩ := A12f.of H7.out.d6.d5.ac
  obtain ⟨s0, s1, s2, s3⟩ := Z33.of H7.out.d6.d5.st
  have cX := HVX.out w11 H7.out.d6.low
  have cY := HVY.out w11 H7.out.d6.low
  have p1 := cell_regrown a1; have p2 := cell_regrown a2; have p3 := cell_regrown s1
  refine wp_region_quiet_below (by kernel_rfl) (by kernel_rfl) ?_
  repeat (go_big_quiet_step (first | (with_reducible exact cX _ _) | (with_reducible exact cY _ _)))
  refine wpQuiet_nil ?_
  intro _ hw'
  obtain ⟨⟨dz, osz⟩, hw''⟩ := hw'
  subst hw''
  have H12 : Hid (D7 w w5 (grow (redrawn w11 dz) osz) g s a O t B v N) := hdn (H7.out.far' (below_regrown w11 dz osz))
  generalize grow (redrawn w11 dz) osz = w12 at H12 ⊢
  clear p1 p2 p3 cX cY a0 a1 a2 a3 a4 a5 a6 a7 a8 a9 a10 a11 s0 s1 s2 s3 H7 H9 HVX HVY HLO
  obtain ⟨a0, a1, a2, a3, a4, a5, a6, a7, a8, a9, a10, a11⟩ := A12f.of H12.out.d6.d5.ac
  obtain ⟨s0, s1, s2, s3⟩ := Z33.of H12.out.d6.d5.st
  rw [HK.out] at a0
  have HB12 := hdn H12.out.box
  have HGY := hdn (HPU.out v N w12 B O t (atL s.vs a.x) H12.out)
  generalize hcs : freeC g.F (s.rs.map RC.c) (atL s.vs a.x) = cs1 at *
  clear hcs
  generalize freeE (s.rs.map RC.c) (atL s.vs a.x) = kk at *
  have hkk : (kk != 0) = true := by have := HF0.out; simpa using this
  clear HPU
  go_upto_region 33 with (first
    | ((with_reducible show wpList _ _ _ (Oper.mk (some 160) (Op.load 59 _) _ _ _ _ :: _) _ _); refine wpList_load_bk rfl 59 _ rfl B 59 #[.int .i64 g.F, v, .bool true] rfl _ HB12.out Tryd.underlying59 rfl size29 ?_)
    | (go_at_call 31; refine HGY.out.mono ?_; rintro e w12b ⟨p1, cap1, rs1, rfl, hm1, hl1, hbz⟩; have H12b := hdn (H12.out.far' hbz.out); have HZ10 : Hid (Bk (w12b.alloc (.cells #[.int .i64 0, .slice none 0 0, .bool false] 59)) w12b.heap.size 59 #[.int .i64 0, .slice none 0 0, .bool false]) := hdn (MapKept.heap_alloc w12b _).1; have H1C : Hid ((#[.int .i64 g.F, .slice p1 rs1.length cap1, .bool true] : Array Value).all (·.oneCell') = true) := hdn (by simp [Value.oneCell']); clear hbz)
    | ((with_reducible show wpList _ _ _ (Oper.mk none (Op.store 59 _ _) _ _ _ _ :: _) _ _); refine wpList_store_all rfl 59 _ _ rfl w12b.heap.size 59 _ #[.int .i64 g.F, .slice p1 rs1.length cap1, .bool true] rfl rfl HZ10.out size29 rfl H1C.out ?_; intro w11b h11 g11))
  have hb13 : RowKit.Below w12b.heap.size w12b w11b := (alloc_below w12b _).grown g11.out (by simp) (fun j hj => by injection hj with hj; omega)
  have H13 := hdn (H12b.out.far' hb13)
  have HL13 := hdn (hl1.out.far hb13)
  clear g11 hl1 HZ10 H1C hb13 a0 a1 a2 a3 a4 a5 a6 a7 a8 a9 a10 a11 s0 s1 s2 s3
  clear h11 HL13
  have HS12 := hdn H13.out.d6.d5.st
  have HA12 := hdn H13.out.d6.d5.ac
  go_wp2_with (first
    | ((with_reducible show wpList _ _ _ (Oper.mk (some 167) (Op.load 33 _) _ _ _ _ :: _) _ _); refine wpList_load_bk rfl 33 _ rfl (w.heap.size + 1) 33 s.A rfl _ HS12.out Tryd.underlying33 rfl size33 ?_)
    | ((with_reducible show wpList _ _ _ (Oper.mk (some 168) (Op.load 43 _) _ _ _ _ :: _) _ _); refine wpList_load_bk rfl 43 _ rfl (w.heap.size + 1 + 1) 43 a.cs rfl _ HA12.out Tryd.underlying43 rfl size43 ?_)
    | (go_at_call 28; refine (HFA.out _ w11b H13.out.d6.low).mono ?_; rintro e w13 ⟨t2, rfl, hs2, hv2, hb2⟩; have HT2 := hdn hs2; have HV2 := hdn hv2; have H13z := hdn (H13.out.d6.d5.far hb2); have HR1 := hdn H13z.out.r1; have HR2 := hdn H13z.out.r2; clear hs2 hv2 hb2)
    | ((with_reducible show wpList _ _ _ (Oper.mk none (Op.store 33 _ _) _ _ _ _ :: _) _ _); refine wpList_store_all rfl 33 _ _ rfl (w.heap.size + 1 + 1 + 1) 33 _ t2.A rfl rfl HR1.out size33 rfl (SV.A_one _) ?_; intro w20 h20 g20; have HR3 := hdn ((Gr.of_grown g20.out).bk HR2.out (by intro h; injection h; omega)))
    | ((with_reducible show wpList _ _ _ (Oper.mk none (Op.store 37 _ _) _ _ _ _ :: _) _ _); refine wpList_store_all rfl 37 _ _ rfl (w.heap.size + 1 + 1 + 1 + 1) 37 _ (evA 3 a.pl kk) rfl rfl HR3.out size37 rfl (evA_one _ _ _) ?_; intro w21 h21 g21))
  have q1 : Bk w21 (w.heap.size + 1 + 1 + 1) 33 t2.A := (Gr.of_grown g21.out).bk h20.out (by intro h; injection h; omega)
  exact bodyPost_ret (results_two Tryd.results8 rfl rfl rfl rfl q1 h21.out) rfl (DoP.q (D5.finF H13.out.d6.d5.sz H13z.out HT2.out HV2.out g20.out g21.out))
theorem do8_7ok (g : GR) (s : SV) (a : Acn) (inp : Int) (w : World) (hg : Gok g) (hs : Rt g s) (hl : s.lies w) (hh : hasB g a = true) (hk : a.kind = 7) (hf : freeE (s.rs.map RC.c) (atL s.vs a.x) = 0) : Calls Tryd.prog 8 #[.agg g.cs, .agg s.A, .agg a.cs, .int .i64 inp] w (DoQ w s.pt s.vs s.is (freeC g.F (s.rs.map RC.c) (atL s.vs a.x)) (evA 2 a.pl (atL s.vs a.x))) := by
  have HF0 := hdn hf
  obtain ⟨w5, hw5⟩ : ∃ w5, ((((w.alloc (.cells g.cs 30)).alloc (.cells s.A 33)).alloc (.cells a.cs 43)).alloc (.cells (stA 0 none 0 0 none 0 0 none 0 0) 33)).alloc (.cells (evA 0 0 0) 37) = w5 := ⟨_, rfl⟩
  have HW : Hid (((((w.alloc (.cells g.cs 30)).alloc (.cells s.A 33)).alloc (.cells a.cs 43)).alloc (.cells #[.int .i64 0, .slice none 0 0, .slice none 0 0, .slice none 0 0] 33)).alloc (.cells #[.int .i64 0, .int .i64 0, .int .i64 0] 37) = w5) := hdn hw5
  have HD : Hid (D5 w w5 g s a) := hdn (by rw [← hw5]; exact D5.start w g s a)
  have HS5 := hdn HD.out.st
  have HL : Hid (s.lies w5) := hdn (hl.below HD.out.low)
  have HC := hdn (own21_any g.F s w5 HL.out (by have := hs.vl; have := hg.V; omega) (by have := hs.il; have := hg.I; omega) hs.n hs.lens hg.F)
  have HRI := hdn (fun wz (hz : RowKit.Below w5.heap.size w5 wz) => right22_any g s wz hg hs (HL.out.below hz))
  have HHA := hdn (fun wz => has23_any g a wz)
  rw [hh] at HHA
  have HLO : Hid (∀ wz, RowKit.Below w5.heap.size w5 wz → Calls Tryd.prog 24 #[.slice g.fp g.F g.fc, .slice s.cp s.rs.length s.cc] wz fun e w' => ∃ v N, e = .returned (.agg #[.int .i64 g.F, v, .bool true]) ∧ Out g.F w' N v (s.rs.map RC.c) ∧ (∀ b, N b → wz.heap.size ≤ b) ∧ RowKit.Below wz.heap.size wz w') := hdn (fun wz hz => by
    have := refLoad_any g.F g.fc s.cc g.fp s.cp s.rs wz (HL.out.c.below hz (fun x h => RC.lies_below' h hz)) hg.F hs.n
    rw [hs.loaded] at this
    exact this)
  have CV := fun (x : Int) (wz : World) (hz : RowKit.Below w5.heap.size w5 wz) => qb_call (wB := wz) (F := 25) (ar := #[.slice s.vp s.vs.length s.vc, .int .i64 x]) (v := .int .i64 (atL s.vs x)) (fun wr hb' => (at25_any s.vp s.vs s.vc x wr ((HL.out.below hz).v.below hb')).mono (fun e w' he => ⟨he.1, same_below he.2⟩))
  have HVX := hdn (CV a.x)
  have HVY := hdn (CV a.y)
  have HPU : Hid (∀ v N wz B O t c, D7 w w5 wz g s a O t B v N → Calls Tryd.prog 31 #[.agg #[.int .i64 g.F, v, .bool true], .int .i64 c] wz (PutR g.F w5 O wz (freeC g.F (s.rs.map RC.c) c) (freeE (s.rs.map RC.c) c))) := hdn (fun v N wz B O t c h => (refFree_any g.F N _ v c wz h.heap hg.F (by rw [List.length_map]; exact hs.n)).mono (fun e w' hp => h.putr (Rt.oks (by rw [freeC_len, List.length_map]; exact hs.n) (freeC_ok hs.csok c)) hp))
  have HK := hdn hk
  clear CV hk
  clear hw5 hl hs hg hh hf
  go_enter Tryd.func8, Tryd.ntmps8
  go_upto_region 1 with fail
  rw [HW.out]
  clear HW
  go_upto_region 2 with (first
    | ((with_reducible show wpList _ _ _ (Oper.mk _ (Op.load 33 _) _ _ _ _ :: _) _ _); refine wpList_load_bk rfl 33 _ rfl (w.heap.size + 1) 33 s.A rfl _ HS5.out Tryd.underlying33 rfl size33 ?_)
    | (go_at_call 21; refine HC.out.mono ?_; rintro e w6 ⟨t, rfl, hs6, hv6, hb6⟩; have HT := hdn hs6; have HV := hdn hv6; have HB6 := hdn hb6; have HZ6 : Hid (Bk (w6.alloc (.cells #[.int .i64 0, .slice none 0 0, .slice none 0 0, .slice none 0 0] 33)) w6.heap.size 33 (stA 0 none 0 0 none 0 0 none 0 0)) := hdn (MapKept.heap_alloc w6 _).1; clear hs6 hv6 hb6)
    | ((with_reducible show wpList _ _ _ (Oper.mk none (Op.store 33 _ _) _ _ _ _ :: _) _ _); refine wpList_store_all rfl 33 _ _ rfl w6.heap.size 33 _ t.A rfl rfl HZ6.out size33 rfl (SV.A_one t) ?_; intro w7 h7 g7))
  have H6 : Hid (D6 w w5 w7 g s a w6.heap.size t) := hdn (D6.start HD.out HB6.out HV.out h7.out g7.out)
  clear h7 g7 HC HS5 HV HB6 HZ6
  generalize w6.heap.size = O at H6 ⊢
  have HG7 := hdn H6.out.d5.gr
  have HS7 := hdn H6.out.d5.st
  go_upto_region 4 with (first
    | ((with_reducible show wpList _ _ _ (Oper.mk (some 25) (Op.load 30 _) _ _ _ _ :: _) _ _); refine wpList_load_bk rfl 30 _ rfl w.heap.size 30 g.cs rfl _ HG7.out Tryd.underlying30 rfl size30 ?_)
    | ((with_reducible show wpList _ _ _ (Oper.mk (some 26) (Op.load 33 _) _ _ _ _ :: _) _ _); refine wpList_load_bk rfl 33 _ rfl (w.heap.size + 1) 33 s.A rfl _ HS7.out Tryd.underlying33 rfl size33 ?_)
    | (go_at_call 22; refine (HRI.out w7 H6.out.low).mono ?_; rintro e w8 ⟨rfl, hb8⟩; have H8 := hdn (H6.out.far' hb8); have HG8 := hdn H8.out.d5.gr; have HA8 := hdn H8.out.d5.ac; obtain ⟨c0, c1, c2, c3, c4, c5, c6, c7, c8, c9⟩ := G10.of HG8.out; obtain ⟨a0, a1, a2, a3, a4, a5, a6, a7, a8, a9, a10, a11⟩ := A12f.of HA8.out; clear hb8)
    | (go_at_call 23; refine (HHA.out w8).mono ?_; rintro e w9 ⟨rfl, hb9⟩; have H9 := hdn (H8.out.far' hb9); clear hb9))
  clear c0 c1 c2 c3 c4 c5 c6 c7 c8 c9 a0 a1 a2 a3 a4 a5 a6 a7 a8 a9 a10 a11 HG8 HA8 HRI HHA HG7 HS7 H8
  obtain ⟨_, _, _, _, _, _, _, _, _, c9⟩ := G10.of H9.out.d5.gr
  obtain ⟨_, _, _, s3⟩ := Z33.of H9.out.d5.st
  go_upto_region 5 with (first
    | (go_at_call 24; refine (HLO.out w9 H9.out.low).mono ?_; rintro e w10 ⟨v, N, rfl, hov, hnv, hbv⟩; have HOV := hdn hov; have HNV := hdn hnv; have HBV := hdn hbv; have HZ10 : Hid (Bk (w10.alloc (.cells #[.int .i64 0, .slice none 0 0, .bool false] 59)) w10.heap.size 59 #[.int .i64 0, .slice none 0 0, .bool false]) := hdn (MapKept.heap_alloc w10 _).1; have H1C : Hid ((#[.int .i64 g.F, v, .bool true] : Array Value).all (·.oneCell') = true) := hdn (Kin.Lie.oneA hov); clear hov hnv hbv)
    | ((with_reducible show wpList _ _ _ (Oper.mk none (Op.store 59 _ _) _ _ _ _ :: _) _ _); refine wpList_store_all rfl 59 _ _ rfl w10.heap.size 59 _ #[.int .i64 g.F, v, .bool true] rfl rfl HZ10.out size29 rfl H1C.out ?_; intro w11 h11 g11))
  have H7 : Hid (D7 w w5 w11 g s a O t w10.heap.size v N) := hdn (D7.start H9.out HBV.out HOV.out HNV.out h11.out g11.out)
  clear h11 g11 HOV HNV HBV HZ10 H1C c9 s3
  generalize w10.heap.size = B at H7 ⊢
  simp only [Act.put]
  obtain ⟨a0, a1, a2, a3, a4, a5, a6, a7, a8, a9, a10, a11⟩ := A12f.of H7.out.d6.d5.ac
  obtain ⟨s0, s1, s2, s3⟩ := Z33.of H7.out.d6.d5.st
  have cX := HVX.out w11 H7.out.d6.low
  have cY := HVY.out w11 H7.out.d6.low
  have p1 := cell_regrown a1; have p2 := cell_regrown a2; have p3 := cell_regrown s1
  refine wp_region_quiet_below (by kernel_rfl) (by kernel_rfl) ?_
  repeat (go_big_quiet_step (first | (with_reducible exact cX _ _) | (with_reducible exact cY _ _)))
  refine wpQuiet_nil ?_
  intro _ hw'
  obtain ⟨⟨dz, osz⟩, hw''⟩ := hw'
  subst hw''
  have H12 : Hid (D7 w w5 (grow (redrawn w11 dz) osz) g s a O t B v N) := hdn (H7.out.far' (below_regrown w11 dz osz))
  generalize grow (redrawn w11 dz) osz = w12 at H12 ⊢
  clear p1 p2 p3 cX cY a0 a1 a2 a3 a4 a5 a6 a7 a8 a9 a10 a11 s0 s1 s2 s3 H7 H9 HVX HVY HLO
  obtain ⟨a0, a1, a2, a3, a4, a5, a6, a7, a8, a9, a10, a11⟩ := A12f.of H12.out.d6.d5.ac
  obtain ⟨s0, s1, s2, s3⟩ := Z33.of H12.out.d6.d5.st
  rw [HK.out] at a0
  have HB12 := hdn H12.out.box
  have HGY := hdn (HPU.out v N w12 B O t (atL s.vs a.x) H12.out)
  generalize hcs : freeC g.F (s.rs.map RC.c) (atL s.vs a.x) = cs1 at *
  clear hcs
  generalize freeE (s.rs.map RC.c) (atL s.vs a.x) = kk at *
  have hkk : (kk != 0) = false := by have := HF0.out; simpa using this
  clear HPU
  generalize atL s.vs a.x = vx at *
  go_upto_region 33 with (first
    | ((with_reducible show wpList _ _ _ (Oper.mk (some 160) (Op.load 59 _) _ _ _ _ :: _) _ _); refine wpList_load_bk rfl 59 _ rfl B 59 #[.int .i64 g.F, v, .bool true] rfl _ HB12.out Tryd.underlying59 rfl size29 ?_)
    | (go_at_call 31; refine HGY.out.mono ?_; rintro e w12b ⟨p1, cap1, rs1, rfl, hm1, hl1, hbz⟩; have H12b := hdn (H12.out.far' hbz.out); have HZ10 : Hid (Bk (w12b.alloc (.cells #[.int .i64 0, .slice none 0 0, .bool false] 59)) w12b.heap.size 59 #[.int .i64 0, .slice none 0 0, .bool false]) := hdn (MapKept.heap_alloc w12b _).1; have H1C : Hid ((#[.int .i64 g.F, .slice p1 rs1.length cap1, .bool true] : Array Value).all (·.oneCell') = true) := hdn (by simp [Value.oneCell']); clear hbz)
    | ((with_reducible show wpList _ _ _ (Oper.mk none (Op.store 59 _ _) _ _ _ _ :: _) _ _); refine wpList_store_all rfl 59 _ _ rfl w12b.heap.size 59 _ #[.int .i64 g.F, .slice p1 rs1.length cap1, .bool true] rfl rfl HZ10.out size29 rfl H1C.out ?_; intro w11b h11 g11))
  have hb13 : RowKit.Below w12b.heap.size w12b w11b := (alloc_below w12b _).grown g11.out (by simp) (fun j hj => by injection hj with hj; omega)
  have H13 := hdn (H12b.out.far' hb13)
  have HL13 := hdn (hl1.out.far hb13)
  clear g11 hl1 HZ10 H1C hb13 a0 a1 a2 a3 a4 a5 a6 a7 a8 a9 a10 a11 s0 s1 s2 s3
  have c1 : w11b.cell? ⟨w12b.heap.size, 1, none⟩ = some (.slice p1 rs1.length cap1) := h11.out.cell 1
  have f13 := H13.out.d6.out.frozen 3
  have g13 : w11b.cell? ⟨O, 3, none⟩ = some (.slice t.cp t.rs.length t.cc) := H13.out.d6.out.cell 3
  have H14 := hdn (H13.out.d6.putc (cap := cap1) HD.out.sz HL13.out)
  have HM1 := hm1
  clear h11 hm1
  go_upto_region 36 with fail
  clear c1 f13 g13
  generalize w11b.setCell ⟨O, 3, none⟩ (.slice p1 rs1.length cap1) = w14 at H14 ⊢
  obtain ⟨tt, htt⟩ : ∃ tt : SV, tt = { t with cp := p1, rs := rs1, cc := cap1 } := ⟨_, rfl⟩
  rw [← htt] at H14
  have HQ : Hid (tt.pt = s.pt ∧ tt.vs = s.vs ∧ tt.is = s.is ∧ tt.cs = cs1) := hdn (by rw [htt]; exact ⟨HT.out.pt.symm, HT.out.vs.symm, HT.out.is.symm, HM1.out⟩)
  clear htt
  have HR1 := hdn H14.out.d5.r1
  have HR2 := hdn H14.out.d5.r2
  have HS := hdn (H14.out.tail HD.out.sz)
  have K0 : Gr w14 w14 (fun i => i = w.heap.size + 1 + 1 + 1 ∨ i = w.heap.size + 1 + 1 + 1 + 1) := Gr.refl _ _
  have z0 : w14.cell? ⟨w.heap.size + 1 + 1 + 1, 0, none⟩ = some (.int .i64 0) := HR1.out.cell 0
  have f0 := HR1.out.frozen 0
  have z1 : w14.cell? ⟨w.heap.size + 1 + 1 + 1, 1, none⟩ = some (.slice none 0 0) := HR1.out.cell 1
  have f1 := HR1.out.frozen 1
  have z2 : w14.cell? ⟨w.heap.size + 1 + 1 + 1, 2, none⟩ = some (.slice none 0 0) := HR1.out.cell 2
  have f2 := HR1.out.frozen 2
  have z3 : w14.cell? ⟨w.heap.size + 1 + 1 + 1, 3, none⟩ = some (.slice none 0 0) := HR1.out.cell 3
  have f3 := HR1.out.frozen 3
  have y0 : w14.cell? ⟨w.heap.size + 1 + 1 + 1 + 1, 0, none⟩ = some (.int .i64 0) := HR2.out.cell 0
  have x0 := HR2.out.frozen 0
  have y1 : w14.cell? ⟨w.heap.size + 1 + 1 + 1 + 1, 1, none⟩ = some (.int .i64 0) := HR2.out.cell 1
  have x1 := HR2.out.frozen 1
  have y2 : w14.cell? ⟨w.heap.size + 1 + 1 + 1 + 1, 2, none⟩ = some (.int .i64 0) := HR2.out.cell 2
  have x2 := HR2.out.frozen 2
  go_region_held3 (fun w' => w'.cell? ⟨O, 0, none⟩ = some (.int .i64 tt.pt) ∧ w'.cell? ⟨O, 1, none⟩ = some (.slice tt.vp tt.vs.length tt.vc) ∧ w'.cell? ⟨O, 2, none⟩ = some (.slice tt.ip tt.is.length tt.ic) ∧ w'.cell? ⟨O, 3, none⟩ = some (.slice tt.cp tt.rs.length tt.cc) ∧ w'.cell? ⟨w.heap.size + 1 + 1, 5, none⟩ = some (.int .i64 a.pl))
    (first | with_reducible exact HS.out _ K0.drew | with_reducible exact HS.out _ K0 | with_reducible exact HS.out _ (Gr.s4' K0 (.inl rfl) _ _ _ _).drew | with_reducible exact HS.out _ (Gr.s3 K0 (.inr rfl) _ _ _).drew | with_reducible exact HS.out _ (Gr.s3 (Gr.s4' K0 (.inl rfl) _ _ _ _) (.inr rfl) _ _ _).drew | with_reducible exact HS.out _ (Gr.s4' (Gr.s3 K0 (.inr rfl) _ _ _) (.inl rfl) _ _ _ _).drew | fail) (fail)
  go_wp2_with fail
  have q2 := Gr.s4' (S := fun i => i = w.heap.size + 1 + 1 + 1) (Gr.refl w14 _) (C := w.heap.size + 1 + 1 + 1) rfl (.int .i64 tt.pt) (.slice tt.vp tt.vs.length tt.vc) (.slice tt.ip tt.is.length tt.ic) (.slice tt.cp tt.rs.length tt.cc)
  have q3 := Gr.s3 (S := fun i => i = w.heap.size + 1 + 1 + 1 + 1) (Gr.refl ((((w14.setCell ⟨w.heap.size + 1 + 1 + 1, 0, none⟩ (.int .i64 tt.pt)).setCell ⟨w.heap.size + 1 + 1 + 1, 1, none⟩ (.slice tt.vp tt.vs.length tt.vc)).setCell ⟨w.heap.size + 1 + 1 + 1, 2, none⟩ (.slice tt.ip tt.is.length tt.ic)).setCell ⟨w.heap.size + 1 + 1 + 1, 3, none⟩ (.slice tt.cp tt.rs.length tt.cc)) _) (C := w.heap.size + 1 + 1 + 1 + 1) rfl (.int .i64 2) (.int .i64 a.pl) (.int .i64 vx)
  have q4 := q3.bk (set4 HR1.out (.int .i64 tt.pt) (.slice tt.vp tt.vs.length tt.vc) (.slice tt.ip tt.is.length tt.ic) (.slice tt.cp tt.rs.length tt.cc)) (by simp)
  have q5 := bk3 (q2.bk HR2.out (by simp)) (.int .i64 2) (.int .i64 a.pl) (.int .i64 vx)
  have hg := ((q2.mono (fun _ _ h => .inl h)).trans (q3.mono (fun k _ h => .inr h)) : Gr w14 _ (fun i => i = w.heap.size + 1 + 1 + 1 ∨ i = w.heap.size + 1 + 1 + 1 + 1))
  exact bodyPost_ret (results_two Tryd.results8 rfl rfl rfl rfl (Bk.drewN (n := 1) q4) (Bk.drewN (n := 1) q5)) rfl (D6.finG HD.out.sz H14.out HQ.out hg.drew)
end Go.Proofs.YtebmhadpkncgfaaDoor
