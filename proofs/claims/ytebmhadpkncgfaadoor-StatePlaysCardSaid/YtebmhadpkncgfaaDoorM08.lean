/-
  Has, on both sides. graph.Has whole; the document's Has. The document's Do: actions that the graph does not have, and those that change nothing.
-/
import Derived.Test.YtebmhadpkncgfaaDoorM07
set_option maxHeartbeats 40000000
set_option maxRecDepth 100000
namespace Go.Proofs.YtebmhadpkncgfaaDoor
open Go.RowKit Go.Maps Go.Sort
open Aw.Ac (Acn Opd)
/-- Whether what an action names is in a graph. -/
def inG (g : GR) (a : Acn) : Bool :=
  if a.kind = 1 ∨ a.kind = 7 then decide (a.x < g.V)
  else if a.kind = 2 ∨ a.kind = 8 then decide (a.x < g.V) && decide (a.y < g.V)
  else if a.kind = 3 ∨ a.kind = 5 then decide (a.x < g.V) && decide (a.y < g.V) && decide (a.f < g.F)
  else if a.kind = 4 then decide (a.x < g.V) && decide (a.f < g.F)
  else if a.kind = 6 then decide (a.x < g.V) && decide (a.t < g.S)
  else if a.kind = 10 then decide (a.x < g.I)
  else if a.kind = 11 then decide (a.x < g.I) && decide (a.l.v < g.I) && decide (a.r.v < g.I)
  else if a.kind = 12 then decide (a.l.v < g.I) && decide (a.r.v < g.I)
  else true
def hasB (g : GR) (a : Acn) : Bool := Aw.Ac.rights a && inG g a
theorem rights_x11 {a : Acn} (h : Aw.Ac.rights a = true) (hk : a.kind = 11) : 0 ≤ a.x := by
  have h1 := (Aw.Ac.rights_k h).2.2
  rw [hk] at h1
  simp [Aw.Ac.formOf, Aw.Ac.goR, Aw.Ac.tk, Aw.Ac.numOf, Aw.Ac.loOf, Aw.Ac.within] at h1
  exact h1.1.1
theorem rights_kind {a : Acn} (h : Aw.Ac.rights a = true) : 0 ≤ a.kind ∧ a.kind < 13 := ⟨(Aw.Ac.rights_k h).1, (Aw.Ac.rights_k h).2.1⟩
def allB (n : Int) (l : List Int) : Bool := l.all fun i => decide (i < n)
theorem allB_step {n : Int} {l : List Int} {k : Nat} {v : Int} (hv : l[k]? = some v) : allB n (l.drop k) = (decide (v < n) && allB n (l.drop (k + 1))) := by
  have hk : k < l.length := (List.getElem?_eq_some_iff.1 hv).1
  rw [List.drop_eq_getElem_cons hk]
  have : l[k] = v := by rw [List.getElem?_eq_getElem hk] at hv; injection hv
  simp [allB, this]
theorem below55_any (n : Int) (hn : 0 ≤ n) (p : Option Addr) (l : List Int) (c : Nat) (w : World) (h : IR w p l) (hl : l.length ≤ 2000000) : Calls Tryd.prog 53 #[.int .i64 n, .slice p l.length c] w (RetV w (.bool (allB n l))) := by
  have H1 := hdn h
  have HB0 : Hid (RowKit.Below w.heap.size w w) := hdn (RowKit.Below.refl _ _)
  clear h
  go_enter Tryd.func53, Tryd.ntmps53
  go_wp2_with fail
  go_loopw [9] (fun t wr => ∃ k : Nat, t = .int .i64 k ∧ k ≤ l.length ∧ Hid (allB n l = allB n (l.drop k)) ∧ Hid (RowKit.Below w.heap.size w wr)) (fun t _ => l.length - (intOf t).toNat)
  case atStart => exact ⟨0, rfl, Nat.zero_le _, hdn rfl, HB0⟩
  case round =>
    obtain ⟨k, rfl, hk, HA, HB⟩ := hrel
    by_cases hkl : k < l.length
    · obtain ⟨v, hv⟩ : ∃ v, l[k]? = some v := ⟨_, List.getElem?_eq_getElem hkl⟩
      obtain ⟨b, o, hp, hc⟩ := (H1.out.below HB.out).at_ hv
      have HV := hdn (allB_step (n := n) hv)
      have hk0 : (0 : Int) ≤ (k : Int) := Int.natCast_nonneg _
      have hk1 : (k : Int) < (l.length : Int) := by omega
      clear hv
      rw [hp]
      by_cases h0 : 0 ≤ v
      · have d0 : decide (0 ≤ v) = true := decide_eq_true h0
        by_cases h1 : v < n
        · have d1 : decide (n ≤ v) = false := decide_eq_false (by omega)
          have HN : Hid (allB n l = allB n (l.drop (k + 1))) := hdn (by rw [HA.out, HV.out, decide_eq_true h1]; rfl)
          clear h0 h1
          go_wp2_with fail
          go_roundw
          case rel => exact ⟨k + 1, by go_num, by omega, HN, HB⟩
          case measure => simp [intOf]; omega
        · have d1 : decide (n ≤ v) = true := decide_eq_true (by omega)
          have HN : Hid (allB n l = false) := hdn (by rw [HA.out, HV.out, decide_eq_false h1]; rfl)
          clear h0 h1
          go_wp2_with fail
          go_ret
          exact ⟨ret_bool HN.out.symm, HB.out⟩
      · have d0 : decide (0 ≤ v) = false := decide_eq_false h0
        have HN : Hid (allB n l = allB n (l.drop (k + 1))) := hdn (by rw [HA.out, HV.out, decide_eq_true (by omega)]; rfl)
        clear h0
        go_wp2_with fail
        go_roundw
        case rel => exact ⟨k + 1, by go_num, by omega, HN, HB⟩
        case measure => simp [intOf]; omega
    · have hke : k = l.length := by omega
      have HN : Hid (allB n l = true) := hdn (by rw [HA.out, hke, List.drop_length]; rfl)
      clear hke
      go_wp2_with fail
      go_ret
      exact ⟨ret_bool HN.out.symm, HB.out⟩
theorem new_ir (w : World) (l : List Int) : IR (w.alloc (.cells (ints l).toArray 3)) (some ⟨w.heap.size, 0, none⟩) l := by
  have h : Bk (w.alloc (.cells (ints l).toArray 3)) w.heap.size 3 (ints l).toArray := (MapKept.heap_alloc w _).1
  exact .inr ⟨_, 0, rfl, by have := h.range; simpa using this⟩
theorem below_new1 (n : Int) (hn : 0 ≤ n) (x : Int) (w : World) : Calls Tryd.prog 53 #[.int .i64 n, .slice (some ⟨w.heap.size, 0, none⟩) 1 1] (w.alloc (.cells #[.int .i64 x] 3)) fun e w' => e = .returned (.bool (decide (x < n))) ∧ RowKit.Below w.heap.size w w' :=
  (below55_any n hn _ [x] 1 _ (new_ir w [x]) (by simp)).mono fun e w' h => ⟨by rw [h.1]; simp [allB], (alloc_below w _).trans (h.2.mono (by simp))⟩
theorem below_new2 (n : Int) (hn : 0 ≤ n) (x y : Int) (w : World) : Calls Tryd.prog 53 #[.int .i64 n, .slice (some ⟨w.heap.size, 0, none⟩) 2 2] (w.alloc (.cells #[.int .i64 x, .int .i64 y] 3)) fun e w' => e = .returned (.bool (decide (x < n) && decide (y < n))) ∧ RowKit.Below w.heap.size w w' :=
  (below55_any n hn _ [x, y] 2 _ (new_ir w [x, y]) (by simp)).mono fun e w' h => ⟨by rw [h.1]; simp [allB], (alloc_below w _).trans (h.2.mono (by simp))⟩
theorem below_new3 (n : Int) (hn : 0 ≤ n) (x y z : Int) (w : World) : Calls Tryd.prog 53 #[.int .i64 n, .slice (some ⟨w.heap.size, 0, none⟩) 3 3] (w.alloc (.cells #[.int .i64 x, .int .i64 y, .int .i64 z] 3)) fun e w' => e = .returned (.bool (decide (x < n) && decide (y < n) && decide (z < n))) ∧ RowKit.Below w.heap.size w w' :=
  (below55_any n hn _ [x, y, z] 3 _ (new_ir w [x, y, z]) (by simp)).mono fun e w' h => ⟨by rw [h.1]; simp [allB, Bool.and_assoc], (alloc_below w _).trans (h.2.mono (by simp))⟩
/-- A graph and an action, boxed. -/
structure Ga (w w2 : World) (g : GR) (a : Acn) : Prop where
  gr : Bk w2 w.heap.size 30 g.cs
  ac : Bk w2 (w.heap.size + 1) 43 a.cs
  below : RowKit.Below w.heap.size w w2
theorem Ga.start (w : World) (g : GR) (a : Acn) : Ga w ((w.alloc (.cells g.cs 30)).alloc (.cells a.cs 43)) g a := ⟨alloc2_old _ _ _ _, alloc2_new _ _ _ _, alloc2_below _ _ _⟩
def A12 (a : Acn) (b : Nat) (w : World) : Prop :=
  w.cell? ⟨b, 0, none⟩ = some (.int .i64 a.kind) ∧ w.cell? ⟨b, 1, none⟩ = some (.int .i64 a.x) ∧ w.cell? ⟨b, 2, none⟩ = some (.int .i64 a.y) ∧ w.cell? ⟨b, 3, none⟩ = some (.int .i64 a.f) ∧ w.cell? ⟨b, 4, none⟩ = some (.int .i64 a.t) ∧ w.cell? ⟨b, 7, none⟩ = some (.int .i64 a.l.v) ∧ w.cell? ⟨b, 9, none⟩ = some (.int .i64 a.r.v)
theorem Ga.cells {w w2 w' : World} {g : GR} {a : Acn} (h : Ga w w2 g a) (hb : RowKit.Below w2.heap.size w2 w') : G10 g w.heap.size w' ∧ A12 a (w.heap.size + 1) w' := by
  have h1 := h.ac.below hb h.ac.lt
  exact ⟨G10.of (h.gr.below hb h.gr.lt), h1.cell 0, h1.cell 1, h1.cell 2, h1.cell 3, h1.cell 4, h1.cell 7, h1.cell 9⟩
theorem has34_0 (g : GR) (a : Acn) (hk : a.kind = 0) (w : World) (hS : 0 ≤ g.S) (hr : Aw.Ac.rights a = true) (hG : Aw.Gl w) : Calls Tryd.prog 33 #[.agg g.cs, .agg a.cs] w (RetV w (.bool (inG g a))) := by
  obtain ⟨w2, hw2⟩ : ∃ w2, (w.alloc (.cells g.cs 30)).alloc (.cells a.cs 43) = w2 := ⟨_, rfl⟩
  have HX : Hid (Ga w w2 g a) := hdn (by rw [← hw2]; exact Ga.start w g a)
  have HW := hdn hw2
  have HRI : Hid (Calls Tryd.prog 52 #[.agg a.cs] w2 (RetV w2 (.bool true))) := hdn (by have := Aw.right_any a w2 (hG.below HX.out.below hG.big); rw [hr] at this; exact this)
  have HR : Hid (inG g a = (true)) := hdn (by unfold inG; simp [hk])
  have HA1 := hdn HX.out.ac
  have HNS := hdn hS
  clear hw2 hG hr hS
  go_enter Tryd.func33, Tryd.ntmps33
  go_upto_region 1 with fail
  rw [HW.out]
  go_upto_region 3 with (first
    | ((with_reducible show wpList _ _ _ (Oper.mk _ (Op.load 43 _) _ _ _ _ :: _) _ _); refine wpList_load_bk rfl 43 _ rfl (w.heap.size + 1) 43 a.cs rfl _ HA1.out Tryd.underlying43 rfl size43 ?_)
    | (go_at_call 52; refine HRI.out.mono ?_; rintro e w3 ⟨rfl, hb3⟩; have HB3 := hdn hb3; clear hb3))
  obtain ⟨⟨c0, c1, c2, c3, c4, c5, c6, c7, c8, c9⟩, ⟨a0, a1, a2, a3, a4, a7, a9⟩⟩ := HX.out.cells HB3.out
  rw [hk] at a0
  go_wp2_with fail
  go_ret
  exact ⟨ret_bool HR.out.symm, HX.out.below.trans (HB3.out.mono HX.out.below.size)⟩
theorem has34_1 (g : GR) (a : Acn) (hk : a.kind = 1) (w : World) (hS : 0 ≤ g.S) (hr : Aw.Ac.rights a = true) (hG : Aw.Gl w) : Calls Tryd.prog 33 #[.agg g.cs, .agg a.cs] w (RetV w (.bool (inG g a))) := by
  obtain ⟨w2, hw2⟩ : ∃ w2, (w.alloc (.cells g.cs 30)).alloc (.cells a.cs 43) = w2 := ⟨_, rfl⟩
  have HX : Hid (Ga w w2 g a) := hdn (by rw [← hw2]; exact Ga.start w g a)
  have HW := hdn hw2
  have HRI : Hid (Calls Tryd.prog 52 #[.agg a.cs] w2 (RetV w2 (.bool true))) := hdn (by have := Aw.right_any a w2 (hG.below HX.out.below hG.big); rw [hr] at this; exact this)
  have HR : Hid (inG g a = (decide (a.x < (g.V : Int)))) := hdn (by unfold inG; simp [hk])
  have HA1 := hdn HX.out.ac
  have HNS := hdn hS
  clear hw2 hG hr hS
  go_enter Tryd.func33, Tryd.ntmps33
  go_upto_region 1 with fail
  rw [HW.out]
  go_upto_region 3 with (first
    | ((with_reducible show wpList _ _ _ (Oper.mk _ (Op.load 43 _) _ _ _ _ :: _) _ _); refine wpList_load_bk rfl 43 _ rfl (w.heap.size + 1) 43 a.cs rfl _ HA1.out Tryd.underlying43 rfl size43 ?_)
    | (go_at_call 52; refine HRI.out.mono ?_; rintro e w3 ⟨rfl, hb3⟩; have HB3 := hdn hb3; clear hb3))
  obtain ⟨⟨c0, c1, c2, c3, c4, c5, c6, c7, c8, c9⟩, ⟨a0, a1, a2, a3, a4, a7, a9⟩⟩ := HX.out.cells HB3.out
  rw [hk] at a0
  have HN4 := hdn (below_new1 (g.V : Int) (Int.natCast_nonneg _) a.x)
  go_wp2_with (go_at_call 53; refine (HN4.out w3).mono ?_; rintro e w4 ⟨rfl, hb4⟩; have HB4 : Hid (RowKit.Below w2.heap.size w2 w4) := hdn (HB3.out.trans (hb4.mono HB3.out.size)); clear hb4)
  go_ret
  exact ⟨ret_bool HR.out.symm, HX.out.below.trans (HB4.out.mono HX.out.below.size)⟩
theorem has34_2 (g : GR) (a : Acn) (hk : a.kind = 2) (w : World) (hS : 0 ≤ g.S) (hr : Aw.Ac.rights a = true) (hG : Aw.Gl w) : Calls Tryd.prog 33 #[.agg g.cs, .agg a.cs] w (RetV w (.bool (inG g a))) := by
  obtain ⟨w2, hw2⟩ : ∃ w2, (w.alloc (.cells g.cs 30)).alloc (.cells a.cs 43) = w2 := ⟨_, rfl⟩
  have HX : Hid (Ga w w2 g a) := hdn (by rw [← hw2]; exact Ga.start w g a)
  have HW := hdn hw2
  have HRI : Hid (Calls Tryd.prog 52 #[.agg a.cs] w2 (RetV w2 (.bool true))) := hdn (by have := Aw.right_any a w2 (hG.below HX.out.below hG.big); rw [hr] at this; exact this)
  have HR : Hid (inG g a = (decide (a.x < (g.V : Int)) && decide (a.y < (g.V : Int)))) := hdn (by unfold inG; simp [hk])
  have HA1 := hdn HX.out.ac
  have HNS := hdn hS
  clear hw2 hG hr hS
  go_enter Tryd.func33, Tryd.ntmps33
  go_upto_region 1 with fail
  rw [HW.out]
  go_upto_region 3 with (first
    | ((with_reducible show wpList _ _ _ (Oper.mk _ (Op.load 43 _) _ _ _ _ :: _) _ _); refine wpList_load_bk rfl 43 _ rfl (w.heap.size + 1) 43 a.cs rfl _ HA1.out Tryd.underlying43 rfl size43 ?_)
    | (go_at_call 52; refine HRI.out.mono ?_; rintro e w3 ⟨rfl, hb3⟩; have HB3 := hdn hb3; clear hb3))
  obtain ⟨⟨c0, c1, c2, c3, c4, c5, c6, c7, c8, c9⟩, ⟨a0, a1, a2, a3, a4, a7, a9⟩⟩ := HX.out.cells HB3.out
  rw [hk] at a0
  have HN4 := hdn (below_new2 (g.V : Int) (Int.natCast_nonneg _) a.x a.y)
  go_wp2_with (go_at_call 53; refine (HN4.out w3).mono ?_; rintro e w4 ⟨rfl, hb4⟩; have HB4 : Hid (RowKit.Below w2.heap.size w2 w4) := hdn (HB3.out.trans (hb4.mono HB3.out.size)); clear hb4)
  go_ret
  exact ⟨ret_bool HR.out.symm, HX.out.below.trans (HB4.out.mono HX.out.below.size)⟩
theorem has34_3 (g : GR) (a : Acn) (hk : a.kind = 3) (w : World) (hS : 0 ≤ g.S) (hr : Aw.Ac.rights a = true) (hG : Aw.Gl w) : Calls Tryd.prog 33 #[.agg g.cs, .agg a.cs] w (RetV w (.bool (inG g a))) := by
  obtain ⟨w2, hw2⟩ : ∃ w2, (w.alloc (.cells g.cs 30)).alloc (.cells a.cs 43) = w2 := ⟨_, rfl⟩
  have HX : Hid (Ga w w2 g a) := hdn (by rw [← hw2]; exact Ga.start w g a)
  have HW := hdn hw2
  have HRI : Hid (Calls Tryd.prog 52 #[.agg a.cs] w2 (RetV w2 (.bool true))) := hdn (by have := Aw.right_any a w2 (hG.below HX.out.below hG.big); rw [hr] at this; exact this)
  have HR : Hid (inG g a = (decide (a.x < (g.V : Int)) && decide (a.y < (g.V : Int)) && decide (a.f < (g.F : Int)))) := hdn (by unfold inG; simp [hk, Bool.and_assoc])
  have HA1 := hdn HX.out.ac
  have HNS := hdn hS
  clear hw2 hG hr hS
  by_cases h1 : (decide (a.x < (g.V : Int)) && decide (a.y < (g.V : Int))) = true
  · have HR2 : Hid (inG g a = (decide (a.f < (g.F : Int)))) := hdn (by rw [HR.out, h1, Bool.true_and])
    go_enter Tryd.func33, Tryd.ntmps33
    go_upto_region 1 with fail
    rw [HW.out]
    go_upto_region 3 with (first
      | ((with_reducible show wpList _ _ _ (Oper.mk _ (Op.load 43 _) _ _ _ _ :: _) _ _); refine wpList_load_bk rfl 43 _ rfl (w.heap.size + 1) 43 a.cs rfl _ HA1.out Tryd.underlying43 rfl size43 ?_)
      | (go_at_call 52; refine HRI.out.mono ?_; rintro e w3 ⟨rfl, hb3⟩; have HB3 := hdn hb3; clear hb3))
    obtain ⟨⟨c0, c1, c2, c3, c4, c5, c6, c7, c8, c9⟩, ⟨a0, a1, a2, a3, a4, a7, a9⟩⟩ := HX.out.cells HB3.out
    rw [hk] at a0
    have HN4 := hdn (below_new2 (g.V : Int) (Int.natCast_nonneg _) a.x a.y)
    have HN5 := hdn (below_new1 (g.F : Int) (Int.natCast_nonneg _) a.f)
    go_wp2_with (first
      | (go_at_call 53; refine (HN5.out w4).mono ?_; rintro e w5 ⟨rfl, hb5⟩; have HB5 : Hid (RowKit.Below w2.heap.size w2 w5) := hdn (HB4.out.trans (hb5.mono HB4.out.size)); clear hb5)
      | (go_at_call 53; refine (HN4.out w3).mono ?_; rintro e w4 ⟨rfl, hb4⟩; have HB4 : Hid (RowKit.Below w2.heap.size w2 w4) := hdn (HB3.out.trans (hb4.mono HB3.out.size)); clear hb4; rw [h1]; obtain ⟨⟨_, _, _, _, _, _, _, _, c8, c9⟩, ⟨_, _, _, a3, a4, _, _⟩⟩ := HX.out.cells HB4.out))
    go_ret
    exact ⟨ret_bool HR2.out.symm, HX.out.below.trans (HB5.out.mono HX.out.below.size)⟩
  · have h1 : (decide (a.x < (g.V : Int)) && decide (a.y < (g.V : Int))) = false := by simpa using h1
    have HR2 : Hid (inG g a = false) := hdn (by rw [HR.out, h1, Bool.false_and])
    go_enter Tryd.func33, Tryd.ntmps33
    go_upto_region 1 with fail
    rw [HW.out]
    go_upto_region 3 with (first
      | ((with_reducible show wpList _ _ _ (Oper.mk _ (Op.load 43 _) _ _ _ _ :: _) _ _); refine wpList_load_bk rfl 43 _ rfl (w.heap.size + 1) 43 a.cs rfl _ HA1.out Tryd.underlying43 rfl size43 ?_)
      | (go_at_call 52; refine HRI.out.mono ?_; rintro e w3 ⟨rfl, hb3⟩; have HB3 := hdn hb3; clear hb3))
    obtain ⟨⟨c0, c1, c2, c3, c4, c5, c6, c7, c8, c9⟩, ⟨a0, a1, a2, a3, a4, a7, a9⟩⟩ := HX.out.cells HB3.out
    rw [hk] at a0
    have HN4 := hdn (below_new2 (g.V : Int) (Int.natCast_nonneg _) a.x a.y)
    go_wp2_with (go_at_call 53; refine (HN4.out w3).mono ?_; rintro e w4 ⟨rfl, hb4⟩; have HB4 : Hid (RowKit.Below w2.heap.size w2 w4) := hdn (HB3.out.trans (hb4.mono HB3.out.size)); clear hb4; rw [h1])
    go_ret
    exact ⟨ret_bool HR2.out.symm, HX.out.below.trans (HB4.out.mono HX.out.below.size)⟩
theorem has34_4 (g : GR) (a : Acn) (hk : a.kind = 4) (w : World) (hS : 0 ≤ g.S) (hr : Aw.Ac.rights a = true) (hG : Aw.Gl w) : Calls Tryd.prog 33 #[.agg g.cs, .agg a.cs] w (RetV w (.bool (inG g a))) := by
  obtain ⟨w2, hw2⟩ : ∃ w2, (w.alloc (.cells g.cs 30)).alloc (.cells a.cs 43) = w2 := ⟨_, rfl⟩
  have HX : Hid (Ga w w2 g a) := hdn (by rw [← hw2]; exact Ga.start w g a)
  have HW := hdn hw2
  have HRI : Hid (Calls Tryd.prog 52 #[.agg a.cs] w2 (RetV w2 (.bool true))) := hdn (by have := Aw.right_any a w2 (hG.below HX.out.below hG.big); rw [hr] at this; exact this)
  have HR : Hid (inG g a = (decide (a.x < (g.V : Int)) && decide (a.f < (g.F : Int)))) := hdn (by unfold inG; simp [hk])
  have HA1 := hdn HX.out.ac
  have HNS := hdn hS
  clear hw2 hG hr hS
  by_cases h1 : (decide (a.x < (g.V : Int))) = true
  · have HR2 : Hid (inG g a = (decide (a.f < (g.F : Int)))) := hdn (by rw [HR.out, h1, Bool.true_and])
    go_enter Tryd.func33, Tryd.ntmps33
    go_upto_region 1 with fail
    rw [HW.out]
    go_upto_region 3 with (first
      | ((with_reducible show wpList _ _ _ (Oper.mk _ (Op.load 43 _) _ _ _ _ :: _) _ _); refine wpList_load_bk rfl 43 _ rfl (w.heap.size + 1) 43 a.cs rfl _ HA1.out Tryd.underlying43 rfl size43 ?_)
      | (go_at_call 52; refine HRI.out.mono ?_; rintro e w3 ⟨rfl, hb3⟩; have HB3 := hdn hb3; clear hb3))
    obtain ⟨⟨c0, c1, c2, c3, c4, c5, c6, c7, c8, c9⟩, ⟨a0, a1, a2, a3, a4, a7, a9⟩⟩ := HX.out.cells HB3.out
    rw [hk] at a0
    have HN4 := hdn (below_new1 (g.V : Int) (Int.natCast_nonneg _) a.x)
    have HN5 := hdn (below_new1 (g.F : Int) (Int.natCast_nonneg _) a.f)
    go_wp2_with (first
      | (go_at_call 53; refine (HN5.out w4).mono ?_; rintro e w5 ⟨rfl, hb5⟩; have HB5 : Hid (RowKit.Below w2.heap.size w2 w5) := hdn (HB4.out.trans (hb5.mono HB4.out.size)); clear hb5)
      | (go_at_call 53; refine (HN4.out w3).mono ?_; rintro e w4 ⟨rfl, hb4⟩; have HB4 : Hid (RowKit.Below w2.heap.size w2 w4) := hdn (HB3.out.trans (hb4.mono HB3.out.size)); clear hb4; rw [h1]; obtain ⟨⟨_, _, _, _, _, _, _, _, c8, c9⟩, ⟨_, _, _, a3, a4, _, _⟩⟩ := HX.out.cells HB4.out))
    go_ret
    exact ⟨ret_bool HR2.out.symm, HX.out.below.trans (HB5.out.mono HX.out.below.size)⟩
  · have h1 : (decide (a.x < (g.V : Int))) = false := by simpa using h1
    have HR2 : Hid (inG g a = false) := hdn (by rw [HR.out, h1, Bool.false_and])
    go_enter Tryd.func33, Tryd.ntmps33
    go_upto_region 1 with fail
    rw [HW.out]
    go_upto_region 3 with (first
      | ((with_reducible show wpList _ _ _ (Oper.mk _ (Op.load 43 _) _ _ _ _ :: _) _ _); refine wpList_load_bk rfl 43 _ rfl (w.heap.size + 1) 43 a.cs rfl _ HA1.out Tryd.underlying43 rfl size43 ?_)
      | (go_at_call 52; refine HRI.out.mono ?_; rintro e w3 ⟨rfl, hb3⟩; have HB3 := hdn hb3; clear hb3))
    obtain ⟨⟨c0, c1, c2, c3, c4, c5, c6, c7, c8, c9⟩, ⟨a0, a1, a2, a3, a4, a7, a9⟩⟩ := HX.out.cells HB3.out
    rw [hk] at a0
    have HN4 := hdn (below_new1 (g.V : Int) (Int.natCast_nonneg _) a.x)
    go_wp2_with (go_at_call 53; refine (HN4.out w3).mono ?_; rintro e w4 ⟨rfl, hb4⟩; have HB4 : Hid (RowKit.Below w2.heap.size w2 w4) := hdn (HB3.out.trans (hb4.mono HB3.out.size)); clear hb4; rw [h1])
    go_ret
    exact ⟨ret_bool HR2.out.symm, HX.out.below.trans (HB4.out.mono HX.out.below.size)⟩
theorem has34_5 (g : GR) (a : Acn) (hk : a.kind = 5) (w : World) (hS : 0 ≤ g.S) (hr : Aw.Ac.rights a = true) (hG : Aw.Gl w) : Calls Tryd.prog 33 #[.agg g.cs, .agg a.cs] w (RetV w (.bool (inG g a))) := by
  obtain ⟨w2, hw2⟩ : ∃ w2, (w.alloc (.cells g.cs 30)).alloc (.cells a.cs 43) = w2 := ⟨_, rfl⟩
  have HX : Hid (Ga w w2 g a) := hdn (by rw [← hw2]; exact Ga.start w g a)
  have HW := hdn hw2
  have HRI : Hid (Calls Tryd.prog 52 #[.agg a.cs] w2 (RetV w2 (.bool true))) := hdn (by have := Aw.right_any a w2 (hG.below HX.out.below hG.big); rw [hr] at this; exact this)
  have HR : Hid (inG g a = (decide (a.x < (g.V : Int)) && decide (a.y < (g.V : Int)) && decide (a.f < (g.F : Int)))) := hdn (by unfold inG; simp [hk, Bool.and_assoc])
  have HA1 := hdn HX.out.ac
  have HNS := hdn hS
  clear hw2 hG hr hS
  by_cases h1 : (decide (a.x < (g.V : Int)) && decide (a.y < (g.V : Int))) = true
  · have HR2 : Hid (inG g a = (decide (a.f < (g.F : Int)))) := hdn (by rw [HR.out, h1, Bool.true_and])
    go_enter Tryd.func33, Tryd.ntmps33
    go_upto_region 1 with fail
    rw [HW.out]
    go_upto_region 3 with (first
      | ((with_reducible show wpList _ _ _ (Oper.mk _ (Op.load 43 _) _ _ _ _ :: _) _ _); refine wpList_load_bk rfl 43 _ rfl (w.heap.size + 1) 43 a.cs rfl _ HA1.out Tryd.underlying43 rfl size43 ?_)
      | (go_at_call 52; refine HRI.out.mono ?_; rintro e w3 ⟨rfl, hb3⟩; have HB3 := hdn hb3; clear hb3))
    obtain ⟨⟨c0, c1, c2, c3, c4, c5, c6, c7, c8, c9⟩, ⟨a0, a1, a2, a3, a4, a7, a9⟩⟩ := HX.out.cells HB3.out
    rw [hk] at a0
    have HN4 := hdn (below_new2 (g.V : Int) (Int.natCast_nonneg _) a.x a.y)
    have HN5 := hdn (below_new1 (g.F : Int) (Int.natCast_nonneg _) a.f)
    go_wp2_with (first
      | (go_at_call 53; refine (HN5.out w4).mono ?_; rintro e w5 ⟨rfl, hb5⟩; have HB5 : Hid (RowKit.Below w2.heap.size w2 w5) := hdn (HB4.out.trans (hb5.mono HB4.out.size)); clear hb5)
      | (go_at_call 53; refine (HN4.out w3).mono ?_; rintro e w4 ⟨rfl, hb4⟩; have HB4 : Hid (RowKit.Below w2.heap.size w2 w4) := hdn (HB3.out.trans (hb4.mono HB3.out.size)); clear hb4; rw [h1]; obtain ⟨⟨_, _, _, _, _, _, _, _, c8, c9⟩, ⟨_, _, _, a3, a4, _, _⟩⟩ := HX.out.cells HB4.out))
    go_ret
    exact ⟨ret_bool HR2.out.symm, HX.out.below.trans (HB5.out.mono HX.out.below.size)⟩
  · have h1 : (decide (a.x < (g.V : Int)) && decide (a.y < (g.V : Int))) = false := by simpa using h1
    have HR2 : Hid (inG g a = false) := hdn (by rw [HR.out, h1, Bool.false_and])
    go_enter Tryd.func33, Tryd.ntmps33
    go_upto_region 1 with fail
    rw [HW.out]
    go_upto_region 3 with (first
      | ((with_reducible show wpList _ _ _ (Oper.mk _ (Op.load 43 _) _ _ _ _ :: _) _ _); refine wpList_load_bk rfl 43 _ rfl (w.heap.size + 1) 43 a.cs rfl _ HA1.out Tryd.underlying43 rfl size43 ?_)
      | (go_at_call 52; refine HRI.out.mono ?_; rintro e w3 ⟨rfl, hb3⟩; have HB3 := hdn hb3; clear hb3))
    obtain ⟨⟨c0, c1, c2, c3, c4, c5, c6, c7, c8, c9⟩, ⟨a0, a1, a2, a3, a4, a7, a9⟩⟩ := HX.out.cells HB3.out
    rw [hk] at a0
    have HN4 := hdn (below_new2 (g.V : Int) (Int.natCast_nonneg _) a.x a.y)
    go_wp2_with (go_at_call 53; refine (HN4.out w3).mono ?_; rintro e w4 ⟨rfl, hb4⟩; have HB4 : Hid (RowKit.Below w2.heap.size w2 w4) := hdn (HB3.out.trans (hb4.mono HB3.out.size)); clear hb4; rw [h1])
    go_ret
    exact ⟨ret_bool HR2.out.symm, HX.out.below.trans (HB4.out.mono HX.out.below.size)⟩
theorem has34_6 (g : GR) (a : Acn) (hk : a.kind = 6) (w : World) (hS : 0 ≤ g.S) (hr : Aw.Ac.rights a = true) (hG : Aw.Gl w) : Calls Tryd.prog 33 #[.agg g.cs, .agg a.cs] w (RetV w (.bool (inG g a))) := by
  obtain ⟨w2, hw2⟩ : ∃ w2, (w.alloc (.cells g.cs 30)).alloc (.cells a.cs 43) = w2 := ⟨_, rfl⟩
  have HX : Hid (Ga w w2 g a) := hdn (by rw [← hw2]; exact Ga.start w g a)
  have HW := hdn hw2
  have HRI : Hid (Calls Tryd.prog 52 #[.agg a.cs] w2 (RetV w2 (.bool true))) := hdn (by have := Aw.right_any a w2 (hG.below HX.out.below hG.big); rw [hr] at this; exact this)
  have HR : Hid (inG g a = (decide (a.x < (g.V : Int)) && decide (a.t < g.S))) := hdn (by unfold inG; simp [hk])
  have HA1 := hdn HX.out.ac
  have HNS := hdn hS
  clear hw2 hG hr hS
  by_cases h1 : (decide (a.x < (g.V : Int))) = true
  · have HR2 : Hid (inG g a = (decide (a.t < g.S))) := hdn (by rw [HR.out, h1, Bool.true_and])
    go_enter Tryd.func33, Tryd.ntmps33
    go_upto_region 1 with fail
    rw [HW.out]
    go_upto_region 3 with (first
      | ((with_reducible show wpList _ _ _ (Oper.mk _ (Op.load 43 _) _ _ _ _ :: _) _ _); refine wpList_load_bk rfl 43 _ rfl (w.heap.size + 1) 43 a.cs rfl _ HA1.out Tryd.underlying43 rfl size43 ?_)
      | (go_at_call 52; refine HRI.out.mono ?_; rintro e w3 ⟨rfl, hb3⟩; have HB3 := hdn hb3; clear hb3))
    obtain ⟨⟨c0, c1, c2, c3, c4, c5, c6, c7, c8, c9⟩, ⟨a0, a1, a2, a3, a4, a7, a9⟩⟩ := HX.out.cells HB3.out
    rw [hk] at a0
    have HN4 := hdn (below_new1 (g.V : Int) (Int.natCast_nonneg _) a.x)
    have HN5 := hdn (below_new1 g.S HNS.out a.t)
    go_wp2_with (first
      | (go_at_call 53; refine (HN5.out w4).mono ?_; rintro e w5 ⟨rfl, hb5⟩; have HB5 : Hid (RowKit.Below w2.heap.size w2 w5) := hdn (HB4.out.trans (hb5.mono HB4.out.size)); clear hb5)
      | (go_at_call 53; refine (HN4.out w3).mono ?_; rintro e w4 ⟨rfl, hb4⟩; have HB4 : Hid (RowKit.Below w2.heap.size w2 w4) := hdn (HB3.out.trans (hb4.mono HB3.out.size)); clear hb4; rw [h1]; obtain ⟨⟨_, _, _, _, _, _, _, _, c8, c9⟩, ⟨_, _, _, a3, a4, _, _⟩⟩ := HX.out.cells HB4.out))
    go_ret
    exact ⟨ret_bool HR2.out.symm, HX.out.below.trans (HB5.out.mono HX.out.below.size)⟩
  · have h1 : (decide (a.x < (g.V : Int))) = false := by simpa using h1
    have HR2 : Hid (inG g a = false) := hdn (by rw [HR.out, h1, Bool.false_and])
    go_enter Tryd.func33, Tryd.ntmps33
    go_upto_region 1 with fail
    rw [HW.out]
    go_upto_region 3 with (first
      | ((with_reducible show wpList _ _ _ (Oper.mk _ (Op.load 43 _) _ _ _ _ :: _) _ _); refine wpList_load_bk rfl 43 _ rfl (w.heap.size + 1) 43 a.cs rfl _ HA1.out Tryd.underlying43 rfl size43 ?_)
      | (go_at_call 52; refine HRI.out.mono ?_; rintro e w3 ⟨rfl, hb3⟩; have HB3 := hdn hb3; clear hb3))
    obtain ⟨⟨c0, c1, c2, c3, c4, c5, c6, c7, c8, c9⟩, ⟨a0, a1, a2, a3, a4, a7, a9⟩⟩ := HX.out.cells HB3.out
    rw [hk] at a0
    have HN4 := hdn (below_new1 (g.V : Int) (Int.natCast_nonneg _) a.x)
    go_wp2_with (go_at_call 53; refine (HN4.out w3).mono ?_; rintro e w4 ⟨rfl, hb4⟩; have HB4 : Hid (RowKit.Below w2.heap.size w2 w4) := hdn (HB3.out.trans (hb4.mono HB3.out.size)); clear hb4; rw [h1])
    go_ret
    exact ⟨ret_bool HR2.out.symm, HX.out.below.trans (HB4.out.mono HX.out.below.size)⟩
theorem has34_7 (g : GR) (a : Acn) (hk : a.kind = 7) (w : World) (hS : 0 ≤ g.S) (hr : Aw.Ac.rights a = true) (hG : Aw.Gl w) : Calls Tryd.prog 33 #[.agg g.cs, .agg a.cs] w (RetV w (.bool (inG g a))) := by
  obtain ⟨w2, hw2⟩ : ∃ w2, (w.alloc (.cells g.cs 30)).alloc (.cells a.cs 43) = w2 := ⟨_, rfl⟩
  have HX : Hid (Ga w w2 g a) := hdn (by rw [← hw2]; exact Ga.start w g a)
  have HW := hdn hw2
  have HRI : Hid (Calls Tryd.prog 52 #[.agg a.cs] w2 (RetV w2 (.bool true))) := hdn (by have := Aw.right_any a w2 (hG.below HX.out.below hG.big); rw [hr] at this; exact this)
  have HR : Hid (inG g a = (decide (a.x < (g.V : Int)))) := hdn (by unfold inG; simp [hk])
  have HA1 := hdn HX.out.ac
  have HNS := hdn hS
  clear hw2 hG hr hS
  go_enter Tryd.func33, Tryd.ntmps33
  go_upto_region 1 with fail
  rw [HW.out]
  go_upto_region 3 with (first
    | ((with_reducible show wpList _ _ _ (Oper.mk _ (Op.load 43 _) _ _ _ _ :: _) _ _); refine wpList_load_bk rfl 43 _ rfl (w.heap.size + 1) 43 a.cs rfl _ HA1.out Tryd.underlying43 rfl size43 ?_)
    | (go_at_call 52; refine HRI.out.mono ?_; rintro e w3 ⟨rfl, hb3⟩; have HB3 := hdn hb3; clear hb3))
  obtain ⟨⟨c0, c1, c2, c3, c4, c5, c6, c7, c8, c9⟩, ⟨a0, a1, a2, a3, a4, a7, a9⟩⟩ := HX.out.cells HB3.out
  rw [hk] at a0
  have HN4 := hdn (below_new1 (g.V : Int) (Int.natCast_nonneg _) a.x)
  go_wp2_with (go_at_call 53; refine (HN4.out w3).mono ?_; rintro e w4 ⟨rfl, hb4⟩; have HB4 : Hid (RowKit.Below w2.heap.size w2 w4) := hdn (HB3.out.trans (hb4.mono HB3.out.size)); clear hb4)
  go_ret
  exact ⟨ret_bool HR.out.symm, HX.out.below.trans (HB4.out.mono HX.out.below.size)⟩
theorem has34_8 (g : GR) (a : Acn) (hk : a.kind = 8) (w : World) (hS : 0 ≤ g.S) (hr : Aw.Ac.rights a = true) (hG : Aw.Gl w) : Calls Tryd.prog 33 #[.agg g.cs, .agg a.cs] w (RetV w (.bool (inG g a))) := by
  obtain ⟨w2, hw2⟩ : ∃ w2, (w.alloc (.cells g.cs 30)).alloc (.cells a.cs 43) = w2 := ⟨_, rfl⟩
  have HX : Hid (Ga w w2 g a) := hdn (by rw [← hw2]; exact Ga.start w g a)
  have HW := hdn hw2
  have HRI : Hid (Calls Tryd.prog 52 #[.agg a.cs] w2 (RetV w2 (.bool true))) := hdn (by have := Aw.right_any a w2 (hG.below HX.out.below hG.big); rw [hr] at this; exact this)
  have HR : Hid (inG g a = (decide (a.x < (g.V : Int)) && decide (a.y < (g.V : Int)))) := hdn (by unfold inG; simp [hk])
  have HA1 := hdn HX.out.ac
  have HNS := hdn hS
  clear hw2 hG hr hS
  go_enter Tryd.func33, Tryd.ntmps33
  go_upto_region 1 with fail
  rw [HW.out]
  go_upto_region 3 with (first
    | ((with_reducible show wpList _ _ _ (Oper.mk _ (Op.load 43 _) _ _ _ _ :: _) _ _); refine wpList_load_bk rfl 43 _ rfl (w.heap.size + 1) 43 a.cs rfl _ HA1.out Tryd.underlying43 rfl size43 ?_)
    | (go_at_call 52; refine HRI.out.mono ?_; rintro e w3 ⟨rfl, hb3⟩; have HB3 := hdn hb3; clear hb3))
  obtain ⟨⟨c0, c1, c2, c3, c4, c5, c6, c7, c8, c9⟩, ⟨a0, a1, a2, a3, a4, a7, a9⟩⟩ := HX.out.cells HB3.out
  rw [hk] at a0
  have HN4 := hdn (below_new2 (g.V : Int) (Int.natCast_nonneg _) a.x a.y)
  go_wp2_with (go_at_call 53; refine (HN4.out w3).mono ?_; rintro e w4 ⟨rfl, hb4⟩; have HB4 : Hid (RowKit.Below w2.heap.size w2 w4) := hdn (HB3.out.trans (hb4.mono HB3.out.size)); clear hb4)
  go_ret
  exact ⟨ret_bool HR.out.symm, HX.out.below.trans (HB4.out.mono HX.out.below.size)⟩
theorem has34_9 (g : GR) (a : Acn) (hk : a.kind = 9) (w : World) (hS : 0 ≤ g.S) (hr : Aw.Ac.rights a = true) (hG : Aw.Gl w) : Calls Tryd.prog 33 #[.agg g.cs, .agg a.cs] w (RetV w (.bool (inG g a))) := by
  obtain ⟨w2, hw2⟩ : ∃ w2, (w.alloc (.cells g.cs 30)).alloc (.cells a.cs 43) = w2 := ⟨_, rfl⟩
  have HX : Hid (Ga w w2 g a) := hdn (by rw [← hw2]; exact Ga.start w g a)
  have HW := hdn hw2
  have HRI : Hid (Calls Tryd.prog 52 #[.agg a.cs] w2 (RetV w2 (.bool true))) := hdn (by have := Aw.right_any a w2 (hG.below HX.out.below hG.big); rw [hr] at this; exact this)
  have HR : Hid (inG g a = (true)) := hdn (by unfold inG; simp [hk])
  have HA1 := hdn HX.out.ac
  have HNS := hdn hS
  clear hw2 hG hr hS
  go_enter Tryd.func33, Tryd.ntmps33
  go_upto_region 1 with fail
  rw [HW.out]
  go_upto_region 3 with (first
    | ((with_reducible show wpList _ _ _ (Oper.mk _ (Op.load 43 _) _ _ _ _ :: _) _ _); refine wpList_load_bk rfl 43 _ rfl (w.heap.size + 1) 43 a.cs rfl _ HA1.out Tryd.underlying43 rfl size43 ?_)
    | (go_at_call 52; refine HRI.out.mono ?_; rintro e w3 ⟨rfl, hb3⟩; have HB3 := hdn hb3; clear hb3))
  obtain ⟨⟨c0, c1, c2, c3, c4, c5, c6, c7, c8, c9⟩, ⟨a0, a1, a2, a3, a4, a7, a9⟩⟩ := HX.out.cells HB3.out
  rw [hk] at a0
  go_wp2_with fail
  go_ret
  exact ⟨ret_bool HR.out.symm, HX.out.below.trans (HB3.out.mono HX.out.below.size)⟩
theorem has34_10 (g : GR) (a : Acn) (hk : a.kind = 10) (w : World) (hS : 0 ≤ g.S) (hr : Aw.Ac.rights a = true) (hG : Aw.Gl w) : Calls Tryd.prog 33 #[.agg g.cs, .agg a.cs] w (RetV w (.bool (inG g a))) := by
  obtain ⟨w2, hw2⟩ : ∃ w2, (w.alloc (.cells g.cs 30)).alloc (.cells a.cs 43) = w2 := ⟨_, rfl⟩
  have HX : Hid (Ga w w2 g a) := hdn (by rw [← hw2]; exact Ga.start w g a)
  have HW := hdn hw2
  have HRI : Hid (Calls Tryd.prog 52 #[.agg a.cs] w2 (RetV w2 (.bool true))) := hdn (by have := Aw.right_any a w2 (hG.below HX.out.below hG.big); rw [hr] at this; exact this)
  have HR : Hid (inG g a = (decide (a.x < (g.I : Int)))) := hdn (by unfold inG; simp [hk])
  have HA1 := hdn HX.out.ac
  have HNS := hdn hS
  clear hw2 hG hr hS
  go_enter Tryd.func33, Tryd.ntmps33
  go_upto_region 1 with fail
  rw [HW.out]
  go_upto_region 3 with (first
    | ((with_reducible show wpList _ _ _ (Oper.mk _ (Op.load 43 _) _ _ _ _ :: _) _ _); refine wpList_load_bk rfl 43 _ rfl (w.heap.size + 1) 43 a.cs rfl _ HA1.out Tryd.underlying43 rfl size43 ?_)
    | (go_at_call 52; refine HRI.out.mono ?_; rintro e w3 ⟨rfl, hb3⟩; have HB3 := hdn hb3; clear hb3))
  obtain ⟨⟨c0, c1, c2, c3, c4, c5, c6, c7, c8, c9⟩, ⟨a0, a1, a2, a3, a4, a7, a9⟩⟩ := HX.out.cells HB3.out
  rw [hk] at a0
  have HN4 := hdn (below_new1 (g.I : Int) (Int.natCast_nonneg _) a.x)
  go_wp2_with (go_at_call 53; refine (HN4.out w3).mono ?_; rintro e w4 ⟨rfl, hb4⟩; have HB4 : Hid (RowKit.Below w2.heap.size w2 w4) := hdn (HB3.out.trans (hb4.mono HB3.out.size)); clear hb4)
  go_ret
  exact ⟨ret_bool HR.out.symm, HX.out.below.trans (HB4.out.mono HX.out.below.size)⟩
theorem has34_11 (g : GR) (a : Acn) (hk : a.kind = 11) (w : World) (hS : 0 ≤ g.S) (hr : Aw.Ac.rights a = true) (hG : Aw.Gl w) : Calls Tryd.prog 33 #[.agg g.cs, .agg a.cs] w (RetV w (.bool (inG g a))) := by
  obtain ⟨w2, hw2⟩ : ∃ w2, (w.alloc (.cells g.cs 30)).alloc (.cells a.cs 43) = w2 := ⟨_, rfl⟩
  have HX : Hid (Ga w w2 g a) := hdn (by rw [← hw2]; exact Ga.start w g a)
  have HW := hdn hw2
  have HRI : Hid (Calls Tryd.prog 52 #[.agg a.cs] w2 (RetV w2 (.bool true))) := hdn (by have := Aw.right_any a w2 (hG.below HX.out.below hG.big); rw [hr] at this; exact this)
  have HR : Hid (inG g a = (decide (a.x < (g.I : Int)) && decide (a.l.v < (g.I : Int)) && decide (a.r.v < (g.I : Int)))) := hdn (by unfold inG; simp [hk, Bool.and_assoc])
  have HA1 := hdn HX.out.ac
  have HNS := hdn hS
  clear hw2 hG hr hS
  go_enter Tryd.func33, Tryd.ntmps33
  go_upto_region 1 with fail
  rw [HW.out]
  go_upto_region 3 with (first
    | ((with_reducible show wpList _ _ _ (Oper.mk _ (Op.load 43 _) _ _ _ _ :: _) _ _); refine wpList_load_bk rfl 43 _ rfl (w.heap.size + 1) 43 a.cs rfl _ HA1.out Tryd.underlying43 rfl size43 ?_)
    | (go_at_call 52; refine HRI.out.mono ?_; rintro e w3 ⟨rfl, hb3⟩; have HB3 := hdn hb3; clear hb3))
  obtain ⟨⟨c0, c1, c2, c3, c4, c5, c6, c7, c8, c9⟩, ⟨a0, a1, a2, a3, a4, a7, a9⟩⟩ := HX.out.cells HB3.out
  rw [hk] at a0
  have HN4 := hdn (below_new3 (g.I : Int) (Int.natCast_nonneg _) a.x a.l.v a.r.v)
  go_wp2_with (go_at_call 53; refine (HN4.out w3).mono ?_; rintro e w4 ⟨rfl, hb4⟩; have HB4 : Hid (RowKit.Below w2.heap.size w2 w4) := hdn (HB3.out.trans (hb4.mono HB3.out.size)); clear hb4)
  go_ret
  exact ⟨ret_bool HR.out.symm, HX.out.below.trans (HB4.out.mono HX.out.below.size)⟩
theorem has34_12 (g : GR) (a : Acn) (hk : a.kind = 12) (w : World) (hS : 0 ≤ g.S) (hr : Aw.Ac.rights a = true) (hG : Aw.Gl w) : Calls Tryd.prog 33 #[.agg g.cs, .agg a.cs] w (RetV w (.bool (inG g a))) := by
  obtain ⟨w2, hw2⟩ : ∃ w2, (w.alloc (.cells g.cs 30)).alloc (.cells a.cs 43) = w2 := ⟨_, rfl⟩
  have HX : Hid (Ga w w2 g a) := hdn (by rw [← hw2]; exact Ga.start w g a)
  have HW := hdn hw2
  have HRI : Hid (Calls Tryd.prog 52 #[.agg a.cs] w2 (RetV w2 (.bool true))) := hdn (by have := Aw.right_any a w2 (hG.below HX.out.below hG.big); rw [hr] at this; exact this)
  have HR : Hid (inG g a = (decide (a.l.v < (g.I : Int)) && decide (a.r.v < (g.I : Int)))) := hdn (by unfold inG; simp [hk])
  have HA1 := hdn HX.out.ac
  have HNS := hdn hS
  clear hw2 hG hr hS
  go_enter Tryd.func33, Tryd.ntmps33
  go_upto_region 1 with fail
  rw [HW.out]
  go_upto_region 3 with (first
    | ((with_reducible show wpList _ _ _ (Oper.mk _ (Op.load 43 _) _ _ _ _ :: _) _ _); refine wpList_load_bk rfl 43 _ rfl (w.heap.size + 1) 43 a.cs rfl _ HA1.out Tryd.underlying43 rfl size43 ?_)
    | (go_at_call 52; refine HRI.out.mono ?_; rintro e w3 ⟨rfl, hb3⟩; have HB3 := hdn hb3; clear hb3))
  obtain ⟨⟨c0, c1, c2, c3, c4, c5, c6, c7, c8, c9⟩, ⟨a0, a1, a2, a3, a4, a7, a9⟩⟩ := HX.out.cells HB3.out
  rw [hk] at a0
  have HN4 := hdn (below_new2 (g.I : Int) (Int.natCast_nonneg _) a.l.v a.r.v)
  go_wp2_with (go_at_call 53; refine (HN4.out w3).mono ?_; rintro e w4 ⟨rfl, hb4⟩; have HB4 : Hid (RowKit.Below w2.heap.size w2 w4) := hdn (HB3.out.trans (hb4.mono HB3.out.size)); clear hb4)
  go_ret
  exact ⟨ret_bool HR.out.symm, HX.out.below.trans (HB4.out.mono HX.out.below.size)⟩
end Go.Proofs.YtebmhadpkncgfaaDoor
namespace Go.Proofs.YtebmhadpkncgfaaDoor
open Go.RowKit Go.Maps Go.Sort
open Aw.Ac (Acn Opd)
theorem has34_any (g : GR) (a : Acn) (w : World) (hS : 0 ≤ g.S) (hG : Aw.Gl w) : Calls Tryd.prog 33 #[.agg g.cs, .agg a.cs] w (RetV w (.bool (hasB g a))) := by
  by_cases hr : Aw.Ac.rights a = true
  · have e : hasB g a = inG g a := by unfold hasB; rw [hr, Bool.true_and]
    rw [e]
    obtain ⟨h1, h2⟩ := rights_kind hr
    have h3 : a.kind = 0 ∨ a.kind = 1 ∨ a.kind = 2 ∨ a.kind = 3 ∨ a.kind = 4 ∨ a.kind = 5 ∨ a.kind = 6 ∨ a.kind = 7 ∨ a.kind = 8 ∨ a.kind = 9 ∨ a.kind = 10 ∨ a.kind = 11 ∨ a.kind = 12 := by omega
    rcases h3 with h | h | h | h | h | h | h | h | h | h | h | h | h
    · exact has34_0 g a h w hS hr hG
    · exact has34_1 g a h w hS hr hG
    · exact has34_2 g a h w hS hr hG
    · exact has34_3 g a h w hS hr hG
    · exact has34_4 g a h w hS hr hG
    · exact has34_5 g a h w hS hr hG
    · exact has34_6 g a h w hS hr hG
    · exact has34_7 g a h w hS hr hG
    · exact has34_8 g a h w hS hr hG
    · exact has34_9 g a h w hS hr hG
    · exact has34_10 g a h w hS hr hG
    · exact has34_11 g a h w hS hr hG
    · exact has34_12 g a h w hS hr hG
  · have hr : Aw.Ac.rights a = false := by simpa using hr
    have e : hasB g a = false := by unfold hasB; rw [hr, Bool.false_and]
    rw [e]
    obtain ⟨w2, hw2⟩ : ∃ w2, (w.alloc (.cells g.cs 30)).alloc (.cells a.cs 43) = w2 := ⟨_, rfl⟩
    have HX : Hid (Ga w w2 g a) := hdn (by rw [← hw2]; exact Ga.start w g a)
    have HW := hdn hw2
    have HRI : Hid (Calls Tryd.prog 52 #[.agg a.cs] w2 (RetV w2 (.bool false))) := hdn (by have := Aw.right_any a w2 (hG.below HX.out.below hG.big); rw [hr] at this; exact this)
    have HA1 := hdn HX.out.ac
    clear hw2 hG hr hS e
    go_enter Tryd.func33, Tryd.ntmps33
    go_upto_region 1 with fail
    rw [HW.out]
    go_wp2_with (first
      | ((with_reducible show wpList _ _ _ (Oper.mk _ (Op.load 43 _) _ _ _ _ :: _) _ _); refine wpList_load_bk rfl 43 _ rfl (w.heap.size + 1) 43 a.cs rfl _ HA1.out Tryd.underlying43 rfl size43 ?_)
      | (go_at_call 52; refine HRI.out.mono ?_; rintro e w3 ⟨rfl, hb3⟩; have HB3 := hdn hb3; clear hb3))
    go_ret
    exact ⟨rfl, HX.out.below.trans (HB3.out.mono HX.out.below.size)⟩
theorem has23_0 (g : GR) (a : Acn) (hk : a.kind = 0) (w : World) (hr : Aw.Ac.rights a = true) : Calls Tryd.prog 23 #[.agg g.cs, .agg a.cs] w (RetV w (.bool (inG g a))) := by
  obtain ⟨w2, hw2⟩ : ∃ w2, (w.alloc (.cells g.cs 30)).alloc (.cells a.cs 43) = w2 := ⟨_, rfl⟩
  have HX : Hid (Ga w w2 g a) := hdn (by rw [← hw2]; exact Ga.start w g a)
  have HW := hdn hw2
  have HRI : Hid (Calls Tryd.prog 48 #[.agg a.cs] w2 (RetV w2 (.bool true))) := hdn (by have := Aw.rright_any a w2; rw [hr] at this; exact this)
  have HR : Hid (inG g a = (true)) := hdn (by unfold inG; simp [hk])
  have HA1 := hdn HX.out.ac
  clear hw2 hr
  have HR2 := HR
  go_enter Tryd.func23, Tryd.ntmps23
  go_upto_region 1 with fail
  rw [HW.out]
  go_upto_region 3 with (first
    | ((with_reducible show wpList _ _ _ (Oper.mk _ (Op.load 43 _) _ _ _ _ :: _) _ _); refine wpList_load_bk rfl 43 _ rfl (w.heap.size + 1) 43 a.cs rfl _ HA1.out Tryd.underlying43 rfl size43 ?_)
    | (go_at_call 48; refine HRI.out.mono ?_; rintro e w3 ⟨rfl, hb3⟩; have HB3 := hdn hb3; clear hb3))
  obtain ⟨⟨c0, c1, c2, c3, c4, c5, c6, c7, c8, c9⟩, ⟨a0, a1, a2, a3, a4, a7, a9⟩⟩ := HX.out.cells HB3.out
  rw [hk] at a0
  go_wp2_with fail
  go_ret
  exact ⟨ret_bool HR2.out.symm, HX.out.below.trans (HB3.out.mono HX.out.below.size)⟩
theorem has23_1 (g : GR) (a : Acn) (hk : a.kind = 1) (w : World) (hr : Aw.Ac.rights a = true) : Calls Tryd.prog 23 #[.agg g.cs, .agg a.cs] w (RetV w (.bool (inG g a))) := by
  obtain ⟨w2, hw2⟩ : ∃ w2, (w.alloc (.cells g.cs 30)).alloc (.cells a.cs 43) = w2 := ⟨_, rfl⟩
  have HX : Hid (Ga w w2 g a) := hdn (by rw [← hw2]; exact Ga.start w g a)
  have HW := hdn hw2
  have HRI : Hid (Calls Tryd.prog 48 #[.agg a.cs] w2 (RetV w2 (.bool true))) := hdn (by have := Aw.rright_any a w2; rw [hr] at this; exact this)
  have HR : Hid (inG g a = (decide (a.x < (g.V : Int)))) := hdn (by unfold inG; simp [hk])
  have HA1 := hdn HX.out.ac
  clear hw2 hr
  by_cases h0 : a.x < (g.V : Int)
  rotate_left
  · have d0 : decide (a.x < (g.V : Int)) = false := decide_eq_false h0
    have HR2 : Hid (inG g a = false) := hdn (by rw [HR.out, d0])
    clear h0
    go_enter Tryd.func23, Tryd.ntmps23
    go_upto_region 1 with fail
    rw [HW.out]
    go_upto_region 3 with (first
      | ((with_reducible show wpList _ _ _ (Oper.mk _ (Op.load 43 _) _ _ _ _ :: _) _ _); refine wpList_load_bk rfl 43 _ rfl (w.heap.size + 1) 43 a.cs rfl _ HA1.out Tryd.underlying43 rfl size43 ?_)
      | (go_at_call 48; refine HRI.out.mono ?_; rintro e w3 ⟨rfl, hb3⟩; have HB3 := hdn hb3; clear hb3))
    obtain ⟨⟨c0, c1, c2, c3, c4, c5, c6, c7, c8, c9⟩, ⟨a0, a1, a2, a3, a4, a7, a9⟩⟩ := HX.out.cells HB3.out
    rw [hk] at a0
    go_wp2_with fail
    go_ret
    exact ⟨ret_bool HR2.out.symm, HX.out.below.trans (HB3.out.mono HX.out.below.size)⟩
  have d0 : decide (a.x < (g.V : Int)) = true := decide_eq_true h0
  have HR2 : Hid (inG g a = true) := hdn (by rw [HR.out, d0])
  clear h0
  go_enter Tryd.func23, Tryd.ntmps23
  go_upto_region 1 with fail
  rw [HW.out]
  go_upto_region 3 with (first
    | ((with_reducible show wpList _ _ _ (Oper.mk _ (Op.load 43 _) _ _ _ _ :: _) _ _); refine wpList_load_bk rfl 43 _ rfl (w.heap.size + 1) 43 a.cs rfl _ HA1.out Tryd.underlying43 rfl size43 ?_)
    | (go_at_call 48; refine HRI.out.mono ?_; rintro e w3 ⟨rfl, hb3⟩; have HB3 := hdn hb3; clear hb3))
  obtain ⟨⟨c0, c1, c2, c3, c4, c5, c6, c7, c8, c9⟩, ⟨a0, a1, a2, a3, a4, a7, a9⟩⟩ := HX.out.cells HB3.out
  rw [hk] at a0
  go_wp2_with fail
  go_ret
  exact ⟨ret_bool HR2.out.symm, HX.out.below.trans (HB3.out.mono HX.out.below.size)⟩
theorem has23_2 (g : GR) (a : Acn) (hk : a.kind = 2) (w : World) (hr : Aw.Ac.rights a = true) : Calls Tryd.prog 23 #[.agg g.cs, .agg a.cs] w (RetV w (.bool (inG g a))) := by
  obtain ⟨w2, hw2⟩ : ∃ w2, (w.alloc (.cells g.cs 30)).alloc (.cells a.cs 43) = w2 := ⟨_, rfl⟩
  have HX : Hid (Ga w w2 g a) := hdn (by rw [← hw2]; exact Ga.start w g a)
  have HW := hdn hw2
  have HRI : Hid (Calls Tryd.prog 48 #[.agg a.cs] w2 (RetV w2 (.bool true))) := hdn (by have := Aw.rright_any a w2; rw [hr] at this; exact this)
  have HR : Hid (inG g a = (decide (a.x < (g.V : Int)) && decide (a.y < (g.V : Int)))) := hdn (by unfold inG; simp [hk])
  have HA1 := hdn HX.out.ac
  clear hw2 hr
  by_cases h0 : a.x < (g.V : Int)
  rotate_left
  · have d0 : decide (a.x < (g.V : Int)) = false := decide_eq_false h0
    have HR2 : Hid (inG g a = false) := hdn (by rw [HR.out, d0]; simp)
    clear h0
    go_enter Tryd.func23, Tryd.ntmps23
    go_upto_region 1 with fail
    rw [HW.out]
    go_upto_region 3 with (first
      | ((with_reducible show wpList _ _ _ (Oper.mk _ (Op.load 43 _) _ _ _ _ :: _) _ _); refine wpList_load_bk rfl 43 _ rfl (w.heap.size + 1) 43 a.cs rfl _ HA1.out Tryd.underlying43 rfl size43 ?_)
      | (go_at_call 48; refine HRI.out.mono ?_; rintro e w3 ⟨rfl, hb3⟩; have HB3 := hdn hb3; clear hb3))
    obtain ⟨⟨c0, c1, c2, c3, c4, c5, c6, c7, c8, c9⟩, ⟨a0, a1, a2, a3, a4, a7, a9⟩⟩ := HX.out.cells HB3.out
    rw [hk] at a0
    go_wp2_with fail
    go_ret
    exact ⟨ret_bool HR2.out.symm, HX.out.below.trans (HB3.out.mono HX.out.below.size)⟩
  by_cases h1 : a.y < (g.V : Int)
  rotate_left
  · have d0 : decide (a.x < (g.V : Int)) = true := decide_eq_true h0
    have d1 : decide (a.y < (g.V : Int)) = false := decide_eq_false h1
    have HR2 : Hid (inG g a = false) := hdn (by rw [HR.out, d1]; simp)
    clear h0 h1
    go_enter Tryd.func23, Tryd.ntmps23
    go_upto_region 1 with fail
    rw [HW.out]
    go_upto_region 3 with (first
      | ((with_reducible show wpList _ _ _ (Oper.mk _ (Op.load 43 _) _ _ _ _ :: _) _ _); refine wpList_load_bk rfl 43 _ rfl (w.heap.size + 1) 43 a.cs rfl _ HA1.out Tryd.underlying43 rfl size43 ?_)
      | (go_at_call 48; refine HRI.out.mono ?_; rintro e w3 ⟨rfl, hb3⟩; have HB3 := hdn hb3; clear hb3))
    obtain ⟨⟨c0, c1, c2, c3, c4, c5, c6, c7, c8, c9⟩, ⟨a0, a1, a2, a3, a4, a7, a9⟩⟩ := HX.out.cells HB3.out
    rw [hk] at a0
    go_wp2_with fail
    go_ret
    exact ⟨ret_bool HR2.out.symm, HX.out.below.trans (HB3.out.mono HX.out.below.size)⟩
  have d0 : decide (a.x < (g.V : Int)) = true := decide_eq_true h0
  have d1 : decide (a.y < (g.V : Int)) = true := decide_eq_true h1
  have HR2 : Hid (inG g a = true) := hdn (by rw [HR.out, d0, d1]; rfl)
  clear h0 h1
  go_enter Tryd.func23, Tryd.ntmps23
  go_upto_region 1 with fail
  rw [HW.out]
  go_upto_region 3 with (first
    | ((with_reducible show wpList _ _ _ (Oper.mk _ (Op.load 43 _) _ _ _ _ :: _) _ _); refine wpList_load_bk rfl 43 _ rfl (w.heap.size + 1) 43 a.cs rfl _ HA1.out Tryd.underlying43 rfl size43 ?_)
    | (go_at_call 48; refine HRI.out.mono ?_; rintro e w3 ⟨rfl, hb3⟩; have HB3 := hdn hb3; clear hb3))
  obtain ⟨⟨c0, c1, c2, c3, c4, c5, c6, c7, c8, c9⟩, ⟨a0, a1, a2, a3, a4, a7, a9⟩⟩ := HX.out.cells HB3.out
  rw [hk] at a0
  go_wp2_with fail
  go_ret
  exact ⟨ret_bool HR2.out.symm, HX.out.below.trans (HB3.out.mono HX.out.below.size)⟩
theorem has23_3 (g : GR) (a : Acn) (hk : a.kind = 3) (w : World) (hr : Aw.Ac.rights a = true) : Calls Tryd.prog 23 #[.agg g.cs, .agg a.cs] w (RetV w (.bool (inG g a))) := by
  obtain ⟨w2, hw2⟩ : ∃ w2, (w.alloc (.cells g.cs 30)).alloc (.cells a.cs 43) = w2 := ⟨_, rfl⟩
  have HX : Hid (Ga w w2 g a) := hdn (by rw [← hw2]; exact Ga.start w g a)
  have HW := hdn hw2
  have HRI : Hid (Calls Tryd.prog 48 #[.agg a.cs] w2 (RetV w2 (.bool true))) := hdn (by have := Aw.rright_any a w2; rw [hr] at this; exact this)
  have HR : Hid (inG g a = (decide (a.x < (g.V : Int)) && decide (a.y < (g.V : Int)) && decide (a.f < (g.F : Int)))) := hdn (by unfold inG; simp [hk, Bool.and_assoc])
  have HA1 := hdn HX.out.ac
  clear hw2 hr
  by_cases h0 : a.x < (g.V : Int)
  rotate_left
  · have d0 : decide (a.x < (g.V : Int)) = false := decide_eq_false h0
    have HR2 : Hid (inG g a = false) := hdn (by rw [HR.out, d0]; simp)
    clear h0
    go_enter Tryd.func23, Tryd.ntmps23
    go_upto_region 1 with fail
    rw [HW.out]
    go_upto_region 3 with (first
      | ((with_reducible show wpList _ _ _ (Oper.mk _ (Op.load 43 _) _ _ _ _ :: _) _ _); refine wpList_load_bk rfl 43 _ rfl (w.heap.size + 1) 43 a.cs rfl _ HA1.out Tryd.underlying43 rfl size43 ?_)
      | (go_at_call 48; refine HRI.out.mono ?_; rintro e w3 ⟨rfl, hb3⟩; have HB3 := hdn hb3; clear hb3))
    obtain ⟨⟨c0, c1, c2, c3, c4, c5, c6, c7, c8, c9⟩, ⟨a0, a1, a2, a3, a4, a7, a9⟩⟩ := HX.out.cells HB3.out
    rw [hk] at a0
    go_wp2_with fail
    go_ret
    exact ⟨ret_bool HR2.out.symm, HX.out.below.trans (HB3.out.mono HX.out.below.size)⟩
  by_cases h1 : a.y < (g.V : Int)
  rotate_left
  · have d0 : decide (a.x < (g.V : Int)) = true := decide_eq_true h0
    have d1 : decide (a.y < (g.V : Int)) = false := decide_eq_false h1
    have HR2 : Hid (inG g a = false) := hdn (by rw [HR.out, d1]; simp)
    clear h0 h1
    go_enter Tryd.func23, Tryd.ntmps23
    go_upto_region 1 with fail
    rw [HW.out]
    go_upto_region 3 with (first
      | ((with_reducible show wpList _ _ _ (Oper.mk _ (Op.load 43 _) _ _ _ _ :: _) _ _); refine wpList_load_bk rfl 43 _ rfl (w.heap.size + 1) 43 a.cs rfl _ HA1.out Tryd.underlying43 rfl size43 ?_)
      | (go_at_call 48; refine HRI.out.mono ?_; rintro e w3 ⟨rfl, hb3⟩; have HB3 := hdn hb3; clear hb3))
    obtain ⟨⟨c0, c1, c2, c3, c4, c5, c6, c7, c8, c9⟩, ⟨a0, a1, a2, a3, a4, a7, a9⟩⟩ := HX.out.cells HB3.out
    rw [hk] at a0
    go_wp2_with fail
    go_ret
    exact ⟨ret_bool HR2.out.symm, HX.out.below.trans (HB3.out.mono HX.out.below.size)⟩
  by_cases h2 : a.f < (g.F : Int)
  rotate_left
  · have d0 : decide (a.x < (g.V : Int)) = true := decide_eq_true h0
    have d1 : decide (a.y < (g.V : Int)) = true := decide_eq_true h1
    have d2 : decide (a.f < (g.F : Int)) = false := decide_eq_false h2
    have HR2 : Hid (inG g a = false) := hdn (by rw [HR.out, d2]; simp)
    clear h0 h1 h2
    go_enter Tryd.func23, Tryd.ntmps23
    go_upto_region 1 with fail
    rw [HW.out]
    go_upto_region 3 with (first
      | ((with_reducible show wpList _ _ _ (Oper.mk _ (Op.load 43 _) _ _ _ _ :: _) _ _); refine wpList_load_bk rfl 43 _ rfl (w.heap.size + 1) 43 a.cs rfl _ HA1.out Tryd.underlying43 rfl size43 ?_)
      | (go_at_call 48; refine HRI.out.mono ?_; rintro e w3 ⟨rfl, hb3⟩; have HB3 := hdn hb3; clear hb3))
    obtain ⟨⟨c0, c1, c2, c3, c4, c5, c6, c7, c8, c9⟩, ⟨a0, a1, a2, a3, a4, a7, a9⟩⟩ := HX.out.cells HB3.out
    rw [hk] at a0
    go_wp2_with fail
    go_ret
    exact ⟨ret_bool HR2.out.symm, HX.out.below.trans (HB3.out.mono HX.out.below.size)⟩
  have d0 : decide (a.x < (g.V : Int)) = true := decide_eq_true h0
  have d1 : decide (a.y < (g.V : Int)) = true := decide_eq_true h1
  have d2 : decide (a.f < (g.F : Int)) = true := decide_eq_true h2
  have HR2 : Hid (inG g a = true) := hdn (by rw [HR.out, d0, d1, d2]; rfl)
  clear h0 h1 h2
  go_enter Tryd.func23, Tryd.ntmps23
  go_upto_region 1 with fail
  rw [HW.out]
  go_upto_region 3 with (first
    | ((with_reducible show wpList _ _ _ (Oper.mk _ (Op.load 43 _) _ _ _ _ :: _) _ _); refine wpList_load_bk rfl 43 _ rfl (w.heap.size + 1) 43 a.cs rfl _ HA1.out Tryd.underlying43 rfl size43 ?_)
    | (go_at_call 48; refine HRI.out.mono ?_; rintro e w3 ⟨rfl, hb3⟩; have HB3 := hdn hb3; clear hb3))
  obtain ⟨⟨c0, c1, c2, c3, c4, c5, c6, c7, c8, c9⟩, ⟨a0, a1, a2, a3, a4, a7, a9⟩⟩ := HX.out.cells HB3.out
  rw [hk] at a0
  go_wp2_with fail
  go_ret
  exact ⟨ret_bool HR2.out.symm, HX.out.below.trans (HB3.out.mono HX.out.below.size)⟩
theorem has23_4 (g : GR) (a : Acn) (hk : a.kind = 4) (w : World) (hr : Aw.Ac.rights a = true) : Calls Tryd.prog 23 #[.agg g.cs, .agg a.cs] w (RetV w (.bool (inG g a))) := by
  obtain ⟨w2, hw2⟩ : ∃ w2, (w.alloc (.cells g.cs 30)).alloc (.cells a.cs 43) = w2 := ⟨_, rfl⟩
  have HX : Hid (Ga w w2 g a) := hdn (by rw [← hw2]; exact Ga.start w g a)
  have HW := hdn hw2
  have HRI : Hid (Calls Tryd.prog 48 #[.agg a.cs] w2 (RetV w2 (.bool true))) := hdn (by have := Aw.rright_any a w2; rw [hr] at this; exact this)
  have HR : Hid (inG g a = (decide (a.x < (g.V : Int)) && decide (a.f < (g.F : Int)))) := hdn (by unfold inG; simp [hk])
  have HA1 := hdn HX.out.ac
  clear hw2 hr
  by_cases h0 : a.x < (g.V : Int)
  rotate_left
  · have d0 : decide (a.x < (g.V : Int)) = false := decide_eq_false h0
    have HR2 : Hid (inG g a = false) := hdn (by rw [HR.out, d0]; simp)
    clear h0
    go_enter Tryd.func23, Tryd.ntmps23
    go_upto_region 1 with fail
    rw [HW.out]
    go_upto_region 3 with (first
      | ((with_reducible show wpList _ _ _ (Oper.mk _ (Op.load 43 _) _ _ _ _ :: _) _ _); refine wpList_load_bk rfl 43 _ rfl (w.heap.size + 1) 43 a.cs rfl _ HA1.out Tryd.underlying43 rfl size43 ?_)
      | (go_at_call 48; refine HRI.out.mono ?_; rintro e w3 ⟨rfl, hb3⟩; have HB3 := hdn hb3; clear hb3))
    obtain ⟨⟨c0, c1, c2, c3, c4, c5, c6, c7, c8, c9⟩, ⟨a0, a1, a2, a3, a4, a7, a9⟩⟩ := HX.out.cells HB3.out
    rw [hk] at a0
    go_wp2_with fail
    go_ret
    exact ⟨ret_bool HR2.out.symm, HX.out.below.trans (HB3.out.mono HX.out.below.size)⟩
  by_cases h1 : a.f < (g.F : Int)
  rotate_left
  · have d0 : decide (a.x < (g.V : Int)) = true := decide_eq_true h0
    have d1 : decide (a.f < (g.F : Int)) = false := decide_eq_false h1
    have HR2 : Hid (inG g a = false) := hdn (by rw [HR.out, d1]; simp)
    clear h0 h1
    go_enter Tryd.func23, Tryd.ntmps23
    go_upto_region 1 with fail
    rw [HW.out]
    go_upto_region 3 with (first
      | ((with_reducible show wpList _ _ _ (Oper.mk _ (Op.load 43 _) _ _ _ _ :: _) _ _); refine wpList_load_bk rfl 43 _ rfl (w.heap.size + 1) 43 a.cs rfl _ HA1.out Tryd.underlying43 rfl size43 ?_)
      | (go_at_call 48; refine HRI.out.mono ?_; rintro e w3 ⟨rfl, hb3⟩; have HB3 := hdn hb3; clear hb3))
    obtain ⟨⟨c0, c1, c2, c3, c4, c5, c6, c7, c8, c9⟩, ⟨a0, a1, a2, a3, a4, a7, a9⟩⟩ := HX.out.cells HB3.out
    rw [hk] at a0
    go_wp2_with fail
    go_ret
    exact ⟨ret_bool HR2.out.symm, HX.out.below.trans (HB3.out.mono HX.out.below.size)⟩
  have d0 : decide (a.x < (g.V : Int)) = true := decide_eq_true h0
  have d1 : decide (a.f < (g.F : Int)) = true := decide_eq_true h1
  have HR2 : Hid (inG g a = true) := hdn (by rw [HR.out, d0, d1]; rfl)
  clear h0 h1
  go_enter Tryd.func23, Tryd.ntmps23
  go_upto_region 1 with fail
  rw [HW.out]
  go_upto_region 3 with (first
    | ((with_reducible show wpList _ _ _ (Oper.mk _ (Op.load 43 _) _ _ _ _ :: _) _ _); refine wpList_load_bk rfl 43 _ rfl (w.heap.size + 1) 43 a.cs rfl _ HA1.out Tryd.underlying43 rfl size43 ?_)
    | (go_at_call 48; refine HRI.out.mono ?_; rintro e w3 ⟨rfl, hb3⟩; have HB3 := hdn hb3; clear hb3))
  obtain ⟨⟨c0, c1, c2, c3, c4, c5, c6, c7, c8, c9⟩, ⟨a0, a1, a2, a3, a4, a7, a9⟩⟩ := HX.out.cells HB3.out
  rw [hk] at a0
  go_wp2_with fail
  go_ret
  exact ⟨ret_bool HR2.out.symm, HX.out.below.trans (HB3.out.mono HX.out.below.size)⟩
theorem has23_5 (g : GR) (a : Acn) (hk : a.kind = 5) (w : World) (hr : Aw.Ac.rights a = true) : Calls Tryd.prog 23 #[.agg g.cs, .agg a.cs] w (RetV w (.bool (inG g a))) := by
  obtain ⟨w2, hw2⟩ : ∃ w2, (w.alloc (.cells g.cs 30)).alloc (.cells a.cs 43) = w2 := ⟨_, rfl⟩
  have HX : Hid (Ga w w2 g a) := hdn (by rw [← hw2]; exact Ga.start w g a)
  have HW := hdn hw2
  have HRI : Hid (Calls Tryd.prog 48 #[.agg a.cs] w2 (RetV w2 (.bool true))) := hdn (by have := Aw.rright_any a w2; rw [hr] at this; exact this)
  have HR : Hid (inG g a = (decide (a.x < (g.V : Int)) && decide (a.y < (g.V : Int)) && decide (a.f < (g.F : Int)))) := hdn (by unfold inG; simp [hk, Bool.and_assoc])
  have HA1 := hdn HX.out.ac
  clear hw2 hr
  by_cases h0 : a.x < (g.V : Int)
  rotate_left
  · have d0 : decide (a.x < (g.V : Int)) = false := decide_eq_false h0
    have HR2 : Hid (inG g a = false) := hdn (by rw [HR.out, d0]; simp)
    clear h0
    go_enter Tryd.func23, Tryd.ntmps23
    go_upto_region 1 with fail
    rw [HW.out]
    go_upto_region 3 with (first
      | ((with_reducible show wpList _ _ _ (Oper.mk _ (Op.load 43 _) _ _ _ _ :: _) _ _); refine wpList_load_bk rfl 43 _ rfl (w.heap.size + 1) 43 a.cs rfl _ HA1.out Tryd.underlying43 rfl size43 ?_)
      | (go_at_call 48; refine HRI.out.mono ?_; rintro e w3 ⟨rfl, hb3⟩; have HB3 := hdn hb3; clear hb3))
    obtain ⟨⟨c0, c1, c2, c3, c4, c5, c6, c7, c8, c9⟩, ⟨a0, a1, a2, a3, a4, a7, a9⟩⟩ := HX.out.cells HB3.out
    rw [hk] at a0
    go_wp2_with fail
    go_ret
    exact ⟨ret_bool HR2.out.symm, HX.out.below.trans (HB3.out.mono HX.out.below.size)⟩
  by_cases h1 : a.y < (g.V : Int)
  rotate_left
  · have d0 : decide (a.x < (g.V : Int)) = true := decide_eq_true h0
    have d1 : decide (a.y < (g.V : Int)) = false := decide_eq_false h1
    have HR2 : Hid (inG g a = false) := hdn (by rw [HR.out, d1]; simp)
    clear h0 h1
    go_enter Tryd.func23, Tryd.ntmps23
    go_upto_region 1 with fail
    rw [HW.out]
    go_upto_region 3 with (first
      | ((with_reducible show wpList _ _ _ (Oper.mk _ (Op.load 43 _) _ _ _ _ :: _) _ _); refine wpList_load_bk rfl 43 _ rfl (w.heap.size + 1) 43 a.cs rfl _ HA1.out Tryd.underlying43 rfl size43 ?_)
      | (go_at_call 48; refine HRI.out.mono ?_; rintro e w3 ⟨rfl, hb3⟩; have HB3 := hdn hb3; clear hb3))
    obtain ⟨⟨c0, c1, c2, c3, c4, c5, c6, c7, c8, c9⟩, ⟨a0, a1, a2, a3, a4, a7, a9⟩⟩ := HX.out.cells HB3.out
    rw [hk] at a0
    go_wp2_with fail
    go_ret
    exact ⟨ret_bool HR2.out.symm, HX.out.below.trans (HB3.out.mono HX.out.below.size)⟩
  by_cases h2 : a.f < (g.F : Int)
  rotate_left
  · have d0 : decide (a.x < (g.V : Int)) = true := decide_eq_true h0
    have d1 : decide (a.y < (g.V : Int)) = true := decide_eq_true h1
    have d2 : decide (a.f < (g.F : Int)) = false := decide_eq_false h2
    have HR2 : Hid (inG g a = false) := hdn (by rw [HR.out, d2]; simp)
    clear h0 h1 h2
    go_enter Tryd.func23, Tryd.ntmps23
    go_upto_region 1 with fail
    rw [HW.out]
    go_upto_region 3 with (first
      | ((with_reducible show wpList _ _ _ (Oper.mk _ (Op.load 43 _) _ _ _ _ :: _) _ _); refine wpList_load_bk rfl 43 _ rfl (w.heap.size + 1) 43 a.cs rfl _ HA1.out Tryd.underlying43 rfl size43 ?_)
      | (go_at_call 48; refine HRI.out.mono ?_; rintro e w3 ⟨rfl, hb3⟩; have HB3 := hdn hb3; clear hb3))
    obtain ⟨⟨c0, c1, c2, c3, c4, c5, c6, c7, c8, c9⟩, ⟨a0, a1, a2, a3, a4, a7, a9⟩⟩ := HX.out.cells HB3.out
    rw [hk] at a0
    go_wp2_with fail
    go_ret
    exact ⟨ret_bool HR2.out.symm, HX.out.below.trans (HB3.out.mono HX.out.below.size)⟩
  have d0 : decide (a.x < (g.V : Int)) = true := decide_eq_true h0
  have d1 : decide (a.y < (g.V : Int)) = true := decide_eq_true h1
  have d2 : decide (a.f < (g.F : Int)) = true := decide_eq_true h2
  have HR2 : Hid (inG g a = true) := hdn (by rw [HR.out, d0, d1, d2]; rfl)
  clear h0 h1 h2
  go_enter Tryd.func23, Tryd.ntmps23
  go_upto_region 1 with fail
  rw [HW.out]
  go_upto_region 3 with (first
    | ((with_reducible show wpList _ _ _ (Oper.mk _ (Op.load 43 _) _ _ _ _ :: _) _ _); refine wpList_load_bk rfl 43 _ rfl (w.heap.size + 1) 43 a.cs rfl _ HA1.out Tryd.underlying43 rfl size43 ?_)
    | (go_at_call 48; refine HRI.out.mono ?_; rintro e w3 ⟨rfl, hb3⟩; have HB3 := hdn hb3; clear hb3))
  obtain ⟨⟨c0, c1, c2, c3, c4, c5, c6, c7, c8, c9⟩, ⟨a0, a1, a2, a3, a4, a7, a9⟩⟩ := HX.out.cells HB3.out
  rw [hk] at a0
  go_wp2_with fail
  go_ret
  exact ⟨ret_bool HR2.out.symm, HX.out.below.trans (HB3.out.mono HX.out.below.size)⟩
theorem has23_6 (g : GR) (a : Acn) (hk : a.kind = 6) (w : World) (hr : Aw.Ac.rights a = true) : Calls Tryd.prog 23 #[.agg g.cs, .agg a.cs] w (RetV w (.bool (inG g a))) := by
  obtain ⟨w2, hw2⟩ : ∃ w2, (w.alloc (.cells g.cs 30)).alloc (.cells a.cs 43) = w2 := ⟨_, rfl⟩
  have HX : Hid (Ga w w2 g a) := hdn (by rw [← hw2]; exact Ga.start w g a)
  have HW := hdn hw2
  have HRI : Hid (Calls Tryd.prog 48 #[.agg a.cs] w2 (RetV w2 (.bool true))) := hdn (by have := Aw.rright_any a w2; rw [hr] at this; exact this)
  have HR : Hid (inG g a = (decide (a.x < (g.V : Int)) && decide (a.t < g.S))) := hdn (by unfold inG; simp [hk])
  have HA1 := hdn HX.out.ac
  clear hw2 hr
  by_cases h0 : a.x < (g.V : Int)
  rotate_left
  · have d0 : decide (a.x < (g.V : Int)) = false := decide_eq_false h0
    have HR2 : Hid (inG g a = false) := hdn (by rw [HR.out, d0]; simp)
    clear h0
    go_enter Tryd.func23, Tryd.ntmps23
    go_upto_region 1 with fail
    rw [HW.out]
    go_upto_region 3 with (first
      | ((with_reducible show wpList _ _ _ (Oper.mk _ (Op.load 43 _) _ _ _ _ :: _) _ _); refine wpList_load_bk rfl 43 _ rfl (w.heap.size + 1) 43 a.cs rfl _ HA1.out Tryd.underlying43 rfl size43 ?_)
      | (go_at_call 48; refine HRI.out.mono ?_; rintro e w3 ⟨rfl, hb3⟩; have HB3 := hdn hb3; clear hb3))
    obtain ⟨⟨c0, c1, c2, c3, c4, c5, c6, c7, c8, c9⟩, ⟨a0, a1, a2, a3, a4, a7, a9⟩⟩ := HX.out.cells HB3.out
    rw [hk] at a0
    go_wp2_with fail
    go_ret
    exact ⟨ret_bool HR2.out.symm, HX.out.below.trans (HB3.out.mono HX.out.below.size)⟩
  by_cases h1 : a.t < g.S
  rotate_left
  · have d0 : decide (a.x < (g.V : Int)) = true := decide_eq_true h0
    have d1 : decide (a.t < g.S) = false := decide_eq_false h1
    have HR2 : Hid (inG g a = false) := hdn (by rw [HR.out, d1]; simp)
    clear h0 h1
    go_enter Tryd.func23, Tryd.ntmps23
    go_upto_region 1 with fail
    rw [HW.out]
    go_upto_region 3 with (first
      | ((with_reducible show wpList _ _ _ (Oper.mk _ (Op.load 43 _) _ _ _ _ :: _) _ _); refine wpList_load_bk rfl 43 _ rfl (w.heap.size + 1) 43 a.cs rfl _ HA1.out Tryd.underlying43 rfl size43 ?_)
      | (go_at_call 48; refine HRI.out.mono ?_; rintro e w3 ⟨rfl, hb3⟩; have HB3 := hdn hb3; clear hb3))
    obtain ⟨⟨c0, c1, c2, c3, c4, c5, c6, c7, c8, c9⟩, ⟨a0, a1, a2, a3, a4, a7, a9⟩⟩ := HX.out.cells HB3.out
    rw [hk] at a0
    go_wp2_with fail
    go_ret
    exact ⟨ret_bool HR2.out.symm, HX.out.below.trans (HB3.out.mono HX.out.below.size)⟩
  have d0 : decide (a.x < (g.V : Int)) = true := decide_eq_true h0
  have d1 : decide (a.t < g.S) = true := decide_eq_true h1
  have HR2 : Hid (inG g a = true) := hdn (by rw [HR.out, d0, d1]; rfl)
  clear h0 h1
  go_enter Tryd.func23, Tryd.ntmps23
  go_upto_region 1 with fail
  rw [HW.out]
  go_upto_region 3 with (first
    | ((with_reducible show wpList _ _ _ (Oper.mk _ (Op.load 43 _) _ _ _ _ :: _) _ _); refine wpList_load_bk rfl 43 _ rfl (w.heap.size + 1) 43 a.cs rfl _ HA1.out Tryd.underlying43 rfl size43 ?_)
    | (go_at_call 48; refine HRI.out.mono ?_; rintro e w3 ⟨rfl, hb3⟩; have HB3 := hdn hb3; clear hb3))
  obtain ⟨⟨c0, c1, c2, c3, c4, c5, c6, c7, c8, c9⟩, ⟨a0, a1, a2, a3, a4, a7, a9⟩⟩ := HX.out.cells HB3.out
  rw [hk] at a0
  go_wp2_with fail
  go_ret
  exact ⟨ret_bool HR2.out.symm, HX.out.below.trans (HB3.out.mono HX.out.below.size)⟩
theorem has23_7 (g : GR) (a : Acn) (hk : a.kind = 7) (w : World) (hr : Aw.Ac.rights a = true) : Calls Tryd.prog 23 #[.agg g.cs, .agg a.cs] w (RetV w (.bool (inG g a))) := by
  obtain ⟨w2, hw2⟩ : ∃ w2, (w.alloc (.cells g.cs 30)).alloc (.cells a.cs 43) = w2 := ⟨_, rfl⟩
  have HX : Hid (Ga w w2 g a) := hdn (by rw [← hw2]; exact Ga.start w g a)
  have HW := hdn hw2
  have HRI : Hid (Calls Tryd.prog 48 #[.agg a.cs] w2 (RetV w2 (.bool true))) := hdn (by have := Aw.rright_any a w2; rw [hr] at this; exact this)
  have HR : Hid (inG g a = (decide (a.x < (g.V : Int)))) := hdn (by unfold inG; simp [hk])
  have HA1 := hdn HX.out.ac
  clear hw2 hr
  by_cases h0 : a.x < (g.V : Int)
  rotate_left
  · have d0 : decide (a.x < (g.V : Int)) = false := decide_eq_false h0
    have HR2 : Hid (inG g a = false) := hdn (by rw [HR.out, d0])
    clear h0
    go_enter Tryd.func23, Tryd.ntmps23
    go_upto_region 1 with fail
    rw [HW.out]
    go_upto_region 3 with (first
      | ((with_reducible show wpList _ _ _ (Oper.mk _ (Op.load 43 _) _ _ _ _ :: _) _ _); refine wpList_load_bk rfl 43 _ rfl (w.heap.size + 1) 43 a.cs rfl _ HA1.out Tryd.underlying43 rfl size43 ?_)
      | (go_at_call 48; refine HRI.out.mono ?_; rintro e w3 ⟨rfl, hb3⟩; have HB3 := hdn hb3; clear hb3))
    obtain ⟨⟨c0, c1, c2, c3, c4, c5, c6, c7, c8, c9⟩, ⟨a0, a1, a2, a3, a4, a7, a9⟩⟩ := HX.out.cells HB3.out
    rw [hk] at a0
    go_wp2_with fail
    go_ret
    exact ⟨ret_bool HR2.out.symm, HX.out.below.trans (HB3.out.mono HX.out.below.size)⟩
  have d0 : decide (a.x < (g.V : Int)) = true := decide_eq_true h0
  have HR2 : Hid (inG g a = true) := hdn (by rw [HR.out, d0])
  clear h0
  go_enter Tryd.func23, Tryd.ntmps23
  go_upto_region 1 with fail
  rw [HW.out]
  go_upto_region 3 with (first
    | ((with_reducible show wpList _ _ _ (Oper.mk _ (Op.load 43 _) _ _ _ _ :: _) _ _); refine wpList_load_bk rfl 43 _ rfl (w.heap.size + 1) 43 a.cs rfl _ HA1.out Tryd.underlying43 rfl size43 ?_)
    | (go_at_call 48; refine HRI.out.mono ?_; rintro e w3 ⟨rfl, hb3⟩; have HB3 := hdn hb3; clear hb3))
  obtain ⟨⟨c0, c1, c2, c3, c4, c5, c6, c7, c8, c9⟩, ⟨a0, a1, a2, a3, a4, a7, a9⟩⟩ := HX.out.cells HB3.out
  rw [hk] at a0
  go_wp2_with fail
  go_ret
  exact ⟨ret_bool HR2.out.symm, HX.out.below.trans (HB3.out.mono HX.out.below.size)⟩
theorem has23_8 (g : GR) (a : Acn) (hk : a.kind = 8) (w : World) (hr : Aw.Ac.rights a = true) : Calls Tryd.prog 23 #[.agg g.cs, .agg a.cs] w (RetV w (.bool (inG g a))) := by
  obtain ⟨w2, hw2⟩ : ∃ w2, (w.alloc (.cells g.cs 30)).alloc (.cells a.cs 43) = w2 := ⟨_, rfl⟩
  have HX : Hid (Ga w w2 g a) := hdn (by rw [← hw2]; exact Ga.start w g a)
  have HW := hdn hw2
  have HRI : Hid (Calls Tryd.prog 48 #[.agg a.cs] w2 (RetV w2 (.bool true))) := hdn (by have := Aw.rright_any a w2; rw [hr] at this; exact this)
  have HR : Hid (inG g a = (decide (a.x < (g.V : Int)) && decide (a.y < (g.V : Int)))) := hdn (by unfold inG; simp [hk])
  have HA1 := hdn HX.out.ac
  clear hw2 hr
  by_cases h0 : a.x < (g.V : Int)
  rotate_left
  · have d0 : decide (a.x < (g.V : Int)) = false := decide_eq_false h0
    have HR2 : Hid (inG g a = false) := hdn (by rw [HR.out, d0]; simp)
    clear h0
    go_enter Tryd.func23, Tryd.ntmps23
    go_upto_region 1 with fail
    rw [HW.out]
    go_upto_region 3 with (first
      | ((with_reducible show wpList _ _ _ (Oper.mk _ (Op.load 43 _) _ _ _ _ :: _) _ _); refine wpList_load_bk rfl 43 _ rfl (w.heap.size + 1) 43 a.cs rfl _ HA1.out Tryd.underlying43 rfl size43 ?_)
      | (go_at_call 48; refine HRI.out.mono ?_; rintro e w3 ⟨rfl, hb3⟩; have HB3 := hdn hb3; clear hb3))
    obtain ⟨⟨c0, c1, c2, c3, c4, c5, c6, c7, c8, c9⟩, ⟨a0, a1, a2, a3, a4, a7, a9⟩⟩ := HX.out.cells HB3.out
    rw [hk] at a0
    go_wp2_with fail
    go_ret
    exact ⟨ret_bool HR2.out.symm, HX.out.below.trans (HB3.out.mono HX.out.below.size)⟩
  by_cases h1 : a.y < (g.V : Int)
  rotate_left
  · have d0 : decide (a.x < (g.V : Int)) = true := decide_eq_true h0
    have d1 : decide (a.y < (g.V : Int)) = false := decide_eq_false h1
    have HR2 : Hid (inG g a = false) := hdn (by rw [HR.out, d1]; simp)
    clear h0 h1
    go_enter Tryd.func23, Tryd.ntmps23
    go_upto_region 1 with fail
    rw [HW.out]
    go_upto_region 3 with (first
      | ((with_reducible show wpList _ _ _ (Oper.mk _ (Op.load 43 _) _ _ _ _ :: _) _ _); refine wpList_load_bk rfl 43 _ rfl (w.heap.size + 1) 43 a.cs rfl _ HA1.out Tryd.underlying43 rfl size43 ?_)
      | (go_at_call 48; refine HRI.out.mono ?_; rintro e w3 ⟨rfl, hb3⟩; have HB3 := hdn hb3; clear hb3))
    obtain ⟨⟨c0, c1, c2, c3, c4, c5, c6, c7, c8, c9⟩, ⟨a0, a1, a2, a3, a4, a7, a9⟩⟩ := HX.out.cells HB3.out
    rw [hk] at a0
    go_wp2_with fail
    go_ret
    exact ⟨ret_bool HR2.out.symm, HX.out.below.trans (HB3.out.mono HX.out.below.size)⟩
  have d0 : decide (a.x < (g.V : Int)) = true := decide_eq_true h0
  have d1 : decide (a.y < (g.V : Int)) = true := decide_eq_true h1
  have HR2 : Hid (inG g a = true) := hdn (by rw [HR.out, d0, d1]; rfl)
  clear h0 h1
  go_enter Tryd.func23, Tryd.ntmps23
  go_upto_region 1 with fail
  rw [HW.out]
  go_upto_region 3 with (first
    | ((with_reducible show wpList _ _ _ (Oper.mk _ (Op.load 43 _) _ _ _ _ :: _) _ _); refine wpList_load_bk rfl 43 _ rfl (w.heap.size + 1) 43 a.cs rfl _ HA1.out Tryd.underlying43 rfl size43 ?_)
    | (go_at_call 48; refine HRI.out.mono ?_; rintro e w3 ⟨rfl, hb3⟩; have HB3 := hdn hb3; clear hb3))
  obtain ⟨⟨c0, c1, c2, c3, c4, c5, c6, c7, c8, c9⟩, ⟨a0, a1, a2, a3, a4, a7, a9⟩⟩ := HX.out.cells HB3.out
  rw [hk] at a0
  go_wp2_with fail
  go_ret
  exact ⟨ret_bool HR2.out.symm, HX.out.below.trans (HB3.out.mono HX.out.below.size)⟩
theorem has23_9 (g : GR) (a : Acn) (hk : a.kind = 9) (w : World) (hr : Aw.Ac.rights a = true) : Calls Tryd.prog 23 #[.agg g.cs, .agg a.cs] w (RetV w (.bool (inG g a))) := by
  obtain ⟨w2, hw2⟩ : ∃ w2, (w.alloc (.cells g.cs 30)).alloc (.cells a.cs 43) = w2 := ⟨_, rfl⟩
  have HX : Hid (Ga w w2 g a) := hdn (by rw [← hw2]; exact Ga.start w g a)
  have HW := hdn hw2
  have HRI : Hid (Calls Tryd.prog 48 #[.agg a.cs] w2 (RetV w2 (.bool true))) := hdn (by have := Aw.rright_any a w2; rw [hr] at this; exact this)
  have HR : Hid (inG g a = (true)) := hdn (by unfold inG; simp [hk])
  have HA1 := hdn HX.out.ac
  clear hw2 hr
  have HR2 := HR
  go_enter Tryd.func23, Tryd.ntmps23
  go_upto_region 1 with fail
  rw [HW.out]
  go_upto_region 3 with (first
    | ((with_reducible show wpList _ _ _ (Oper.mk _ (Op.load 43 _) _ _ _ _ :: _) _ _); refine wpList_load_bk rfl 43 _ rfl (w.heap.size + 1) 43 a.cs rfl _ HA1.out Tryd.underlying43 rfl size43 ?_)
    | (go_at_call 48; refine HRI.out.mono ?_; rintro e w3 ⟨rfl, hb3⟩; have HB3 := hdn hb3; clear hb3))
  obtain ⟨⟨c0, c1, c2, c3, c4, c5, c6, c7, c8, c9⟩, ⟨a0, a1, a2, a3, a4, a7, a9⟩⟩ := HX.out.cells HB3.out
  rw [hk] at a0
  go_wp2_with fail
  go_ret
  exact ⟨ret_bool HR2.out.symm, HX.out.below.trans (HB3.out.mono HX.out.below.size)⟩
theorem has23_10 (g : GR) (a : Acn) (hk : a.kind = 10) (w : World) (hr : Aw.Ac.rights a = true) : Calls Tryd.prog 23 #[.agg g.cs, .agg a.cs] w (RetV w (.bool (inG g a))) := by
  obtain ⟨w2, hw2⟩ : ∃ w2, (w.alloc (.cells g.cs 30)).alloc (.cells a.cs 43) = w2 := ⟨_, rfl⟩
  have HX : Hid (Ga w w2 g a) := hdn (by rw [← hw2]; exact Ga.start w g a)
  have HW := hdn hw2
  have HRI : Hid (Calls Tryd.prog 48 #[.agg a.cs] w2 (RetV w2 (.bool true))) := hdn (by have := Aw.rright_any a w2; rw [hr] at this; exact this)
  have HR : Hid (inG g a = (decide (a.x < (g.I : Int)))) := hdn (by unfold inG; simp [hk])
  have HA1 := hdn HX.out.ac
  clear hw2 hr
  by_cases h0 : a.x < (g.I : Int)
  rotate_left
  · have d0 : decide (a.x < (g.I : Int)) = false := decide_eq_false h0
    have HR2 : Hid (inG g a = false) := hdn (by rw [HR.out, d0])
    clear h0
    go_enter Tryd.func23, Tryd.ntmps23
    go_upto_region 1 with fail
    rw [HW.out]
    go_upto_region 3 with (first
      | ((with_reducible show wpList _ _ _ (Oper.mk _ (Op.load 43 _) _ _ _ _ :: _) _ _); refine wpList_load_bk rfl 43 _ rfl (w.heap.size + 1) 43 a.cs rfl _ HA1.out Tryd.underlying43 rfl size43 ?_)
      | (go_at_call 48; refine HRI.out.mono ?_; rintro e w3 ⟨rfl, hb3⟩; have HB3 := hdn hb3; clear hb3))
    obtain ⟨⟨c0, c1, c2, c3, c4, c5, c6, c7, c8, c9⟩, ⟨a0, a1, a2, a3, a4, a7, a9⟩⟩ := HX.out.cells HB3.out
    rw [hk] at a0
    go_wp2_with fail
    go_ret
    exact ⟨ret_bool HR2.out.symm, HX.out.below.trans (HB3.out.mono HX.out.below.size)⟩
  have d0 : decide (a.x < (g.I : Int)) = true := decide_eq_true h0
  have HR2 : Hid (inG g a = true) := hdn (by rw [HR.out, d0])
  clear h0
  go_enter Tryd.func23, Tryd.ntmps23
  go_upto_region 1 with fail
  rw [HW.out]
  go_upto_region 3 with (first
    | ((with_reducible show wpList _ _ _ (Oper.mk _ (Op.load 43 _) _ _ _ _ :: _) _ _); refine wpList_load_bk rfl 43 _ rfl (w.heap.size + 1) 43 a.cs rfl _ HA1.out Tryd.underlying43 rfl size43 ?_)
    | (go_at_call 48; refine HRI.out.mono ?_; rintro e w3 ⟨rfl, hb3⟩; have HB3 := hdn hb3; clear hb3))
  obtain ⟨⟨c0, c1, c2, c3, c4, c5, c6, c7, c8, c9⟩, ⟨a0, a1, a2, a3, a4, a7, a9⟩⟩ := HX.out.cells HB3.out
  rw [hk] at a0
  go_wp2_with fail
  go_ret
  exact ⟨ret_bool HR2.out.symm, HX.out.below.trans (HB3.out.mono HX.out.below.size)⟩
theorem has23_11 (g : GR) (a : Acn) (hk : a.kind = 11) (w : World) (hr : Aw.Ac.rights a = true) : Calls Tryd.prog 23 #[.agg g.cs, .agg a.cs] w (RetV w (.bool (inG g a))) := by
  obtain ⟨w2, hw2⟩ : ∃ w2, (w.alloc (.cells g.cs 30)).alloc (.cells a.cs 43) = w2 := ⟨_, rfl⟩
  have HX : Hid (Ga w w2 g a) := hdn (by rw [← hw2]; exact Ga.start w g a)
  have HW := hdn hw2
  have HRI : Hid (Calls Tryd.prog 48 #[.agg a.cs] w2 (RetV w2 (.bool true))) := hdn (by have := Aw.rright_any a w2; rw [hr] at this; exact this)
  have HR : Hid (inG g a = (decide (a.x < (g.I : Int)) && decide (a.l.v < (g.I : Int)) && decide (a.r.v < (g.I : Int)))) := hdn (by unfold inG; simp [hk, Bool.and_assoc])
  have HA1 := hdn HX.out.ac
  have HX0 := hdn (rights_x11 hr hk)
  clear hw2 hr
  by_cases h0 : a.x < (g.I : Int)
  rotate_left
  · have d0 : decide (a.x < (g.I : Int)) = false := decide_eq_false h0
    have HR2 : Hid (inG g a = false) := hdn (by rw [HR.out, d0]; simp)
    clear h0
    go_enter Tryd.func23, Tryd.ntmps23
    go_upto_region 1 with fail
    rw [HW.out]
    go_upto_region 3 with (first
      | ((with_reducible show wpList _ _ _ (Oper.mk _ (Op.load 43 _) _ _ _ _ :: _) _ _); refine wpList_load_bk rfl 43 _ rfl (w.heap.size + 1) 43 a.cs rfl _ HA1.out Tryd.underlying43 rfl size43 ?_)
      | (go_at_call 48; refine HRI.out.mono ?_; rintro e w3 ⟨rfl, hb3⟩; have HB3 := hdn hb3; clear hb3))
    obtain ⟨⟨c0, c1, c2, c3, c4, c5, c6, c7, c8, c9⟩, ⟨a0, a1, a2, a3, a4, a7, a9⟩⟩ := HX.out.cells HB3.out
    rw [hk] at a0
    go_wp2_with fail
    go_ret
    exact ⟨ret_bool HR2.out.symm, HX.out.below.trans (HB3.out.mono HX.out.below.size)⟩
  by_cases h1 : a.l.v < (g.I : Int)
  rotate_left
  · have d0 : decide (a.x < (g.I : Int)) = true := decide_eq_true h0
    have d1 : decide (a.l.v < (g.I : Int)) = false := decide_eq_false h1
    have HR2 : Hid (inG g a = false) := hdn (by rw [HR.out, d1]; simp)
    clear h0 h1
    go_enter Tryd.func23, Tryd.ntmps23
    go_upto_region 1 with fail
    rw [HW.out]
    go_upto_region 3 with (first
      | ((with_reducible show wpList _ _ _ (Oper.mk _ (Op.load 43 _) _ _ _ _ :: _) _ _); refine wpList_load_bk rfl 43 _ rfl (w.heap.size + 1) 43 a.cs rfl _ HA1.out Tryd.underlying43 rfl size43 ?_)
      | (go_at_call 48; refine HRI.out.mono ?_; rintro e w3 ⟨rfl, hb3⟩; have HB3 := hdn hb3; clear hb3))
    obtain ⟨⟨c0, c1, c2, c3, c4, c5, c6, c7, c8, c9⟩, ⟨a0, a1, a2, a3, a4, a7, a9⟩⟩ := HX.out.cells HB3.out
    rw [hk] at a0
    go_wp2_with fail
    go_ret
    exact ⟨ret_bool HR2.out.symm, HX.out.below.trans (HB3.out.mono HX.out.below.size)⟩
  by_cases h2 : a.r.v < (max (g.I : Int) 1)
  rotate_left
  · have d0 : decide (a.x < (g.I : Int)) = true := decide_eq_true h0
    have d1 : decide (a.l.v < (g.I : Int)) = true := decide_eq_true h1
    have d2 : decide (a.r.v < (max (g.I : Int) 1)) = false := decide_eq_false h2
    have HR2 : Hid (inG g a = false) := hdn (by have := HX0.out; rw [HR.out, decide_eq_false (show ¬ a.r.v < (g.I : Int) by omega), Bool.and_false])
    clear h0 h1 h2
    go_enter Tryd.func23, Tryd.ntmps23
    go_upto_region 1 with fail
    rw [HW.out]
    go_upto_region 3 with (first
      | ((with_reducible show wpList _ _ _ (Oper.mk _ (Op.load 43 _) _ _ _ _ :: _) _ _); refine wpList_load_bk rfl 43 _ rfl (w.heap.size + 1) 43 a.cs rfl _ HA1.out Tryd.underlying43 rfl size43 ?_)
      | (go_at_call 48; refine HRI.out.mono ?_; rintro e w3 ⟨rfl, hb3⟩; have HB3 := hdn hb3; clear hb3))
    obtain ⟨⟨c0, c1, c2, c3, c4, c5, c6, c7, c8, c9⟩, ⟨a0, a1, a2, a3, a4, a7, a9⟩⟩ := HX.out.cells HB3.out
    rw [hk] at a0
    go_wp2_with fail
    go_ret
    exact ⟨ret_bool HR2.out.symm, HX.out.below.trans (HB3.out.mono HX.out.below.size)⟩
  have d0 : decide (a.x < (g.I : Int)) = true := decide_eq_true h0
  have d1 : decide (a.l.v < (g.I : Int)) = true := decide_eq_true h1
  have d2 : decide (a.r.v < (max (g.I : Int) 1)) = true := decide_eq_true h2
  have HR2 : Hid (inG g a = true) := hdn (by have := HX0.out; rw [HR.out, d0, d1, decide_eq_true (show a.r.v < (g.I : Int) by omega)]; rfl)
  clear h0 h1 h2
  go_enter Tryd.func23, Tryd.ntmps23
  go_upto_region 1 with fail
  rw [HW.out]
  go_upto_region 3 with (first
    | ((with_reducible show wpList _ _ _ (Oper.mk _ (Op.load 43 _) _ _ _ _ :: _) _ _); refine wpList_load_bk rfl 43 _ rfl (w.heap.size + 1) 43 a.cs rfl _ HA1.out Tryd.underlying43 rfl size43 ?_)
    | (go_at_call 48; refine HRI.out.mono ?_; rintro e w3 ⟨rfl, hb3⟩; have HB3 := hdn hb3; clear hb3))
  obtain ⟨⟨c0, c1, c2, c3, c4, c5, c6, c7, c8, c9⟩, ⟨a0, a1, a2, a3, a4, a7, a9⟩⟩ := HX.out.cells HB3.out
  rw [hk] at a0
  go_wp2_with fail
  go_ret
  exact ⟨ret_bool HR2.out.symm, HX.out.below.trans (HB3.out.mono HX.out.below.size)⟩
theorem has23_12 (g : GR) (a : Acn) (hk : a.kind = 12) (w : World) (hr : Aw.Ac.rights a = true) : Calls Tryd.prog 23 #[.agg g.cs, .agg a.cs] w (RetV w (.bool (inG g a))) := by
  obtain ⟨w2, hw2⟩ : ∃ w2, (w.alloc (.cells g.cs 30)).alloc (.cells a.cs 43) = w2 := ⟨_, rfl⟩
  have HX : Hid (Ga w w2 g a) := hdn (by rw [← hw2]; exact Ga.start w g a)
  have HW := hdn hw2
  have HRI : Hid (Calls Tryd.prog 48 #[.agg a.cs] w2 (RetV w2 (.bool true))) := hdn (by have := Aw.rright_any a w2; rw [hr] at this; exact this)
  have HR : Hid (inG g a = (decide (a.l.v < (g.I : Int)) && decide (a.r.v < (g.I : Int)))) := hdn (by unfold inG; simp [hk])
  have HA1 := hdn HX.out.ac
  clear hw2 hr
  by_cases h0 : a.l.v < (g.I : Int)
  rotate_left
  · have d0 : decide (a.l.v < (g.I : Int)) = false := decide_eq_false h0
    have HR2 : Hid (inG g a = false) := hdn (by rw [HR.out, d0]; simp)
    clear h0
    go_enter Tryd.func23, Tryd.ntmps23
    go_upto_region 1 with fail
    rw [HW.out]
    go_upto_region 3 with (first
      | ((with_reducible show wpList _ _ _ (Oper.mk _ (Op.load 43 _) _ _ _ _ :: _) _ _); refine wpList_load_bk rfl 43 _ rfl (w.heap.size + 1) 43 a.cs rfl _ HA1.out Tryd.underlying43 rfl size43 ?_)
      | (go_at_call 48; refine HRI.out.mono ?_; rintro e w3 ⟨rfl, hb3⟩; have HB3 := hdn hb3; clear hb3))
    obtain ⟨⟨c0, c1, c2, c3, c4, c5, c6, c7, c8, c9⟩, ⟨a0, a1, a2, a3, a4, a7, a9⟩⟩ := HX.out.cells HB3.out
    rw [hk] at a0
    go_wp2_with fail
    go_ret
    exact ⟨ret_bool HR2.out.symm, HX.out.below.trans (HB3.out.mono HX.out.below.size)⟩
  by_cases h1 : a.r.v < (g.I : Int)
  rotate_left
  · have d0 : decide (a.l.v < (g.I : Int)) = true := decide_eq_true h0
    have d1 : decide (a.r.v < (g.I : Int)) = false := decide_eq_false h1
    have HR2 : Hid (inG g a = false) := hdn (by rw [HR.out, d1]; simp)
    clear h0 h1
    go_enter Tryd.func23, Tryd.ntmps23
    go_upto_region 1 with fail
    rw [HW.out]
    go_upto_region 3 with (first
      | ((with_reducible show wpList _ _ _ (Oper.mk _ (Op.load 43 _) _ _ _ _ :: _) _ _); refine wpList_load_bk rfl 43 _ rfl (w.heap.size + 1) 43 a.cs rfl _ HA1.out Tryd.underlying43 rfl size43 ?_)
      | (go_at_call 48; refine HRI.out.mono ?_; rintro e w3 ⟨rfl, hb3⟩; have HB3 := hdn hb3; clear hb3))
    obtain ⟨⟨c0, c1, c2, c3, c4, c5, c6, c7, c8, c9⟩, ⟨a0, a1, a2, a3, a4, a7, a9⟩⟩ := HX.out.cells HB3.out
    rw [hk] at a0
    go_wp2_with fail
    go_ret
    exact ⟨ret_bool HR2.out.symm, HX.out.below.trans (HB3.out.mono HX.out.below.size)⟩
  have d0 : decide (a.l.v < (g.I : Int)) = true := decide_eq_true h0
  have d1 : decide (a.r.v < (g.I : Int)) = true := decide_eq_true h1
  have HR2 : Hid (inG g a = true) := hdn (by rw [HR.out, d0, d1]; rfl)
  clear h0 h1
  go_enter Tryd.func23, Tryd.ntmps23
  go_upto_region 1 with fail
  rw [HW.out]
  go_upto_region 3 with (first
    | ((with_reducible show wpList _ _ _ (Oper.mk _ (Op.load 43 _) _ _ _ _ :: _) _ _); refine wpList_load_bk rfl 43 _ rfl (w.heap.size + 1) 43 a.cs rfl _ HA1.out Tryd.underlying43 rfl size43 ?_)
    | (go_at_call 48; refine HRI.out.mono ?_; rintro e w3 ⟨rfl, hb3⟩; have HB3 := hdn hb3; clear hb3))
  obtain ⟨⟨c0, c1, c2, c3, c4, c5, c6, c7, c8, c9⟩, ⟨a0, a1, a2, a3, a4, a7, a9⟩⟩ := HX.out.cells HB3.out
  rw [hk] at a0
  go_wp2_with fail
  go_ret
  exact ⟨ret_bool HR2.out.symm, HX.out.below.trans (HB3.out.mono HX.out.below.size)⟩
theorem has23_any (g : GR) (a : Acn) (w : World) : Calls Tryd.prog 23 #[.agg g.cs, .agg a.cs] w (RetV w (.bool (hasB g a))) := by
  by_cases hr : Aw.Ac.rights a = true
  · have e : hasB g a = inG g a := by unfold hasB; rw [hr, Bool.true_and]
    rw [e]
    obtain ⟨h1, h2⟩ := rights_kind hr
    have h3 : a.kind = 0 ∨ a.kind = 1 ∨ a.kind = 2 ∨ a.kind = 3 ∨ a.kind = 4 ∨ a.kind = 5 ∨ a.kind = 6 ∨ a.kind = 7 ∨ a.kind = 8 ∨ a.kind = 9 ∨ a.kind = 10 ∨ a.kind = 11 ∨ a.kind = 12 := by omega
    rcases h3 with h | h | h | h | h | h | h | h | h | h | h | h | h
    · exact has23_0 g a h w hr
    · exact has23_1 g a h w hr
    · exact has23_2 g a h w hr
    · exact has23_3 g a h w hr
    · exact has23_4 g a h w hr
    · exact has23_5 g a h w hr
    · exact has23_6 g a h w hr
    · exact has23_7 g a h w hr
    · exact has23_8 g a h w hr
    · exact has23_9 g a h w hr
    · exact has23_10 g a h w hr
    · exact has23_11 g a h w hr
    · exact has23_12 g a h w hr
  · have hr : Aw.Ac.rights a = false := by simpa using hr
    have e : hasB g a = false := by unfold hasB; rw [hr, Bool.false_and]
    rw [e]
    obtain ⟨w2, hw2⟩ : ∃ w2, (w.alloc (.cells g.cs 30)).alloc (.cells a.cs 43) = w2 := ⟨_, rfl⟩
    have HX : Hid (Ga w w2 g a) := hdn (by rw [← hw2]; exact Ga.start w g a)
    have HW := hdn hw2
    have HRI : Hid (Calls Tryd.prog 48 #[.agg a.cs] w2 (RetV w2 (.bool false))) := hdn (by have := Aw.rright_any a w2; rw [hr] at this; exact this)
    have HA1 := hdn HX.out.ac
    clear hw2 hr e
    go_enter Tryd.func23, Tryd.ntmps23
    go_upto_region 1 with fail
    rw [HW.out]
    go_wp2_with (first
      | ((with_reducible show wpList _ _ _ (Oper.mk _ (Op.load 43 _) _ _ _ _ :: _) _ _); refine wpList_load_bk rfl 43 _ rfl (w.heap.size + 1) 43 a.cs rfl _ HA1.out Tryd.underlying43 rfl size43 ?_)
      | (go_at_call 48; refine HRI.out.mono ?_; rintro e w3 ⟨rfl, hb3⟩; have HB3 := hdn hb3; clear hb3))
    go_ret
    exact ⟨rfl, HX.out.below.trans (HB3.out.mono HX.out.below.size)⟩
end Go.Proofs.YtebmhadpkncgfaaDoor
namespace Go.Proofs.YtebmhadpkncgfaaDoor
open Go.RowKit Go.Maps Go.Sort
open Aw.Ac (Acn Opd)
def A12f (a : Acn) (b : Nat) (w : World) : Prop :=
  w.cell? ⟨b, 0, none⟩ = some (.int .i64 a.kind) ∧ w.cell? ⟨b, 1, none⟩ = some (.int .i64 a.x) ∧ w.cell? ⟨b, 2, none⟩ = some (.int .i64 a.y) ∧ w.cell? ⟨b, 3, none⟩ = some (.int .i64 a.f) ∧ w.cell? ⟨b, 4, none⟩ = some (.int .i64 a.t) ∧ w.cell? ⟨b, 5, none⟩ = some (.int .i64 a.pl) ∧ w.cell? ⟨b, 6, none⟩ = some (.int .i64 a.op) ∧ w.cell? ⟨b, 7, none⟩ = some (.int .i64 a.l.v) ∧ w.cell? ⟨b, 8, none⟩ = some (.int .i64 a.l.n) ∧ w.cell? ⟨b, 9, none⟩ = some (.int .i64 a.r.v) ∧ w.cell? ⟨b, 10, none⟩ = some (.int .i64 a.r.n) ∧ w.cell? ⟨b, 11, none⟩ = some (.bool a.sense)
theorem A12f.of {a : Acn} {b : Nat} {w : World} (h : Bk w b 43 a.cs) : A12f a b w := ⟨h.cell 0, h.cell 1, h.cell 2, h.cell 3, h.cell 4, h.cell 5, h.cell 6, h.cell 7, h.cell 8, h.cell 9, h.cell 10, h.cell 11⟩
/-- What Do begins with, boxed. -/
structure D5 (w wr : World) (g : GR) (s : SV) (a : Acn) : Prop where
  gr : Bk wr w.heap.size 30 g.cs
  st : Bk wr (w.heap.size + 1) 33 s.A
  ac : Bk wr (w.heap.size + 1 + 1) 43 a.cs
  r1 : Bk wr (w.heap.size + 1 + 1 + 1) 33 (stA 0 none 0 0 none 0 0 none 0 0)
  r2 : Bk wr (w.heap.size + 1 + 1 + 1 + 1) 37 (evA 0 0 0)
  low : RowKit.Below w.heap.size w wr
  sz : w.heap.size + 5 ≤ wr.heap.size
theorem D5.far {w wr w' : World} {g : GR} {s : SV} {a : Acn} (h : D5 w wr g s a) (hb : RowKit.Below wr.heap.size wr w') : D5 w w' g s a :=
  ⟨h.gr.below hb h.gr.lt, h.st.below hb h.st.lt, h.ac.below hb h.ac.lt, h.r1.below hb h.r1.lt, h.r2.below hb h.r2.lt, h.low.trans (hb.mono h.low.size), Nat.le_trans h.sz hb.size⟩
theorem D5.start (w : World) (g : GR) (s : SV) (a : Acn) : D5 w (((((w.alloc (.cells g.cs 30)).alloc (.cells s.A 33)).alloc (.cells a.cs 43)).alloc (.cells (stA 0 none 0 0 none 0 0 none 0 0) 33)).alloc (.cells (evA 0 0 0) 37)) g s a := by
  obtain ⟨w2, hw2⟩ : ∃ w2, (w.alloc (.cells g.cs 30)).alloc (.cells s.A 33) = w2 := ⟨_, rfl⟩
  have k1 : Bk w2 w.heap.size 30 g.cs := by rw [← hw2]; exact alloc2_old _ _ _ _
  have k2 : Bk w2 (w.heap.size + 1) 33 s.A := by rw [← hw2]; exact alloc2_new _ _ _ _
  have e2 : w2.heap.size = w.heap.size + 1 + 1 := by rw [← hw2]; simp
  have b2 : RowKit.Below w.heap.size w w2 := by rw [← hw2]; exact alloc2_below _ _ _
  rw [hw2]
  obtain ⟨w3, hw3⟩ : ∃ w3, w2.alloc (.cells a.cs 43) = w3 := ⟨_, rfl⟩
  have k3 : Bk w3 (w.heap.size + 1 + 1) 43 a.cs := by rw [← hw3, ← e2]; exact (MapKept.heap_alloc w2 _).1
  have b3 : RowKit.Below w2.heap.size w2 w3 := by rw [← hw3]; exact alloc_below _ _
  have e3 : w3.heap.size = w.heap.size + 1 + 1 + 1 := by rw [← hw3]; simp [e2]
  rw [hw3]
  have b5 := alloc2_below w3 (.cells (stA 0 none 0 0 none 0 0 none 0 0) 33) (.cells (evA 0 0 0) 37)
  have k4 := alloc2_old w3 (.cells (evA 0 0 0) 37) (stA 0 none 0 0 none 0 0 none 0 0) 33
  have k5 := alloc2_new w3 (.cells (stA 0 none 0 0 none 0 0 none 0 0) 33) (evA 0 0 0) 37
  rw [e3] at k4 k5
  have k1' := k1.below b3 k1.lt
  have k2' := k2.below b3 k2.lt
  exact ⟨k1'.below b5 k1'.lt, k2'.below b5 k2'.lt, k3.below b5 k3.lt, k4, k5, (b2.trans (b3.mono b2.size)).trans (b5.mono (by have := b2.size; have := b3.size; omega)), by simp [e3]⟩
/-- What was done so far besides making a state of its own: t is that state, in a box at O. -/
structure D6 (w w5 wr : World) (g : GR) (s : SV) (a : Acn) (O : Nat) (t : SV) : Prop where
  d5 : D5 w wr g s a
  out : Bk wr O 33 t.A
  far : w5.heap.size ≤ O
  lies : ∀ w', Gr wr w' (fun k => k < w5.heap.size ∨ k = O) → t.lies w'
  low : RowKit.Below w5.heap.size w5 wr
theorem D6.far' {w w5 wr w' : World} {g : GR} {s : SV} {a : Acn} {O : Nat} {t : SV} (h : D6 w w5 wr g s a O t) (hb : RowKit.Below wr.heap.size wr w') : D6 w w5 w' g s a O t :=
  ⟨h.d5.far hb, h.out.below hb h.out.lt, h.far, fun w'' hg => h.lies w'' ((Gr.of_below hb).trans hg), h.low.trans (hb.mono h.low.size)⟩
theorem D6.start {w w5 w6 w7 : World} {g : GR} {s : SV} {a : Acn} {t : SV} (h : D5 w w5 g s a) (hb : RowKit.Below w5.heap.size w5 w6) (hv : Lv w5 w6 t) (ho : Bk w7 w6.heap.size 33 t.A) (hg : (w6.alloc (.cells (stA 0 none 0 0 none 0 0 none 0 0) 33)).grownBy w7 (some w6.heap.size)) : D6 w w5 w7 g s a w6.heap.size t := by
  have b7 : RowKit.Below w6.heap.size w6 w7 := (alloc_below w6 _).grown hg (by simp) (fun j hj => by injection hj with hj; omega)
  exact ⟨(h.far hb).far b7, ho, hb.size, fun w' h' => hv w' (((Gr.of_below b7).mono (fun _ _ h => h)).then h' (fun i hi h => by omega)), hb.trans (b7.mono hb.size)⟩
/-- The end: both results are stored. -/
theorem D6.fin {w w5 wr w8 w9 : World} {g : GR} {s s' : SV} {a : Acn} {O : Nat} {t : SV} {ev : Array Value} (h5 : w.heap.size + 5 ≤ w5.heap.size) (h : D6 w w5 wr g s a O t) (hs : Sal s' t) (g1 : wr.grownBy w8 (some (w.heap.size + 1 + 1 + 1))) (g2 : w8.grownBy w9 (some (w.heap.size + 1 + 1 + 1 + 1))) :
    DoP w s' ev (.returned (.tuple #[.agg t.A, .agg ev])) w9 := by
  have hg : Gr wr w9 (fun k => k = w.heap.size + 1 + 1 + 1 ∨ k = w.heap.size + 1 + 1 + 1 + 1) := ((Gr.of_grown g1).mono (fun k _ h => .inl (by injection h))).trans ((Gr.of_grown g2).mono (fun k _ h => .inr (by injection h)))
  have hz := h.d5.low.size
  refine ⟨t, rfl, hs, fun w'' h'' => h.lies w'' ((hg.mono (fun k _ h => by omega)).trans (h''.mono (fun k _ h => by omega))), h.d5.low.trans (hg.below hz (fun k h => by omega))⟩
theorem do8_none (g : GR) (s : SV) (a : Acn) (inp : Int) (w : World) (hg : Gok g) (hs : Rt g s) (hl : s.lies w) (hh : hasB g a = false) : Calls Tryd.prog 8 #[.agg g.cs, .agg s.A, .agg a.cs, .int .i64 inp] w (DoP w s (evA 0 0 0)) := by
  obtain ⟨w5, hw5⟩ : ∃ w5, ((((w.alloc (.cells g.cs 30)).alloc (.cells s.A 33)).alloc (.cells a.cs 43)).alloc (.cells (stA 0 none 0 0 none 0 0 none 0 0) 33)).alloc (.cells (evA 0 0 0) 37) = w5 := ⟨_, rfl⟩
  have HW : Hid (((((w.alloc (.cells g.cs 30)).alloc (.cells s.A 33)).alloc (.cells a.cs 43)).alloc (.cells #[.int .i64 0, .slice none 0 0, .slice none 0 0, .slice none 0 0] 33)).alloc (.cells #[.int .i64 0, .int .i64 0, .int .i64 0] 37) = w5) := hdn hw5
  have HD : Hid (D5 w w5 g s a) := hdn (by rw [← hw5]; exact D5.start w g s a)
  have HS5 := hdn HD.out.st
  have HL : Hid (s.lies w5) := hdn (hl.below HD.out.low)
  have HC := hdn (own21_any g.F s w5 HL.out (by have := hs.vl; have := hg.V; omega) (by have := hs.il; have := hg.I; omega) hs.n hs.lens hg.F)
  have HRI := hdn (fun wz (hz : RowKit.Below w5.heap.size w5 wz) => right22_any g s wz hg hs (HL.out.below hz))
  have HHA := hdn (fun wz => has23_any g a wz)
  rw [hh] at HHA
  clear hw5 hl hs hg hh
  go_enter Tryd.func8, Tryd.ntmps8
  go_upto_region 1 with fail
  rw [HW.out]
  clear HW
  go_upto_region 2 with (first
    | ((with_reducible show wpList _ _ _ (Oper.mk _ (Op.load 33 _) _ _ _ _ :: _) _ _); refine wpList_load_bk rfl 33 _ rfl (w.heap.size + 1) 33 s.A rfl _ HS5.out Tryd.underlying33 rfl size33 ?_)
    | (go_at_call 21; refine HC.out.mono ?_; rintro e w6 ⟨t, rfl, hs6, hv6, hb6⟩; have HT := hdn hs6; have HV := hdn hv6; have HB6 := hdn hb6; have HZ6 : Hid (Bk (w6.alloc (.cells #[.int .i64 0, .slice none 0 0, .slice none 0 0, .slice none 0 0] 33)) w6.heap.size 33 (stA 0 none 0 0 none 0 0 none 0 0)) := hdn (MapKept.heap_alloc w6 _).1; clear hs6 hv6 hb6)
    | ((with_reducible show wpList _ _ _ (Oper.mk none (Op.store 33 _ _) _ _ _ _ :: _) _ _); refine wpList_store_all rfl 33 _ _ rfl w6.heap.size 33 _ t.A rfl rfl HZ6.out size33 rfl (SV.A_one t) ?_; intro w7 h7 g7))
  have H6 : Hid (D6 w w5 w7 g s a w6.heap.size t) := hdn (D6.start HD.out HB6.out HV.out h7.out g7.out)
  clear h7 g7 HC HS5 HV HB6 HZ6
  generalize w6.heap.size = O at H6 ⊢
  have HG7 := hdn H6.out.d5.gr
  have HS7 := hdn H6.out.d5.st
  go_upto_region 3 with (first
    | ((with_reducible show wpList _ _ _ (Oper.mk (some 25) (Op.load 30 _) _ _ _ _ :: _) _ _); refine wpList_load_bk rfl 30 _ rfl w.heap.size 30 g.cs rfl _ HG7.out Tryd.underlying30 rfl size30 ?_)
    | ((with_reducible show wpList _ _ _ (Oper.mk (some 26) (Op.load 33 _) _ _ _ _ :: _) _ _); refine wpList_load_bk rfl 33 _ rfl (w.heap.size + 1) 33 s.A rfl _ HS7.out Tryd.underlying33 rfl size33 ?_)
    | (go_at_call 22; refine (HRI.out w7 H6.out.low).mono ?_; rintro e w8 ⟨rfl, hb8⟩; have H8 := hdn (H6.out.far' hb8); have HG8 := hdn H8.out.d5.gr; have HA8 := hdn H8.out.d5.ac; obtain ⟨c0, c1, c2, c3, c4, c5, c6, c7, c8, c9⟩ := G10.of HG8.out; obtain ⟨a0, a1, a2, a3, a4, a5, a6, a7, a8, a9, a10, a11⟩ := A12f.of HA8.out; clear hb8)
    | (go_at_call 23; refine (HHA.out w8).mono ?_; rintro e w9 ⟨rfl, hb9⟩; have H9 := hdn (H8.out.far' hb9); clear hb9))
  clear c0 c1 c2 c3 c4 c5 c6 c7 c8 c9 a0 a1 a2 a3 a4 a5 a6 a7 a8 a9 a10 a11
  have HO9 := hdn H9.out.out
  have HR1 := hdn H9.out.d5.r1
  have HR2 := hdn H9.out.d5.r2
  go_wp2_with (first
    | ((with_reducible show wpList _ _ _ (Oper.mk (some 35) (Op.load 33 _) _ _ _ _ :: _) _ _); refine wpList_load_bk rfl 33 _ rfl O 33 t.A rfl _ HO9.out Tryd.underlying33 rfl size33 ?_)
    | ((with_reducible show wpList _ _ _ (Oper.mk none (Op.store 33 _ _) _ _ _ _ :: _) _ _); refine wpList_store_all rfl 33 _ _ rfl (w.heap.size + 1 + 1 + 1) 33 _ t.A rfl rfl HR1.out size33 rfl (SV.A_one t) ?_; intro w10 h10 g10; have HR3 := hdn ((Gr.of_grown g10.out).bk HR2.out (by intro h; injection h; omega)))
    | ((with_reducible show wpList _ _ _ (Oper.mk none (Op.store 37 _ _) _ _ _ _ :: _) _ _); refine wpList_store_all rfl 37 _ _ rfl (w.heap.size + 1 + 1 + 1 + 1) 37 _ (evA 0 0 0) rfl rfl HR3.out size37 rfl (evA_one _ _ _) ?_; intro w11 h11 g11))
  have q1 : Bk w11 (w.heap.size + 1 + 1 + 1) 33 t.A := (Gr.of_grown g11.out).bk h10.out (by intro h; injection h; omega)
  exact bodyPost_ret (results_two Tryd.results8 rfl rfl rfl rfl q1 h11.out) rfl (H9.out.fin HD.out.sz HT.out g10.out g11.out)
end Go.Proofs.YtebmhadpkncgfaaDoor
