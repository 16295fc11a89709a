/-
  DERIVED. Two lists of cells that are alike are told so: Same.
-/
import Derived.Test.YtocgallcmgnmgaaJe
namespace Go.Proofs.Ytocgallcmgnmgaa
open Go.RowKit Go.Maps

theorem ints_at {w : World} {q o : Nat} {x : PC} (h : w.rangeAt q o (ints x.to)) {j : Nat} (hj : j < x.to.length) : w.cell? ⟨q, o + j, none⟩ = some (.int .i64 (x.at j)) :=
  h j (.int .i64 (x.at j)) (by unfold ints; rw [List.getElem?_map, at_get x j hj]; rfl)
theorem OutR.whole {F : Nat} {w : World} {N : Nat → Prop} {p : Option Addr} {n cap : Nat} {cs : List PC} (h : OutR F w N (.slice p n cap) cs) {i : Nat} {x : PC} (hi : cs[i]? = some x) :
    ∃ g q o cq, p = some ⟨g, 0, none⟩ ∧ w.rangeAt g (i * 3) [.int .i64 x.ty, .bool x.fr, .slice (some ⟨q, o, none⟩) F cq] ∧ w.rangeAt q o (ints x.to) ∧ x.to.length = F := by
  obtain ⟨p', cap', hv, _, hx⟩ := h
  obtain ⟨g, q, o, cq, h1, _, _, h4, h5, h6⟩ := hx i x hi
  exact ⟨g, q, o, cq, by injection hv with e; rw [e, h1], h4, h5, h6⟩
theorem at_below {w w' : World} {p : Addr} {v : Value} (hb : Below w.heap.size w w') (h : w.cell? p = some v) : w'.cell? p = some v := (hb.cell (World.block_lt_of_cell? _ _ h)).trans h
set_option maxHeartbeats 6400000 in
set_option maxRecDepth 100000 in
theorem Out.read {F : Nat} {w : World} {N : Nat → Prop} {v : Value} {cs : List PC} (h : Out F w N v cs) : OutR F w N v cs := by
  obtain ⟨p, cap, hv⟩ := h.form
  refine ⟨p, cap, hv, h.1, fun i x hi => ?_⟩
  obtain ⟨g, cap', cur, fm, hv', ha⟩ := Out.sl h hi
  have hs := ha.sub i x hi
  have hr := ha.range hi
  obtain ⟨g2, cap2, q, cq, hv2, h1, h2, h3⟩ := Out.whole h hi
  obtain rfl : g = g2 := by rw [hv'] at hv2; injection hv2 with e1; injection e1 with e1; injection e1
  have hfm : fm i = .slice (some ⟨q, 0, none⟩) F cq := by
    have e1 := hr 2 (fm i) rfl
    have e2 := h1 2 _ rfl
    have e3 : (CellK F).sz = 3 := rfl
    rw [e3, e2] at e1
    injection e1 with e1; exact e1.symm
  refine ⟨g, q, 0, cq, by rw [hv] at hv'; injection hv', ha.mine, (ha.own i q (List.getElem?_eq_some_iff.1 hi).1 (by rw [hfm]; rfl)).1, h1, h2, h3⟩
set_option maxHeartbeats 6400000 in
set_option maxRecDepth 100000 in
theorem same_any (F : Nat) (N1 N2 : Nat → Prop) (cs : List PC) (v1 v2 : Value) (w : World) (h1 : OutR F w N1 v1 cs) (h2 : OutR F w N2 v2 cs) (hF : F ≤ 2000000) (hn : cs.length ≤ 2000000) :
    Calls Try.prog 21 #[v1, v2] w (RetB w true) := by
  obtain ⟨p1, c1, rfl⟩ := h1.form
  obtain ⟨p2, c2, rfl⟩ := h2.form
  have H1 := Lib.hid h1
  have H2 := Lib.hid h2
  have HB0 : Hid (Below w.heap.size w w) := Lib.hid (Below.refl _ _)
  clear h1 h2
  go_enter Try.func21, Try.ntmps21
  go_wp2_with fail
  go_loopw [5] (fun t wr => ∃ k : Nat, t = .int .i64 k ∧ k ≤ cs.length ∧ Hid (Below w.heap.size w wr)) (fun t _ => cs.length - (intOf t).toNat)
  case atStart => exact ⟨0, rfl, Nat.zero_le _, HB0⟩
  case round =>
    obtain ⟨k, rfl, hk, HB⟩ := hrel
    by_cases hkl : k < cs.length
    · obtain ⟨x, hx⟩ : ∃ x, cs[k]? = some x := ⟨_, List.getElem?_eq_getElem hkl⟩
      obtain ⟨g1, q1, o1, cq1, ev1, r1, s1, hl⟩ := OutR.whole H1.out hx
      obtain ⟨g2, q2, o2, cq2, ev2, r2, s2, _⟩ := OutR.whole H2.out hx
      subst ev1; subst ev2
      have a0 : wr.cell? ⟨g1, k * 3, none⟩ = some (.int .i64 x.ty) := at_below HB.out (r1 0 _ rfl)
      have a1 : wr.cell? ⟨g1, k * 3 + 1, none⟩ = some (.bool x.fr) := at_below HB.out (r1 1 _ rfl)
      have a2 : wr.cell? ⟨g1, k * 3 + 2, none⟩ = some (.slice (some ⟨q1, o1, none⟩) F cq1) := at_below HB.out (r1 2 _ rfl)
      have b0 : wr.cell? ⟨g2, k * 3, none⟩ = some (.int .i64 x.ty) := at_below HB.out (r2 0 _ rfl)
      have b1 : wr.cell? ⟨g2, k * 3 + 1, none⟩ = some (.bool x.fr) := at_below HB.out (r2 1 _ rfl)
      have b2 : wr.cell? ⟨g2, k * 3 + 2, none⟩ = some (.slice (some ⟨q2, o2, none⟩) F cq2) := at_below HB.out (r2 2 _ rfl)
      have HA2 : Hid (∀ w', Below w.heap.size w w' → w'.cell? ⟨g1, k * 3 + 2, none⟩ = some (.slice (some ⟨q1, o1, none⟩) F cq1)) := Lib.hid (fun w' hb => at_below hb (r1 2 _ rfl))
      have HB2 : Hid (∀ w', Below w.heap.size w w' → w'.cell? ⟨g2, k * 3 + 2, none⟩ = some (.slice (some ⟨q2, o2, none⟩) F cq2)) := Lib.hid (fun w' hb => at_below hb (r2 2 _ rfl))
      have HS : Hid (∀ w', Below w.heap.size w w' → ∀ j, j < F → w'.cell? ⟨q1, o1 + j, none⟩ = some (.int .i64 (x.at j)) ∧ w'.cell? ⟨q2, o2 + j, none⟩ = some (.int .i64 (x.at j))) := Lib.hid (fun w' hb j hj => ⟨at_below hb (ints_at s1 (by omega)), at_below hb (ints_at s2 (by omega))⟩)
      have hk0 : (0 : Int) ≤ (k : Int) := Int.natCast_nonneg _
      have hk1 : (k : Int) < (cs.length : Int) := by omega
      clear r1 r2 s1 s2 hx hl
      go_wp2_with fail
      go_quiet (fail)
      clear a0 a1 a2 b0 b1 b2
      go_wp2_with fail
      rename_i nq _
      have HBQ : Hid (Below w.heap.size w (wr.drewN nq)) := Lib.hid (below_drewN_ HB.out _)
      generalize wr.drewN nq = wq at HBQ ⊢
      clear HB
      go_loopw [6] (fun t wr => ∃ j : Nat, t = .int .i64 j ∧ j ≤ F ∧ Hid (Below w.heap.size w wr)) (fun t _ => F - (intOf t).toNat)
      case atStart => exact ⟨0, rfl, Nat.zero_le _, HBQ⟩
      case round =>
        obtain ⟨j, rfl, hj, HBJ⟩ := hrel
        have a2 := HA2.out wr HBJ.out
        have b2 := HB2.out wr HBJ.out
        by_cases hjF : j < F
        · obtain ⟨s1, s2⟩ := HS.out wr HBJ.out j hjF
          have hj0 : (0 : Int) ≤ (j : Int) := Int.natCast_nonneg _
          have hj1 : (j : Int) < (F : Int) := by omega
          go_wp2_with fail
          go_quiet (fail)
          go_wp2_with fail
          go_roundw
          case rel => exact ⟨j + 1, by go_num, by omega, Lib.hid (below_drewN_ HBJ.out _)⟩
          case measure => simp [intOf]; omega
        · go_wp2_with fail
          go_roundw
          case rel => exact ⟨k + 1, by go_num, by omega, HBJ⟩
          case measure => simp [intOf]; omega
    · go_wp2_with fail
      go_ret
      exact ⟨rfl, HB.out⟩

set_option maxHeartbeats 3200000 in
set_option maxRecDepth 100000 in
theorem is_any (F b : Nat) (R N : Nat → Prop) (cs : List PC) (v vr : Value) (w : World) (h : HIs w b R F cs v) (hr : Out F w N vr cs) (hF : F ≤ 2000000) (hn : cs.length ≤ 2000000) :
    Calls Try.prog 9 #[.pointer (some ⟨b, 0, none⟩), .agg (RefA F vr)] w (RetB w true) := by
  obtain ⟨pr, cr, rfl⟩ := hr.form
  have hb0 := alloc_below w (.cells (RefA F (.slice pr cs.length cr)) 29)
  have hbx : Bk (w.alloc (.cells (RefA F (.slice pr cs.length cr)) 29)) w.heap.size 29 (RefA F (.slice pr cs.length cr)) := (MapKept.heap_alloc w _).1
  have HB0 := Lib.hid hb0
  have HBX := Lib.hid hbx
  have hL : Calls Try.prog 17 #[.pointer (some ⟨b, 0, none⟩)] _ _ := (h.below (w' := (w.alloc (.cells (RefA F (.slice pr cs.length cr)) 29)).drew) (below_drew hb0)).len
  have hC := cells_any F b R cs v (w.alloc (.cells (RefA F (.slice pr cs.length cr)) 29)).drew (h.below (below_drew hb0)) hF hn
  have HL := Lib.hid hL
  have HC := Lib.hid hC
  have HR := Lib.hid hr
  clear h hr hL hC hbx hb0
  unfold hp at HC
  go_enter Try.func9, Try.ntmps9
  go_wp2_with fail
  have hx0 : (w.alloc (.cells (RefA F (.slice pr cs.length cr)) 29)).cell? ⟨w.heap.size, 1, none⟩ = some (.slice pr cs.length cr) := HBX.out.cell 1
  have HS : Hid (∀ w', Below (w.alloc (.cells (RefA F (.slice pr cs.length cr)) 29)).heap.size (w.alloc (.cells (RefA F (.slice pr cs.length cr)) 29)) w' → w'.cell? ⟨w.heap.size, 1, none⟩ = some (.slice pr cs.length cr)) := Lib.hid (fun w' hb => (HBX.out.below hb HBX.out.lt).cell 1)
  generalize w.alloc (.cells (RefA F (.slice pr cs.length cr)) 29) = w1 at HB0 HBX HL HC HS hx0 ⊢
  have HD : Hid (Below w1.heap.size w1 w1.drew) := Lib.hid (below_drew (Below.refl _ _))
  go_region_held3 (fun w' => w'.cell? ⟨w.heap.size, 1, none⟩ = some (.slice pr cs.length cr)) (first | exact HS.out _ HB4.out | exact HS.out _ HB3.out | exact HS.out _ HD.out | fail) (first
    | (go_at_call 17; refine HL.out.mono ?_; rintro e w' ⟨rfl, rfl⟩)
    | (go_at_call 14; refine HC.out.mono ?_; rintro e w3 ⟨vc, rfl, hl3, hb3⟩; have HB3 : Hid (Below w1.heap.size w1 w3) := Lib.hid (HD.out.trans (hb3.mono (Nat.le_refl _))); have HO3 : Hid (OutR F w3 _ vc cs) := Lib.hid hl3; have HSM := Lib.hid (same_any F _ _ cs vc (.slice pr cs.length cr) w3 HO3.out (Out.read (Kin.Lie.below HR.out (HB0.out.trans (HB3.out.mono HB0.out.size)))) hF hn); clear hl3 hb3)
    | (go_at_call 21; refine HSM.out.mono ?_; rintro e w4 ⟨rfl, hb4⟩; have HB4 : Hid (Below w1.heap.size w1 w4) := Lib.hid (HB3.out.trans (hb4.mono HB3.out.size)); clear hb4))
  go_wp2_with fail
  go_ret
  exact ⟨rfl, HB0.out.trans (HB4.out.mono HB0.out.size)⟩
end Go.Proofs.Ytocgallcmgnmgaa
