/-
  DERIVED. The walks of the document's has, number, operand, word, pointer, operandText.
-/
import Derived.Test.YtkieiclionkllaaDoorGa
import Derived.Test.YtkieiclionkllaaDoorEc
namespace Go.Proofs.YtkieiclionkllaaDoor
open Go.RowKit Go.Sort
open Ac

theorem size39 : (Tryd.prog.info? 39).map (·.size) = some 8 := by kernel_rfl
/-- What a kind has, by value. -/
def hcs (h : Bool × Bool × Bool × Bool × Bool × Bool × Bool × Bool) : Array Value := #[.bool h.1, .bool h.2.1, .bool h.2.2.1, .bool h.2.2.2.1, .bool h.2.2.2.2.1, .bool h.2.2.2.2.2.1, .bool h.2.2.2.2.2.2.1, .bool h.2.2.2.2.2.2.2]
theorem hcs_one (h : Bool × Bool × Bool × Bool × Bool × Bool × Bool × Bool) : (hcs h).all (·.oneCell') = true := by simp [hcs, Value.oneCell']
set_option maxHeartbeats 800000 in
theorem numb_any (n lim : Int) (w : World) : Calls Tryd.prog 19 #[.int .i64 n, .int .i64 lim] w fun e w' => e = .returned (.bool (numB n lim)) ∧ w = w' := by
  by_cases h1 : 0 ≤ n
  · by_cases h2 : n < lim
    · have HR : Hid (numB n lim = true) := Lib.hid (by unfold numB; simp [h1, h2])
      go_enter Tryd.func19, Tryd.ntmps19
      go_wp2_with fail
      go_ret
      exact ⟨lret_bool HR.out.symm, rfl⟩
    · have HR : Hid (numB n lim = false) := Lib.hid (by unfold numB; simp [h2])
      go_enter Tryd.func19, Tryd.ntmps19
      go_wp2_with fail
      go_ret
      exact ⟨lret_bool HR.out.symm, rfl⟩
  · have HR : Hid (numB n lim = false) := Lib.hid (by unfold numB; simp [h1])
    go_enter Tryd.func19, Tryd.ntmps19
    go_wp2_with fail
    go_ret
    exact ⟨lret_bool HR.out.symm, rfl⟩
set_option maxHeartbeats 800000 in
theorem operb_any (o : Opd) (w : World) : Calls Tryd.prog 20 #[.agg #[.int .i64 o.v, .int .i64 o.n]] w fun e w' => e = .returned (.bool (operB o)) ∧ Below w.heap.size w w' := by
  obtain ⟨v, n⟩ := o
  obtain ⟨wA, hwA⟩ : ∃ wA : World, wA = w.alloc (.cells #[.int .i64 v, .int .i64 n] 23) := ⟨_, rfl⟩
  have HBA : Hid (Below w.heap.size w wA) := Lib.hid (by rw [hwA]; exact (Below.refl _ _).alloc (Nat.le_refl _) _)
  have HK : Hid (Bk wA w.heap.size 23 #[.int .i64 v, .int .i64 n]) := Lib.hid (by rw [hwA]; exact heap_alloc_new _ _)
  have c0 : wA.cell? ⟨w.heap.size, 0, none⟩ = some (.int .i64 v) := HK.out.cell 0
  have c1 : wA.cell? ⟨w.heap.size, 1, none⟩ = some (.int .i64 n) := HK.out.cell 1
  by_cases hv : v = -1
  · have d1 : (v == -1) = true := by rw [beq_iff_eq]; exact hv
    have HR : Hid (operB ⟨v, n⟩ = (decide (0 ≤ n) && decide (n ≤ 999999999))) := Lib.hid (by unfold operB; rw [if_pos hv])
    clear hv
    by_cases h1 : 0 ≤ n
    · have HR2 : Hid (operB ⟨v, n⟩ = decide (n ≤ 999999999)) := Lib.hid (by rw [HR.out]; simp [h1])
      go_enter Tryd.func20, Tryd.ntmps20
      go_upto_region 1 with fail
      rw [← hwA]
      clear hwA
      go_wp2_with fail
      all_goals
        go_ret
        exact ⟨lret_bool HR2.out.symm, HBA.out⟩
    · have HR2 : Hid (operB ⟨v, n⟩ = false) := Lib.hid (by rw [HR.out]; simp [h1])
      go_enter Tryd.func20, Tryd.ntmps20
      go_upto_region 1 with fail
      rw [← hwA]
      clear hwA
      go_wp2_with fail
      go_ret
      exact ⟨lret_bool HR2.out.symm, HBA.out⟩
  · have d1 : (v == -1) = false := by rw [beq_eq_false_iff_ne]; exact hv
    have HR : Hid (operB ⟨v, n⟩ = (numB v 24 && decide (n = 0))) := Lib.hid (by unfold operB; rw [if_neg hv])
    have CN := Lib.hid (fun w => numb_any v 24 w)
    clear hv
    generalize numB v 24 = b at *
    cases b
    · have HR2 : Hid (operB ⟨v, n⟩ = false) := Lib.hid (by rw [HR.out]; rfl)
      go_enter Tryd.func20, Tryd.ntmps20
      go_upto_region 1 with fail
      rw [← hwA]
      clear hwA
      go_wp2_with (go_at_call 19; refine (CN.out _).mono ?_; rintro e w1 ⟨rfl, rfl⟩)
      go_ret
      exact ⟨lret_bool HR2.out.symm, HBA.out⟩
    · have HR2 : Hid (operB ⟨v, n⟩ = (n == 0)) := Lib.hid (by rw [HR.out]; rfl)
      go_enter Tryd.func20, Tryd.ntmps20
      go_upto_region 1 with fail
      rw [← hwA]
      clear hwA
      go_wp2_with (go_at_call 19; refine (CN.out _).mono ?_; rintro e w1 ⟨rfl, rfl⟩)
      go_ret
      exact ⟨lret_bool HR2.out.symm, HBA.out⟩
/-- has, where the tests on the kind are told. -/
theorem dig_any (n : Int) (h0 : 0 ≤ n) (h1 : n ≤ 999999999) (w : World) : Calls Tryd.prog 23 #[.int .i64 n] w fun e w' => e = .returned (.string (bt (Lib.itoa n))) ∧ Below w.heap.size w w' := by
  have := digOk n.toNat (by omega) w
  rw [show ((n.toNat : Nat) : Int) = n by omega] at this
  rw [itoa_of h0]
  exact this
theorem bt_lit2 (a b : UInt8) (l : List UInt8) : (⟨#[a, b]⟩ : ByteArray) ++ bt l = bt (a :: b :: l) := bt_app [a, b] l
theorem bt_lit1 (a : UInt8) (l : List UInt8) : (⟨#[a]⟩ : ByteArray) ++ bt l = bt (a :: l) := bt_app [a] l
set_option maxHeartbeats 800000 in
theorem pointer_any (n : Int) (h0 : -1 ≤ n) (h1 : n ≤ 999999999) (w : World) : Calls Tryd.prog 24 #[.int .i64 n] w fun e w' => e = .returned (.string (bt (32 :: numT 1 n))) ∧ Below w.heap.size w w' := by
  by_cases hn : n < 0
  · have HR : Hid (bt (32 :: numT 1 n) = ⟨#[32, 110, 117, 108, 108]⟩) := Lib.hid (by unfold numT; rw [if_pos hn]; rfl)
    go_enter Tryd.func24, Tryd.ntmps24
    go_wp2_with fail
    go_ret
    exact ⟨ret_text HR.out.symm, Below.refl _ _⟩
  · have HR : Hid (bt (32 :: numT 1 n) = ⟨#[32, 112]⟩ ++ bt (Lib.itoa n)) := Lib.hid (by unfold numT; rw [if_neg hn, bt_lit2]; rfl)
    have CD := Lib.hid (dig_any n (by omega) h1 w)
    have hs := itoa_size n (by omega) (by omega)
    generalize bt (Lib.itoa n) = t at *
    go_enter Tryd.func24, Tryd.ntmps24
    go_wp2_with (go_at_call 23; refine CD.out.mono ?_; rintro e w1 ⟨rfl, hb⟩; have HB := Lib.hid hb; clear hb)
    go_ret
    exact ⟨ret_text HR.out.symm, HB.out⟩
set_option maxHeartbeats 800000 in
theorem roperand_any (o : Opd) (ho : opOk o = true) (w : World) : Calls Tryd.prog 25 #[.agg #[.int .i64 o.v, .int .i64 o.n]] w fun e w' => e = .returned (.string (bt (32 :: opT o))) ∧ Below w.heap.size w w' := by
  obtain ⟨v, n⟩ := o
  have hc := opOk_cases ho
  simp only at hc
  obtain ⟨wA, hwA⟩ : ∃ wA : World, wA = w.alloc (.cells #[.int .i64 v, .int .i64 n] 23) := ⟨_, rfl⟩
  have HBA : Hid (Below w.heap.size w wA) := Lib.hid (by rw [hwA]; exact (Below.refl _ _).alloc (Nat.le_refl _) _)
  have HK : Hid (Bk wA w.heap.size 23 #[.int .i64 v, .int .i64 n]) := Lib.hid (by rw [hwA]; exact heap_alloc_new _ _)
  have c0 : wA.cell? ⟨w.heap.size, 0, none⟩ = some (.int .i64 v) := HK.out.cell 0
  have c1 : wA.cell? ⟨w.heap.size, 1, none⟩ = some (.int .i64 n) := HK.out.cell 1
  clear ho
  by_cases hlt : v < 0
  · have HT : Hid (bt (32 :: opT ⟨v, n⟩) = ⟨#[32]⟩ ++ bt (Lib.itoa n)) := Lib.hid (by unfold opT; rw [if_pos hlt, bt_lit1])
    have hn : 0 ≤ n ∧ n ≤ 999999999 := by omega
    have CD := Lib.hid (dig_any n hn.1 hn.2 wA)
    have hs := itoa_size n (by omega) (by omega)
    clear hc hn
    generalize bt (Lib.itoa n) = t at *
    go_enter Tryd.func25, Tryd.ntmps25
    go_upto_region 1 with fail
    rw [← hwA]
    clear hwA
    go_wp2_with (go_at_call 23; refine CD.out.mono ?_; rintro e w1 ⟨rfl, hb⟩; have HB := Lib.hid hb; clear hb)
    go_ret
    exact ⟨ret_text HT.out.symm, HBA.out.trans (HB.out.mono HBA.out.size)⟩
  · have HT : Hid (bt (32 :: opT ⟨v, n⟩) = ⟨#[32, 105]⟩ ++ bt (Lib.itoa v)) := Lib.hid (by unfold opT; rw [if_neg hlt, bt_lit2])
    have hn : 0 ≤ v ∧ v ≤ 999999999 := by omega
    have CD := Lib.hid (dig_any v hn.1 hn.2 wA)
    have hs := itoa_size v (by omega) (by omega)
    clear hc hn
    generalize bt (Lib.itoa v) = t at *
    go_enter Tryd.func25, Tryd.ntmps25
    go_upto_region 1 with fail
    rw [← hwA]
    clear hwA
    go_wp2_with (go_at_call 23; refine CD.out.mono ?_; rintro e w1 ⟨rfl, hb⟩; have HB := Lib.hid hb; clear hb)
    go_ret
    exact ⟨ret_text HT.out.symm, HBA.out.trans (HB.out.mono HBA.out.size)⟩
end Go.Proofs.YtkieiclionkllaaDoor
