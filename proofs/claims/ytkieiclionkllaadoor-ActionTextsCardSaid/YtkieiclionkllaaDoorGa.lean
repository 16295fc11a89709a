/-
  DERIVED. The walk of the document's Digits.
-/
import Derived.Test.YtkieiclionkllaaDoorCa
import Derived.Deep.RegionWith
import Derived.Laws.BytesArg
import Derived.IntWalk
namespace Go.Proofs.YtkieiclionkllaaDoor
open Go.RowKit Go.Sort

theorem below_new {w w1 : World} {o : Obj} (h : Below (w.alloc o).heap.size (w.alloc o) w1) : Below w.heap.size w w1 :=
  ((Below.refl _ _).alloc (Nat.le_refl _) o).trans (h.mono (by simp))

theorem digits_small (n : Nat) (h : n < 10) : Lib.decDigits n = [UInt8.ofNat (48 + n)] := by rw [Lib.decDigits, dif_pos h]
theorem digits_great (n : Nat) (h : ¬ n < 10) : Lib.decDigits n = Lib.decDigits (n / 10) ++ [UInt8.ofNat (48 + n % 10)] := by rw [Lib.decDigits, dif_neg h]

theorem conv_cell (w : World) (g : Nat) (m : Int) (h : w.cell? ⟨g, 0, none⟩ = some (.int .u8 m)) :
    (convert 64 9 (.slice (some ⟨g, 0, none⟩) 1 1)).run Tryd.prog w = .ok (.string (bt [UInt8.ofNat m.toNat])) w :=
  run_convert_bytes_arg w 64 5 Tryd.underlying64 Tryd.underlying5 g 0 1 1 [m] rfl (fun i hi => by
    obtain rfl : i = 0 := by omega
    exact h) 9 Tryd.underlying9
theorem conv_byte (w : World) (m : Int) :
    (convert 64 9 (.slice (some ⟨w.heap.size, 0, none⟩) 1 1)).run Tryd.prog (w.alloc (.cells #[.int .u8 m] 5)) = .ok (.string (bt [UInt8.ofNat m.toNat])) (w.alloc (.cells #[.int .u8 m] 5)) :=
  conv_cell _ _ _ (by simp [go_sem])
attribute [local go_sem ↓] conv_byte
set_option maxHeartbeats 1600000 in
set_option maxRecDepth 100000 in
theorem digits_base (n : Nat) (hn : n < 10) (w : World) : Calls Tryd.prog 23 #[.int .i64 (n : Int)] w fun e w' => e = .returned (.string (bt (Lib.decDigits n))) ∧ Below w.heap.size w w' := by
  rw [digits_small n hn]
  have h : n = 0 ∨ n = 1 ∨ n = 2 ∨ n = 3 ∨ n = 4 ∨ n = 5 ∨ n = 6 ∨ n = 7 ∨ n = 8 ∨ n = 9 := by omega
  clear hn
  rcases h with rfl | rfl | rfl | rfl | rfl | rfl | rfl | rfl | rfl | rfl
  all_goals
    go_enter Tryd.func23, Tryd.ntmps23
    go_wp2_with fail
    go_ret
    exact ⟨rfl, (Below.refl _ _).alloc (Nat.le_refl _) _⟩

/-- One more digit. -/
def okDig (n : Nat) : Prop := ∀ w : World, Calls Tryd.prog 23 #[.int .i64 (n : Int)] w fun e w' => e = .returned (.string (bt (Lib.decDigits n))) ∧ Below w.heap.size w w'
def DigOk : Prop := ∀ n : Nat, n ≤ 999999999 → okDig n
theorem digits_len : ∀ (k n : Nat), n < 10 ^ (k + 1) → (Lib.decDigits n).length ≤ k + 1
  | 0, n, h => by rw [digits_small n (by omega)]; simp
  | k + 1, n, h => by
    by_cases h10 : n < 10
    · rw [digits_small n h10]; simp
    · rw [digits_great n h10, List.length_append]
      have := digits_len k (n / 10) (by rw [Nat.pow_succ] at h; omega)
      simp only [List.length_cons, List.length_nil]; omega
theorem conv_byte2 (w : World) (m : Int) :
    (convert 64 9 (.slice (some ⟨w.heap.size, 0, none⟩) 1 1)).run Tryd.prog (w.alloc (.cells #[.int .u8 m] 5)) = .ok (.string ⟨#[UInt8.ofNat m.toNat]⟩) (w.alloc (.cells #[.int .u8 m] 5)) := conv_byte w m
theorem conv_after {w w1 : World} {m : Int} (hb : Below (w.alloc (.cells #[.int .u8 m] 5)).drew.heap.size (w.alloc (.cells #[.int .u8 m] 5)).drew w1) :
    (convert 64 9 (.slice (some ⟨w.heap.size, 0, none⟩) 1 1)).run Tryd.prog w1 = .ok (.string ⟨#[UInt8.ofNat m.toNat]⟩) w1 :=
  conv_cell w1 w.heap.size m ((hb.cell (p := ⟨w.heap.size, 0, none⟩) (by show w.heap.size < (w.alloc _).heap.size; simp)).trans (by show (w.alloc (.cells #[.int .u8 m] 5)).cell? ⟨w.heap.size, 0, none⟩ = _; simp [go_sem]))
theorem conv_g (w : World) (g : Nat) (m : Int) (hg : g = w.heap.size) :
    (convert 64 9 (.slice (some ⟨g, 0, none⟩) 1 1)).run Tryd.prog (w.alloc (.cells #[.int .u8 m] 5)) = .ok (.string ⟨#[UInt8.ofNat m.toNat]⟩) (w.alloc (.cells #[.int .u8 m] 5)) := by subst hg; exact conv_byte w m
theorem conv_gd (w : World) (g : Nat) (m : Int) (hg : g = w.heap.size) :
    (convert 64 9 (.slice (some ⟨g, 0, none⟩) 1 1)).run Tryd.prog (w.alloc (.cells #[.int .u8 m] 5)).drew = .ok (.string ⟨#[UInt8.ofNat m.toNat]⟩) (w.alloc (.cells #[.int .u8 m] 5)).drew :=
  conv_cell _ _ _ (by subst hg; show (w.alloc (.cells #[.int .u8 m] 5)).cell? ⟨w.heap.size, 0, none⟩ = _; simp [go_sem])
attribute [local go_sem ↓] conv_byte2 conv_g conv_gd
theorem of_drew {w w1 : World} (h : Below w.drew.heap.size w.drew w1) : Below w.heap.size w w1 := ⟨h.os, h.tape, h.output, h.size, h.block⟩
set_option maxHeartbeats 1600000 in
set_option maxRecDepth 100000 in
theorem digits_step0 (n : Nat) (hr : n % 10 = 0) (h10 : ¬ n < 10) (hn : n ≤ 999999999) (ih : okDig (n / 10)) : okDig n := by
  intro w
  rw [digits_great n h10, hr, ← bt_app]
  have hq : (n : Int).tdiv 10 = ((n / 10 : Nat) : Int) := by rw [Int.tdiv_eq_ediv_of_nonneg (by omega)]; omega
  have hm : (n : Int).tmod 10 = 0 := by rw [Int.tmod_eq_emod_of_nonneg (by omega)]; omega
  have hlt : ¬ (n : Int) < 10 := by omega
  have hsz : (bt (Lib.decDigits (n / 10))).size ≤ 20 := by
    rw [bt_size]; have := digits_len 9 (n / 10) (by omega); omega
  have HC : Hid (∀ w : World, Calls Tryd.prog 23 #[.int .i64 ((n / 10 : Nat) : Int)] w fun e w' => e = .returned (.string (bt (Lib.decDigits (n / 10)))) ∧ Below w.heap.size w w') := Lib.hid ih
  have hwq : IntKind.i64.wrap (((n / 10 : Nat) : Int)) = ((n / 10 : Nat) : Int) := IntWalk.i64_in _ (by omega)
  clear ih
  generalize n / 10 = q at *
  generalize bt (Lib.decDigits q) = tq at *
  clear hr h10
  have hw2 : IntKind.i64.wrap 48 = 48 := by decide
  have hw3 : IntKind.u8.wrap 48 = 48 := by decide
  go_enter Tryd.func23, Tryd.ntmps23
  go_wp2_with fail
  clear hlt hn
  go_region_with (first | (go_at_call 23; (with_reducible refine (HC.out _).mono ?_); rintro e w1 ⟨rfl, hb⟩; (first | have hk := conv_after hb | skip); have HB1 := Lib.hid hb; clear hb))
  all_goals
    go_wp2_with fail
    go_ret
    exact ⟨rfl, by first | exact (of_drew HB1.out).alloc (of_drew HB1.out).size _ | exact below_new (of_drew HB1.out)⟩
set_option maxHeartbeats 1600000 in
set_option maxRecDepth 100000 in
theorem digits_step1 (n : Nat) (hr : n % 10 = 1) (h10 : ¬ n < 10) (hn : n ≤ 999999999) (ih : okDig (n / 10)) : okDig n := by
  intro w
  rw [digits_great n h10, hr, ← bt_app]
  have hq : (n : Int).tdiv 10 = ((n / 10 : Nat) : Int) := by rw [Int.tdiv_eq_ediv_of_nonneg (by omega)]; omega
  have hm : (n : Int).tmod 10 = 1 := by rw [Int.tmod_eq_emod_of_nonneg (by omega)]; omega
  have hlt : ¬ (n : Int) < 10 := by omega
  have hsz : (bt (Lib.decDigits (n / 10))).size ≤ 20 := by
    rw [bt_size]; have := digits_len 9 (n / 10) (by omega); omega
  have HC : Hid (∀ w : World, Calls Tryd.prog 23 #[.int .i64 ((n / 10 : Nat) : Int)] w fun e w' => e = .returned (.string (bt (Lib.decDigits (n / 10)))) ∧ Below w.heap.size w w') := Lib.hid ih
  have hwq : IntKind.i64.wrap (((n / 10 : Nat) : Int)) = ((n / 10 : Nat) : Int) := IntWalk.i64_in _ (by omega)
  clear ih
  generalize n / 10 = q at *
  generalize bt (Lib.decDigits q) = tq at *
  clear hr h10
  have hw2 : IntKind.i64.wrap 49 = 49 := by decide
  have hw3 : IntKind.u8.wrap 49 = 49 := by decide
  go_enter Tryd.func23, Tryd.ntmps23
  go_wp2_with fail
  clear hlt hn
  go_region_with (first | (go_at_call 23; (with_reducible refine (HC.out _).mono ?_); rintro e w1 ⟨rfl, hb⟩; (first | have hk := conv_after hb | skip); have HB1 := Lib.hid hb; clear hb))
  all_goals
    go_wp2_with fail
    go_ret
    exact ⟨rfl, by first | exact (of_drew HB1.out).alloc (of_drew HB1.out).size _ | exact below_new (of_drew HB1.out)⟩
set_option maxHeartbeats 1600000 in
set_option maxRecDepth 100000 in
theorem digits_step2 (n : Nat) (hr : n % 10 = 2) (h10 : ¬ n < 10) (hn : n ≤ 999999999) (ih : okDig (n / 10)) : okDig n := by
  intro w
  rw [digits_great n h10, hr, ← bt_app]
  have hq : (n : Int).tdiv 10 = ((n / 10 : Nat) : Int) := by rw [Int.tdiv_eq_ediv_of_nonneg (by omega)]; omega
  have hm : (n : Int).tmod 10 = 2 := by rw [Int.tmod_eq_emod_of_nonneg (by omega)]; omega
  have hlt : ¬ (n : Int) < 10 := by omega
  have hsz : (bt (Lib.decDigits (n / 10))).size ≤ 20 := by
    rw [bt_size]; have := digits_len 9 (n / 10) (by omega); omega
  have HC : Hid (∀ w : World, Calls Tryd.prog 23 #[.int .i64 ((n / 10 : Nat) : Int)] w fun e w' => e = .returned (.string (bt (Lib.decDigits (n / 10)))) ∧ Below w.heap.size w w') := Lib.hid ih
  have hwq : IntKind.i64.wrap (((n / 10 : Nat) : Int)) = ((n / 10 : Nat) : Int) := IntWalk.i64_in _ (by omega)
  clear ih
  generalize n / 10 = q at *
  generalize bt (Lib.decDigits q) = tq at *
  clear hr h10
  have hw2 : IntKind.i64.wrap 50 = 50 := by decide
  have hw3 : IntKind.u8.wrap 50 = 50 := by decide
  go_enter Tryd.func23, Tryd.ntmps23
  go_wp2_with fail
  clear hlt hn
  go_region_with (first | (go_at_call 23; (with_reducible refine (HC.out _).mono ?_); rintro e w1 ⟨rfl, hb⟩; (first | have hk := conv_after hb | skip); have HB1 := Lib.hid hb; clear hb))
  all_goals
    go_wp2_with fail
    go_ret
    exact ⟨rfl, by first | exact (of_drew HB1.out).alloc (of_drew HB1.out).size _ | exact below_new (of_drew HB1.out)⟩
set_option maxHeartbeats 1600000 in
set_option maxRecDepth 100000 in
theorem digits_step3 (n : Nat) (hr : n % 10 = 3) (h10 : ¬ n < 10) (hn : n ≤ 999999999) (ih : okDig (n / 10)) : okDig n := by
  intro w
  rw [digits_great n h10, hr, ← bt_app]
  have hq : (n : Int).tdiv 10 = ((n / 10 : Nat) : Int) := by rw [Int.tdiv_eq_ediv_of_nonneg (by omega)]; omega
  have hm : (n : Int).tmod 10 = 3 := by rw [Int.tmod_eq_emod_of_nonneg (by omega)]; omega
  have hlt : ¬ (n : Int) < 10 := by omega
  have hsz : (bt (Lib.decDigits (n / 10))).size ≤ 20 := by
    rw [bt_size]; have := digits_len 9 (n / 10) (by omega); omega
  have HC : Hid (∀ w : World, Calls Tryd.prog 23 #[.int .i64 ((n / 10 : Nat) : Int)] w fun e w' => e = .returned (.string (bt (Lib.decDigits (n / 10)))) ∧ Below w.heap.size w w') := Lib.hid ih
  have hwq : IntKind.i64.wrap (((n / 10 : Nat) : Int)) = ((n / 10 : Nat) : Int) := IntWalk.i64_in _ (by omega)
  clear ih
  generalize n / 10 = q at *
  generalize bt (Lib.decDigits q) = tq at *
  clear hr h10
  have hw2 : IntKind.i64.wrap 51 = 51 := by decide
  have hw3 : IntKind.u8.wrap 51 = 51 := by decide
  go_enter Tryd.func23, Tryd.ntmps23
  go_wp2_with fail
  clear hlt hn
  go_region_with (first | (go_at_call 23; (with_reducible refine (HC.out _).mono ?_); rintro e w1 ⟨rfl, hb⟩; (first | have hk := conv_after hb | skip); have HB1 := Lib.hid hb; clear hb))
  all_goals
    go_wp2_with fail
    go_ret
    exact ⟨rfl, by first | exact (of_drew HB1.out).alloc (of_drew HB1.out).size _ | exact below_new (of_drew HB1.out)⟩
set_option maxHeartbeats 1600000 in
set_option maxRecDepth 100000 in
theorem digits_step4 (n : Nat) (hr : n % 10 = 4) (h10 : ¬ n < 10) (hn : n ≤ 999999999) (ih : okDig (n / 10)) : okDig n := by
  intro w
  rw [digits_great n h10, hr, ← bt_app]
  have hq : (n : Int).tdiv 10 = ((n / 10 : Nat) : Int) := by rw [Int.tdiv_eq_ediv_of_nonneg (by omega)]; omega
  have hm : (n : Int).tmod 10 = 4 := by rw [Int.tmod_eq_emod_of_nonneg (by omega)]; omega
  have hlt : ¬ (n : Int) < 10 := by omega
  have hsz : (bt (Lib.decDigits (n / 10))).size ≤ 20 := by
    rw [bt_size]; have := digits_len 9 (n / 10) (by omega); omega
  have HC : Hid (∀ w : World, Calls Tryd.prog 23 #[.int .i64 ((n / 10 : Nat) : Int)] w fun e w' => e = .returned (.string (bt (Lib.decDigits (n / 10)))) ∧ Below w.heap.size w w') := Lib.hid ih
  have hwq : IntKind.i64.wrap (((n / 10 : Nat) : Int)) = ((n / 10 : Nat) : Int) := IntWalk.i64_in _ (by omega)
  clear ih
  generalize n / 10 = q at *
  generalize bt (Lib.decDigits q) = tq at *
  clear hr h10
  have hw2 : IntKind.i64.wrap 52 = 52 := by decide
  have hw3 : IntKind.u8.wrap 52 = 52 := by decide
  go_enter Tryd.func23, Tryd.ntmps23
  go_wp2_with fail
  clear hlt hn
  go_region_with (first | (go_at_call 23; (with_reducible refine (HC.out _).mono ?_); rintro e w1 ⟨rfl, hb⟩; (first | have hk := conv_after hb | skip); have HB1 := Lib.hid hb; clear hb))
  all_goals
    go_wp2_with fail
    go_ret
    exact ⟨rfl, by first | exact (of_drew HB1.out).alloc (of_drew HB1.out).size _ | exact below_new (of_drew HB1.out)⟩
set_option maxHeartbeats 1600000 in
set_option maxRecDepth 100000 in
theorem digits_step5 (n : Nat) (hr : n % 10 = 5) (h10 : ¬ n < 10) (hn : n ≤ 999999999) (ih : okDig (n / 10)) : okDig n := by
  intro w
  rw [digits_great n h10, hr, ← bt_app]
  have hq : (n : Int).tdiv 10 = ((n / 10 : Nat) : Int) := by rw [Int.tdiv_eq_ediv_of_nonneg (by omega)]; omega
  have hm : (n : Int).tmod 10 = 5 := by rw [Int.tmod_eq_emod_of_nonneg (by omega)]; omega
  have hlt : ¬ (n : Int) < 10 := by omega
  have hsz : (bt (Lib.decDigits (n / 10))).size ≤ 20 := by
    rw [bt_size]; have := digits_len 9 (n / 10) (by omega); omega
  have HC : Hid (∀ w : World, Calls Tryd.prog 23 #[.int .i64 ((n / 10 : Nat) : Int)] w fun e w' => e = .returned (.string (bt (Lib.decDigits (n / 10)))) ∧ Below w.heap.size w w') := Lib.hid ih
  have hwq : IntKind.i64.wrap (((n / 10 : Nat) : Int)) = ((n / 10 : Nat) : Int) := IntWalk.i64_in _ (by omega)
  clear ih
  generalize n / 10 = q at *
  generalize bt (Lib.decDigits q) = tq at *
  clear hr h10
  have hw2 : IntKind.i64.wrap 53 = 53 := by decide
  have hw3 : IntKind.u8.wrap 53 = 53 := by decide
  go_enter Tryd.func23, Tryd.ntmps23
  go_wp2_with fail
  clear hlt hn
  go_region_with (first | (go_at_call 23; (with_reducible refine (HC.out _).mono ?_); rintro e w1 ⟨rfl, hb⟩; (first | have hk := conv_after hb | skip); have HB1 := Lib.hid hb; clear hb))
  all_goals
    go_wp2_with fail
    go_ret
    exact ⟨rfl, by first | exact (of_drew HB1.out).alloc (of_drew HB1.out).size _ | exact below_new (of_drew HB1.out)⟩
set_option maxHeartbeats 1600000 in
set_option maxRecDepth 100000 in
theorem digits_step6 (n : Nat) (hr : n % 10 = 6) (h10 : ¬ n < 10) (hn : n ≤ 999999999) (ih : okDig (n / 10)) : okDig n := by
  intro w
  rw [digits_great n h10, hr, ← bt_app]
  have hq : (n : Int).tdiv 10 = ((n / 10 : Nat) : Int) := by rw [Int.tdiv_eq_ediv_of_nonneg (by omega)]; omega
  have hm : (n : Int).tmod 10 = 6 := by rw [Int.tmod_eq_emod_of_nonneg (by omega)]; omega
  have hlt : ¬ (n : Int) < 10 := by omega
  have hsz : (bt (Lib.decDigits (n / 10))).size ≤ 20 := by
    rw [bt_size]; have := digits_len 9 (n / 10) (by omega); omega
  have HC : Hid (∀ w : World, Calls Tryd.prog 23 #[.int .i64 ((n / 10 : Nat) : Int)] w fun e w' => e = .returned (.string (bt (Lib.decDigits (n / 10)))) ∧ Below w.heap.size w w') := Lib.hid ih
  have hwq : IntKind.i64.wrap (((n / 10 : Nat) : Int)) = ((n / 10 : Nat) : Int) := IntWalk.i64_in _ (by omega)
  clear ih
  generalize n / 10 = q at *
  generalize bt (Lib.decDigits q) = tq at *
  clear hr h10
  have hw2 : IntKind.i64.wrap 54 = 54 := by decide
  have hw3 : IntKind.u8.wrap 54 = 54 := by decide
  go_enter Tryd.func23, Tryd.ntmps23
  go_wp2_with fail
  clear hlt hn
  go_region_with (first | (go_at_call 23; (with_reducible refine (HC.out _).mono ?_); rintro e w1 ⟨rfl, hb⟩; (first | have hk := conv_after hb | skip); have HB1 := Lib.hid hb; clear hb))
  all_goals
    go_wp2_with fail
    go_ret
    exact ⟨rfl, by first | exact (of_drew HB1.out).alloc (of_drew HB1.out).size _ | exact below_new (of_drew HB1.out)⟩
set_option maxHeartbeats 1600000 in
set_option maxRecDepth 100000 in
theorem digits_step7 (n : Nat) (hr : n % 10 = 7) (h10 : ¬ n < 10) (hn : n ≤ 999999999) (ih : okDig (n / 10)) : okDig n := by
  intro w
  rw [digits_great n h10, hr, ← bt_app]
  have hq : (n : Int).tdiv 10 = ((n / 10 : Nat) : Int) := by rw [Int.tdiv_eq_ediv_of_nonneg (by omega)]; omega
  have hm : (n : Int).tmod 10 = 7 := by rw [Int.tmod_eq_emod_of_nonneg (by omega)]; omega
  have hlt : ¬ (n : Int) < 10 := by omega
  have hsz : (bt (Lib.decDigits (n / 10))).size ≤ 20 := by
    rw [bt_size]; have := digits_len 9 (n / 10) (by omega); omega
  have HC : Hid (∀ w : World, Calls Tryd.prog 23 #[.int .i64 ((n / 10 : Nat) : Int)] w fun e w' => e = .returned (.string (bt (Lib.decDigits (n / 10)))) ∧ Below w.heap.size w w') := Lib.hid ih
  have hwq : IntKind.i64.wrap (((n / 10 : Nat) : Int)) = ((n / 10 : Nat) : Int) := IntWalk.i64_in _ (by omega)
  clear ih
  generalize n / 10 = q at *
  generalize bt (Lib.decDigits q) = tq at *
  clear hr h10
  have hw2 : IntKind.i64.wrap 55 = 55 := by decide
  have hw3 : IntKind.u8.wrap 55 = 55 := by decide
  go_enter Tryd.func23, Tryd.ntmps23
  go_wp2_with fail
  clear hlt hn
  go_region_with (first | (go_at_call 23; (with_reducible refine (HC.out _).mono ?_); rintro e w1 ⟨rfl, hb⟩; (first | have hk := conv_after hb | skip); have HB1 := Lib.hid hb; clear hb))
  all_goals
    go_wp2_with fail
    go_ret
    exact ⟨rfl, by first | exact (of_drew HB1.out).alloc (of_drew HB1.out).size _ | exact below_new (of_drew HB1.out)⟩
set_option maxHeartbeats 1600000 in
set_option maxRecDepth 100000 in
theorem digits_step8 (n : Nat) (hr : n % 10 = 8) (h10 : ¬ n < 10) (hn : n ≤ 999999999) (ih : okDig (n / 10)) : okDig n := by
  intro w
  rw [digits_great n h10, hr, ← bt_app]
  have hq : (n : Int).tdiv 10 = ((n / 10 : Nat) : Int) := by rw [Int.tdiv_eq_ediv_of_nonneg (by omega)]; omega
  have hm : (n : Int).tmod 10 = 8 := by rw [Int.tmod_eq_emod_of_nonneg (by omega)]; omega
  have hlt : ¬ (n : Int) < 10 := by omega
  have hsz : (bt (Lib.decDigits (n / 10))).size ≤ 20 := by
    rw [bt_size]; have := digits_len 9 (n / 10) (by omega); omega
  have HC : Hid (∀ w : World, Calls Tryd.prog 23 #[.int .i64 ((n / 10 : Nat) : Int)] w fun e w' => e = .returned (.string (bt (Lib.decDigits (n / 10)))) ∧ Below w.heap.size w w') := Lib.hid ih
  have hwq : IntKind.i64.wrap (((n / 10 : Nat) : Int)) = ((n / 10 : Nat) : Int) := IntWalk.i64_in _ (by omega)
  clear ih
  generalize n / 10 = q at *
  generalize bt (Lib.decDigits q) = tq at *
  clear hr h10
  have hw2 : IntKind.i64.wrap 56 = 56 := by decide
  have hw3 : IntKind.u8.wrap 56 = 56 := by decide
  go_enter Tryd.func23, Tryd.ntmps23
  go_wp2_with fail
  clear hlt hn
  go_region_with (first | (go_at_call 23; (with_reducible refine (HC.out _).mono ?_); rintro e w1 ⟨rfl, hb⟩; (first | have hk := conv_after hb | skip); have HB1 := Lib.hid hb; clear hb))
  all_goals
    go_wp2_with fail
    go_ret
    exact ⟨rfl, by first | exact (of_drew HB1.out).alloc (of_drew HB1.out).size _ | exact below_new (of_drew HB1.out)⟩
set_option maxHeartbeats 1600000 in
set_option maxRecDepth 100000 in
theorem digits_step9 (n : Nat) (hr : n % 10 = 9) (h10 : ¬ n < 10) (hn : n ≤ 999999999) (ih : okDig (n / 10)) : okDig n := by
  intro w
  rw [digits_great n h10, hr, ← bt_app]
  have hq : (n : Int).tdiv 10 = ((n / 10 : Nat) : Int) := by rw [Int.tdiv_eq_ediv_of_nonneg (by omega)]; omega
  have hm : (n : Int).tmod 10 = 9 := by rw [Int.tmod_eq_emod_of_nonneg (by omega)]; omega
  have hlt : ¬ (n : Int) < 10 := by omega
  have hsz : (bt (Lib.decDigits (n / 10))).size ≤ 20 := by
    rw [bt_size]; have := digits_len 9 (n / 10) (by omega); omega
  have HC : Hid (∀ w : World, Calls Tryd.prog 23 #[.int .i64 ((n / 10 : Nat) : Int)] w fun e w' => e = .returned (.string (bt (Lib.decDigits (n / 10)))) ∧ Below w.heap.size w w') := Lib.hid ih
  have hwq : IntKind.i64.wrap (((n / 10 : Nat) : Int)) = ((n / 10 : Nat) : Int) := IntWalk.i64_in _ (by omega)
  clear ih
  generalize n / 10 = q at *
  generalize bt (Lib.decDigits q) = tq at *
  clear hr h10
  have hw2 : IntKind.i64.wrap 57 = 57 := by decide
  have hw3 : IntKind.u8.wrap 57 = 57 := by decide
  go_enter Tryd.func23, Tryd.ntmps23
  go_wp2_with fail
  clear hlt hn
  go_region_with (first | (go_at_call 23; (with_reducible refine (HC.out _).mono ?_); rintro e w1 ⟨rfl, hb⟩; (first | have hk := conv_after hb | skip); have HB1 := Lib.hid hb; clear hb))
  all_goals
    go_wp2_with fail
    go_ret
    exact ⟨rfl, by first | exact (of_drew HB1.out).alloc (of_drew HB1.out).size _ | exact below_new (of_drew HB1.out)⟩
/-- The document's Digits. -/
theorem digOk : DigOk := by
  intro n
  induction n using Nat.strongRecOn with
  | _ n ih =>
    intro hn
    by_cases h10 : n < 10
    · exact fun w => digits_base n h10 w
    · have hi := ih (n / 10) (by omega) (by omega)
      have h : n % 10 = 0 ∨ n % 10 = 1 ∨ n % 10 = 2 ∨ n % 10 = 3 ∨ n % 10 = 4 ∨ n % 10 = 5 ∨ n % 10 = 6 ∨ n % 10 = 7 ∨ n % 10 = 8 ∨ n % 10 = 9 := by omega
      rcases h with h | h | h | h | h | h | h | h | h | h
      · exact digits_step0 n h h10 hn hi
      · exact digits_step1 n h h10 hn hi
      · exact digits_step2 n h h10 hn hi
      · exact digits_step3 n h h10 hn hi
      · exact digits_step4 n h h10 hn hi
      · exact digits_step5 n h h10 hn hi
      · exact digits_step6 n h h10 hn hi
      · exact digits_step7 n h h10 hn hi
      · exact digits_step8 n h h10 hn hi
      · exact digits_step9 n h h10 hn hi
end Go.Proofs.YtkieiclionkllaaDoor
