/-
  DERIVED. Sums of floats, step by step; where a sum is no number its word is whatever the machine says.
-/
import Derived.Test.YtelhokjjllikhaaRefS
namespace Go.Proofs.Ytelhokjjllikhaa
open Go.RowKit Go.Sort

namespace Fl
def tstep (o : Option Nat) (y : Nat) : Option Nat := o.bind fun a => floatBits .add .f64 a y
/-- The sum of a list, as long as it is a number. -/
def tot (L : List Nat) : Option Nat := L.foldl tstep (some 0)
/-- A word that is what the sum says: any word that is no number, where it says none. -/
def Is (o : Option Nat) (r : Nat) : Prop := r < 18446744073709551616 ∧ ∀ s, (o = some s → r = s) ∧ (o = none → nan r = true)

theorem is_zero : Is (tot []) 0 := ⟨by omega, fun s => ⟨(fun h => by injection h), (fun h => by cases h)⟩⟩
theorem tot_snoc (L : List Nat) (y : Nat) : tot (L ++ [y]) = tstep (tot L) y := by unfold tot; rw [List.foldl_append]; rfl

theorem add_nan_none (r y : Nat) (h : nan r = true) : floatBits .add .f64 r y = none := by
  show Ieee.double.add r y = none
  unfold Ieee.Format.add
  unfold nan at h
  rw [read_nan r (by simpa using h)]
  rfl

theorem is_some {o : Option Nat} {r y t : Nat} (h : Is o r) (ha : floatBits .add .f64 r y = some t) : Is (tstep o y) t := by
  have hw := floatBits_wf ha
  simp only [Lit.wf, decide_eq_true_eq] at hw
  cases o with
  | none =>
    have := (h.2 0).2 rfl
    rw [add_nan_none r y this] at ha; cases ha
  | some s =>
    have hs : r = s := (h.2 s).1 rfl
    subst hs
    refine ⟨by simpa using hw, fun s' => ⟨fun e => ?_, fun e => ?_⟩⟩
    · unfold tstep at e; rw [Option.bind_some, ha] at e; injection e
    · unfold tstep at e; rw [Option.bind_some, ha] at e; cases e

theorem is_none {o : Option Nat} {r y t : Nat} (h : Is o r) (ha : floatBits .add .f64 r y = none) (ht : nan t = true) (hl : t < 18446744073709551616) : Is (tstep o y) t := by
  have e : tstep o y = none := by
    cases o with
    | none => rfl
    | some s =>
      have hs : r = s := (h.2 s).1 rfl
      subst hs
      unfold tstep; rw [Option.bind_some, ha]
  rw [e]
  exact ⟨hl, fun s => ⟨(fun e => by cases e), fun _ => ht⟩⟩

theorem is_same {o : Option Nat} {r t : Nat} (h : Is o r) (g : Is o t) : same r t = true := by
  cases o with
  | none => exact same_nan r t ((h.2 0).2 rfl) ((g.2 0).2 rfl)
  | some s => rw [(h.2 s).1 rfl, (g.2 s).1 rfl]; unfold same; simp

/-- The numbers of a row. -/
def nums (L : List Nat) : List Nat := L.filter fun y => !nan y
theorem nums_snoc (L : List Nat) (k : Nat) (h : k < L.length) (hn : nan L[k] = false) : nums (L.take (k + 1)) = nums (L.take k) ++ [L[k]] := by
  unfold nums
  rw [List.take_succ_eq_append_getElem h, List.filter_append]
  simp [hn]
theorem nums_skip (L : List Nat) (k : Nat) (h : k < L.length) (hn : nan L[k] = true) : nums (L.take (k + 1)) = nums (L.take k) := by
  unfold nums
  rw [List.take_succ_eq_append_getElem h, List.filter_append]
  simp [hn]

theorem key_nan (x : Nat) : nan x = true ↔ key x = 9223372036854775808 := by
  unfold key
  cases h : nan x
  · have := rung_le x h
    simp only [Bool.false_eq_true, if_false, false_iff]
    split <;> omega
  · simp
theorem key_le (x : Nat) : key x ≤ 9223372036854775808 := by
  unfold key
  cases h : nan x
  · have := rung_le x h
    simp only [Bool.false_eq_true, if_false]
    split <;> omega
  · simp
theorem key_inj (x y : Nat) (hx : nan x = false) (h : key x = key y) (lx : x < 18446744073709551616) (ly : y < 18446744073709551616) : x = y := by
  have hy : nan y = false := by
    cases e : nan y
    · rfl
    · have := (key_nan y).1 e
      rw [← h] at this
      rw [(key_nan x).2 this] at hx; cases hx
  unfold key at h
  rw [hx, hy] at h
  simp only [Bool.false_eq_true, if_false] at h
  unfold rung neg at h
  have e1 : (x / 9223372036854775808 % 2 == 1) = decide (9223372036854775808 ≤ x) := by
    rw [Bool.eq_iff_iff]; simp only [beq_iff_eq, decide_eq_true_eq]; omega
  have e2 : (y / 9223372036854775808 % 2 == 1) = decide (9223372036854775808 ≤ y) := by
    rw [Bool.eq_iff_iff]; simp only [beq_iff_eq, decide_eq_true_eq]; omega
  rw [e1, e2] at h
  simp only [decide_eq_true_eq] at h
  split at h <;> split at h <;> omega

theorem nums_eq : ∀ (L M : List Nat), L.map key = M.map key → (∀ x ∈ L, x < 18446744073709551616) → (∀ x ∈ M, x < 18446744073709551616) → nums L = nums M
  | [], M, h, _, _ => by
    have : M = [] := List.map_eq_nil_iff.1 h.symm
    rw [this]
  | x :: L, [], h, _, _ => by simp at h
  | x :: L, y :: M, h, hL, hM => by
    rw [List.map_cons, List.map_cons] at h
    injection h with h1 h2
    have ih := nums_eq L M h2 (fun z hz => hL z (List.mem_cons_of_mem _ hz)) (fun z hz => hM z (List.mem_cons_of_mem _ hz))
    unfold nums at *
    cases hx : nan x
    · have hy : x = y := key_inj x y hx h1 (hL x (List.mem_cons_self ..)) (hM y (List.mem_cons_self ..))
      subst hy
      simp [hx, ih]
    · have hy : nan y = true := (key_nan y).2 (by rw [← h1]; exact (key_nan x).1 hx)
      simp [hx, hy, ih]

/-- Behind the first that is no number stands none. -/
theorem nums_stop (n : Nat) (d : Array Nat) (hn : n = d.size) (hs : Srt 0 n d) (k : Nat) (hk : k < n) (h : nan d[k]! = true) : nums d.toList = nums (d.toList.take k) := by
  have e : d.toList = d.toList.take k ++ d.toList.drop k := (List.take_append_drop k d.toList).symm
  have e' : nums d.toList = nums (d.toList.take k ++ d.toList.drop k) := congrArg nums e
  rw [e']
  unfold nums
  rw [List.filter_append]
  have h0 : (d.toList.drop k).filter (fun y => !nan y) = [] := by
    rw [List.filter_eq_nil_iff]
    intro x hx
    obtain ⟨j, hj, rfl⟩ := List.getElem_of_mem hx
    rw [List.length_drop, Array.length_toList] at hj
    rw [List.getElem_drop, ← getE d (k + j) (by omega)]
    have h1 := hs.le k (k + j) (by omega) (by omega) (by omega)
    have h2 := (key_nan _).1 h
    have h3 := key_le d[k + j]!
    have := (key_nan d[k + j]!).2 (by omega)
    simp [this]
  rw [h0, List.append_nil]
end Fl

theorem add_some (x y r : Nat) (h : floatBits .add .f64 x y = some r) (w : World) : (binOp .add 23 (.float .f64 x) (.float .f64 y)).run Try.prog w = .ok (.float .f64 r) w :=
  run_float_arith w .add 23 .f64 x y r h

theorem add_none (x y : Nat) (h : floatBits .add .f64 x y = none) (w : World) :
    ∃ r, Fl.nan r = true ∧ r < 18446744073709551616 ∧ (binOp .add 23 (.float .f64 x) (.float .f64 y)).run Try.prog w = .ok (.float .f64 r) w.drew := by
  have h' : FloatKind.f64.format.add x y = none := h
  refine ⟨(Question.nanBits .f64 x y).cut (w.tape w.drawn (.nanBits .f64 x y)), ?_, ?_, ?_⟩
  · simp only [Question.cut]
    generalize w.tape w.drawn (.nanBits .f64 x y) = t
    have hp : t % 2 < 2 := Nat.mod_lt _ (by decide)
    have hq : t / 2 % (2 ^ 52 - 1) < 2 ^ 52 - 1 := Nat.mod_lt _ (by decide)
    generalize t % 2 = p at *
    generalize t / 2 % (2 ^ 52 - 1) = q at *
    unfold Fl.nan Fl.rung
    simp only [decide_eq_true_eq]
    have : p = 0 ∨ p = 1 := by omega
    rcases this with rfl | rfl <;> omega
  · simp only [Question.cut]
    generalize w.tape w.drawn (.nanBits .f64 x y) = t
    omega
  · simp [binOp, Op.floatArith, h', Question.forced]

end Go.Proofs.Ytelhokjjllikhaa
