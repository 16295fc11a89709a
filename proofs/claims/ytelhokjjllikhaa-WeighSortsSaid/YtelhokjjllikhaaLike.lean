/-
  DERIVED. The walks of the document's order and of the likeness of two floats.
-/
import Derived.Test.YtelhokjjllikhaaRef
namespace Go.Proofs.Ytelhokjjllikhaa
open Go.RowKit

set_option maxHeartbeats 400000 in
theorem refless_any (a b : Nat) (w : World) (la : a < 18446744073709551616) (lb : b < 18446744073709551616) :
    Calls Try.prog 21 #[.float .f64 a, .float .f64 b] w fun e w' => e = .returned (.bool (Fl.less a b)) ∧ w = w' := by
  cases na : Fl.nan a
  · have ca : (Fl.cls a == 2) = false ∧ (Fl.cls a != 2) = true ∧ 0 ≤ Fl.cls a ∧ Fl.cls a ≤ 1 := by
      unfold Fl.cls; simp only [na, Bool.false_eq_true, if_false]; split <;> simp
    obtain ⟨ca1, ca2, ca3, ca4⟩ := ca
    cases nb : Fl.nan b
    · have cb : (Fl.cls b == 2) = false ∧ (Fl.cls b != 2) = true ∧ 0 ≤ Fl.cls b ∧ Fl.cls b ≤ 1 := by
        unfold Fl.cls; simp only [nb, Bool.false_eq_true, if_false]; split <;> simp
      obtain ⟨cb1, cb2, cb3, cb4⟩ := cb
      by_cases h : Fl.sg a = Fl.sg b
      · have t1 : (FloatKind.f64.format.order a b == some .eq) = true := by rw [Fl.t_eq, na, nb]; simp [h]
        rw [← Fl.ref_less a b na nb h la lb]
        have LA := Lib.hid la; have LB := Lib.hid lb
        clear h na nb la lb
        go_enter Try.func21, Try.ntmps21
        go_wp2_with (go_at_call 26; refine (class_any _ _ (by first | exact LA.out | exact LB.out)).mono ?_; rintro e w' ⟨rfl, rfl⟩)
        go_ret
        exact ⟨rfl, rfl⟩
      · have t1 : (FloatKind.f64.format.order a b == some .eq) = false := by rw [Fl.t_eq, na, nb]; simp [h]
        have t2 : (FloatKind.f64.format.order a b == some .lt) = Fl.less a b := by rw [Fl.t_lt, na, nb, Fl.less_sg_ne a b na nb h]; simp
        have LA := Lib.hid la; have LB := Lib.hid lb
        clear h na nb la lb
        go_enter Try.func21, Try.ntmps21
        go_wp2_with (go_at_call 26; refine (class_any _ _ (by first | exact LA.out | exact LB.out)).mono ?_; rintro e w' ⟨rfl, rfl⟩)
        go_ret
        exact ⟨rfl, rfl⟩
    · have cb : Fl.cls b = 2 := by unfold Fl.cls; rw [nb]; rfl
      rw [Fl.less_nan_r a b na nb]
      have LA := Lib.hid la; have LB := Lib.hid lb
      clear na nb la lb
      go_enter Try.func21, Try.ntmps21
      go_wp2_with (go_at_call 26; refine (class_any _ _ (by first | exact LA.out | exact LB.out)).mono ?_; rintro e w' ⟨rfl, rfl⟩)
      go_ret
      exact ⟨rfl, rfl⟩
  · have ca : Fl.cls a = 2 := by unfold Fl.cls; rw [na]; rfl
    rw [Fl.less_nan_l a b na]
    have LA := Lib.hid la; have LB := Lib.hid lb
    clear na la lb
    go_enter Try.func21, Try.ntmps21
    go_wp2_with (go_at_call 26; refine (class_any _ _ (by first | exact LA.out | exact LB.out)).mono ?_; rintro e w' ⟨rfl, rfl⟩)
    go_ret
    exact ⟨rfl, rfl⟩

set_option maxHeartbeats 400000 in
theorem alike_any (a b : Nat) (w : World) (la : a < 18446744073709551616) (lb : b < 18446744073709551616) :
    Calls Try.prog 11 #[.float .f64 a, .float .f64 b] w fun e w' => e = .returned (.bool (Fl.same a b)) ∧ w = w' := by
  cases na : Fl.nan a
  · have t0 : (FloatKind.f64.format.order a a != some .eq) = false := by rw [Fl.t_nan, na]
    cases nb : Fl.nan b
    · by_cases h : Fl.sg a = Fl.sg b
      · have t1 : (FloatKind.f64.format.order a b == some .eq) = true := by rw [Fl.t_eq, na, nb]; simp [h]
        by_cases h0 : Fl.sg a = 0
        · have h1 : Fl.sg b = 0 := by rw [← h, h0]
          have hq := quo0
          have hqM := quoM
          have u1 : (FloatKind.f64.format.order 0 0 != some .eq) = false := by decide +kernel
          have u2 : (FloatKind.f64.format.order 9223372036854775808 0 != some .eq) = false := by decide +kernel
          have v1 : (FloatKind.f64.format.order 9218868437227405312 9218868437227405312 == some .eq) = true := by decide +kernel
          have v2 : (FloatKind.f64.format.order 9218868437227405312 18442240474082181120 == some .eq) = false := by decide +kernel
          have v3 : (FloatKind.f64.format.order 18442240474082181120 9218868437227405312 == some .eq) = false := by decide +kernel
          have v4 : (FloatKind.f64.format.order 18442240474082181120 18442240474082181120 == some .eq) = true := by decide +kernel
          rcases Fl.sg_zero a h0 la with rfl | rfl
          · rcases Fl.sg_zero b h1 lb with rfl | rfl
            · rw [show Fl.same 0 0 = true by decide]
              clear h h0 h1 na nb la lb
              go_enter Try.func11, Try.ntmps11
              go_wp2
              go_ret
              exact ⟨rfl, rfl⟩
            · rw [show Fl.same 0 9223372036854775808 = false by decide]
              clear h h0 h1 na nb la lb
              go_enter Try.func11, Try.ntmps11
              go_wp2
              go_ret
              exact ⟨rfl, rfl⟩
          · rcases Fl.sg_zero b h1 lb with rfl | rfl
            · rw [show Fl.same 9223372036854775808 0 = false by decide]
              clear h h0 h1 na nb la lb
              go_enter Try.func11, Try.ntmps11
              go_wp2
              go_ret
              exact ⟨rfl, rfl⟩
            · rw [show Fl.same 9223372036854775808 9223372036854775808 = true by decide]
              clear h h0 h1 na nb la lb
              go_enter Try.func11, Try.ntmps11
              go_wp2
              go_ret
              exact ⟨rfl, rfl⟩
        · have t2 : (FloatKind.f64.format.order a 0 != some .eq) = true := by rw [Fl.t_ne, na, Fl.nan_lit0, Fl.sg_lit0]; simp [h0]
          rw [Fl.same_sg_eq a b na nb h h0]
          clear h h0 na nb la lb
          go_enter Try.func11, Try.ntmps11
          go_wp2
          go_ret
          exact ⟨rfl, rfl⟩
      · have t1 : (FloatKind.f64.format.order a b == some .eq) = false := by rw [Fl.t_eq, na, nb]; simp [h]
        rw [Fl.same_sg_ne a b na nb h]
        clear h na nb la lb
        go_enter Try.func11, Try.ntmps11
        go_wp2
        go_ret
        exact ⟨rfl, rfl⟩
    · have t1 : (FloatKind.f64.format.order a b == some .eq) = false := by rw [Fl.t_eq, nb]; simp
      rw [Fl.same_nan_r a b na nb]
      clear na nb la lb
      go_enter Try.func11, Try.ntmps11
      go_wp2
      go_ret
      exact ⟨rfl, rfl⟩
  · have t0 : (FloatKind.f64.format.order a a != some .eq) = true := by rw [Fl.t_nan, na]
    cases nb : Fl.nan b
    · have t1 : (FloatKind.f64.format.order b b != some .eq) = false := by rw [Fl.t_nan, nb]
      have t2 : (FloatKind.f64.format.order a b == some .eq) = false := by rw [Fl.t_eq, na]; simp
      rw [Fl.same_nan_l a b na nb]
      clear na nb la lb
      go_enter Try.func11, Try.ntmps11
      go_wp2
      go_ret
      exact ⟨rfl, rfl⟩
    · have t1 : (FloatKind.f64.format.order b b != some .eq) = true := by rw [Fl.t_nan, nb]
      rw [Fl.same_nan a b na nb]
      clear na nb la lb
      go_enter Try.func11, Try.ntmps11
      go_wp2
      go_ret
      exact ⟨rfl, rfl⟩

end Go.Proofs.Ytelhokjjllikhaa
