/-
  DERIVED. The walk of the likeness of two rows of floats; the rank over a row as it is read.
-/
import Derived.Test.YtelhokjjllikhaaSort
import Derived.Test.YtelhokjjllikhaaLives
namespace Go.Proofs.Ytelhokjjllikhaa
open Go.RowKit Go.Sort

/-- Each is a word of 64 bits. -/
def Words (d : Array Nat) : Prop := ∀ k, k < d.size → d[k]! < 18446744073709551616

theorem alike_back (a b : Nat) (w : World) (la : a < 18446744073709551616) (lb : b < 18446744073709551616) : Calls Try.prog 11 #[.float .f64 a, .float .f64 b] w fun e w' => e = .returned (.bool (Fl.same a b)) ∧ w' = w :=
  (alike_any a b w la lb).mono fun _ _ ⟨he, hw⟩ => ⟨he, hw.symm⟩

set_option maxHeartbeats 1600000 in
theorem floats_true (p q : Option Addr) (c1 c2 : Nat) (d e : Array Nat) (w : World) (hd : Reads w p d) (he : Reads w q e) (hsz : d.size = e.size) (hsm : d.size ≤ 1000) (wd : Words d) (we : Words e)
    (hs : ∀ k, k < d.size → Fl.same d[k]! e[k]! = true) :
    Calls Try.prog 8 #[.slice p d.size c1, .slice q e.size c2] w fun E w' => E = .returned (.bool true) ∧ ∃ m, w' = w.drewN m := by
  rw [← hsz]
  have HD := Lib.hid hd; have HE := Lib.hid he; have HZ := Lib.hid hsz; have WD := Lib.hid wd; have WE := Lib.hid we; have HS := Lib.hid hs
  clear hd he hsz wd we hs
  go_enter Try.func8, Try.ntmps8
  go_wp2
  go_loopw [5] (fun v wr => ∃ k m : Nat, v = .int .i64 k ∧ k ≤ d.size ∧ wr = w.drewN m) (fun v _ => d.size - (intOf v).toNat)
  case atStart => exact ⟨0, 0, rfl, Nat.zero_le _, rfl⟩
  case round =>
    obtain ⟨k, m, rfl, hk, hwr⟩ := hrel
    have HW := Lib.hid hwr
    by_cases hlt : k < d.size
    · obtain ⟨b1, o1, rfl, h1⟩ := HD.out (by omega)
      obtain ⟨b2, o2, rfl, h2⟩ := HE.out (by have := HZ.out; omega)
      have k1 : wr.cell? ⟨b1, o1 + k, none⟩ = some (.float .f64 d[k]!) := by rw [hwr]; exact h1 k hlt
      have k2 : wr.cell? ⟨b2, o2 + k, none⟩ = some (.float .f64 e[k]!) := by rw [hwr]; exact h2 k (by have := HZ.out; omega)
      have l1 := Lib.hid (WD.out k hlt)
      have l2 := Lib.hid (WE.out k (by have := HZ.out; omega))
      have hsame := HS.out k hlt
      clear h1 h2 hwr
      generalize d[k]! = x at k1 l1 hsame
      generalize e[k]! = y at k2 l2 hsame
      go_wp2_with fail
      go_quiet ((go_at_call 11; exact Calls.quiet_of_same (alike_back _ _ _ l1.out l2.out)))
      go_wp2
      go_roundw
      case rel => exact ⟨k + 1, m + nq, by go_num, by omega, by rw [HW.out, World.drewN_drewN]⟩
      case measure => simp [intOf]; omega
    · clear hwr
      go_wp2
      go_ret
      exact ⟨rfl, m, HW.out⟩

end Go.Proofs.Ytelhokjjllikhaa
