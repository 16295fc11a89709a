/-
  DERIVED. sort.symMerge_func, for all ranges; sort.insertionSort_func off the shelf.
-/
import Derived.Test.YtelhokjjllikhaaSymLo
namespace Go.Proofs.Ytelhokjjllikhaa
open Go.RowKit Go.Sort

theorem merges_all (g : Nat) (lb : Array Value) (sf : Nat) (sb : Array Value) (blk off : Nat) (n : Nat) : MergesBelow g lb sf sb blk off n := by
  induction n with
  | zero => intro d W E a m b A M B hA hM hB h1 h2 h3 h4; omega
  | succ n ih =>
    intro d W E a m b A M B hA hM hB h1 h2 h3 h4 s1 s2
    subst hA; subst hM; subst hB
    have IH : Hid (MergesBelow g lb sf sb blk off (b - a)) := fun d' W' E' a' m' b' A' M' B' e1 e2 e3 e4 e5 e6 e7 => ih d' W' E' a' m' b' A' M' B' e1 e2 e3 e4 e5 e6 (by omega)
    by_cases c1 : m = a + 1
    · exact sym_one g lb sf sb blk off d W E a m b c1 h2 h3 s2
    · by_cases c2 : b = m + 1
      · exact sym_two g lb sf sb blk off d W E a m b (by omega) c2 h3 s1
      · by_cases c3 : (a + b) / 2 < m
        · exact sym_hi g lb sf sb blk off d W E a m b (by omega) (by omega) h3 s1 s2 IH c3
        · exact sym_lo g lb sf sb blk off d W E a m b (by omega) (by omega) h3 s1 s2 IH (by omega)

theorem symMerge_w (g : Nat) (lb : Array Value) (sf : Nat) (sb : Array Value) (blk off : Nat) (d : Array Nat) (W : World) (E : Env g lb sf sb blk off d W) (a m b : Nat) (A M B : Int) (hA : A = a) (hM : M = m) (hB : B = b)
    (h1 : a < m) (h2 : m < b) (h3 : b ≤ d.size) (s1 : Fl.Srt a m d) (s2 : Fl.Srt m b d) :
    Calls Try.prog 42 #[.agg #[.func (.func g) #[] lb, .func (.func sf) #[] sb], .int .i64 A, .int .i64 M, .int .i64 B] W fun e w' => e = .returned (.tuple #[]) ∧ ∃ d', SW encF W blk off d' w' ∧ PermIn a b d d' ∧ Fl.Srt a b d' :=
  merges_all g lb sf sb blk off (b - a + 1) d W E a m b A M B hA hM hB h1 h2 h3 (by omega) s1 s2

theorem insSort_w (g : Nat) (lb : Array Value) (sf : Nat) (sb : Array Value) (blk off : Nat) (d : Array Nat) (W : World) (E : Env g lb sf sb blk off d W) (a b : Nat) (A B : Int) (hA : A = a) (hB : B = b) (h1 : a ≤ b) (h2 : b ≤ d.size) :
    Calls Try.prog 41 #[.agg #[.func (.func g) #[] lb, .func (.func sf) #[] sb], .int .i64 A, .int .i64 B] W fun e w' => e = .returned (.tuple #[]) ∧ ∃ d', SW encF W blk off d' w' ∧ PermIn a b d d' ∧ Fl.Srt a b d' := by
  subst hA; subst hB
  have hc : Calls Try.prog 41 #[.agg #[.func (.func g) #[] lb, .func (.func sf) #[] sb], .int .i64 a, .int .i64 b] W fun e w' => e = .returned (.tuple #[]) ∧ ∃ n os, w' = sortWorld encF W blk off n (Sort.insertionSort Fl.less d a b) os :=
    Any.insertionSort_func_w Try.laysGg26 encF Fl.less g lb sf sb blk off a b d W E.eg E.less E.swaps E.row E.inside h1 h2 (by have := E.small; omega)
  refine hc.mono ?_
  rintro e w' ⟨rfl, n, os, rfl⟩
  have h := insertionSort_holds Fl.less_swo d a b h1 h2
  exact ⟨rfl, _, ⟨n, os, rfl⟩, h.1, Fl.srt_of _ _ _ h.2⟩

end Go.Proofs.Ytelhokjjllikhaa
