/-
  DERIVED. The walk of the law on all signs.
-/
import Derived.Test.YtbanidkfeibikaaDoorNamesW
import Derived.StillTailTactics
namespace Go.Proofs.YtbanidkfeibikaaDoor
open Go.RowKit

theorem go_len : ∀ (f : Nat) (s : ByteArray) (i : Nat) (acc : List Tx.Sg), acc.length ≤ i → i ≤ s.size → (Tx.go f s i acc).1.length ≤ s.size + 1
  | 0, s, i, acc, h, hi => by unfold Tx.go; show acc.length ≤ _; omega
  | f + 1, s, i, acc, h, hi => by
    unfold Tx.go
    split
    · rename_i he
      split
      · show (acc ++ [_]).length ≤ _; simp; omega
      · rename_i hk
        have h1 := Tx.nx_adv s i he hk
        have h2 := Tx.nx_stop_le s i hi
        exact go_len f s _ _ (by simp; omega) h2
    · simp
theorem alls_len (s : ByteArray) : (Tx.alls s).1.length ≤ s.size + 1 := by
  unfold Tx.alls; split
  · simp
  · exact go_len _ s 0 [] (Nat.zero_le _) (Nat.zero_le _)

/-- The k-th sign's cells of a row of one's own. -/
theorem own_sign {w : World} {B : Nat} {T : TypeId} {l : List Tx.Sg} {g cap : Nat} (h : w.ownsRow B T 4 (.slice (some ⟨g, 0, none⟩) l.length cap) l.length (l.flatMap Tx.cells)) (k : Nat) (hk : k < l.length) :
    w.cell? ⟨g, k * 4, none⟩ = some (.int .i64 l[k].kind) ∧ w.cell? ⟨g, k * 4 + 1, none⟩ = some (.int .i64 l[k].pos) ∧ w.cell? ⟨g, k * 4 + 2, none⟩ = some (.string l[k].text) ∧ w.cell? ⟨g, k * 4 + 3, none⟩ = some (.int .i64 l[k].num) := by
  refine ⟨?_, ?_, ?_, ?_⟩
  · rw [h.cellAt (k * 4) (by omega)]; exact Tx.cells_at l k hk 0 (by decide)
  · rw [h.cellAt (k * 4 + 1) (by omega)]; exact Tx.cells_at l k hk 1 (by decide)
  · rw [h.cellAt (k * 4 + 2) (by omega)]; exact Tx.cells_at l k hk 2 (by decide)
  · rw [h.cellAt (k * 4 + 3) (by omega)]; exact Tx.cells_at l k hk 3 (by decide)

theorem own_shape {w : World} {base : Nat} {e : TypeId} {size : Nat} {v : Value} {n : Nat} {xs : List Value} (h : w.ownsRow base e size v n xs) : ∃ a c, v = .slice a n c := by
  rcases h.2 with ⟨rfl, rfl⟩ | ⟨g, cap, _, rfl, _⟩
  · exact ⟨_, _, rfl⟩
  · exact ⟨_, _, rfl⟩

set_option maxHeartbeats 1600000 in
theorem alls_any (s : ByteArray) (w : World) (hs : s.size ≤ maxLen) (hg : Gl w) :
    Calls Tryd.prog 3 #[.string s] w fun e w' => e = .returned (.bool true) ∧ Below w.heap.size w w' := by
  unfold maxLen at hs
  have HG := Lib.hid hg
  clear hg
  by_cases hl : 70000 < s.size
  · go_enter Tryd.func3, Tryd.ntmps3
    go_wp2_with (go_at_call 7; refine (lives_any _ HG.out).mono ?_; rintro e w' ⟨rfl, hb⟩)
    go_ret
    exact ⟨rfl, by assumption⟩
  · have h5 : s.size ≤ 5000000 := by omega
    have hlen := alls_len s
    have hn1 := fun w hg => lexAll_any s w h5 hg
    have hn2 := fun w => refAll_any s w h5
    unfold AllPost at hn1 hn2
    obtain ⟨l, hll⟩ : ∃ l, l = (Tx.alls s).1 := ⟨_, rfl⟩
    obtain ⟨p, hp⟩ : ∃ p, p = (Tx.alls s).2.1 := ⟨_, rfl⟩
    obtain ⟨er, her⟩ : ∃ er, er = (Tx.alls s).2.2 := ⟨_, rfl⟩
    rw [← hll, ← hp, ← her] at hn1 hn2
    rw [← hll] at hlen
    clear hll hp her
    have HN1 := Lib.hid hn1
    have HN2 := Lib.hid hn2
    have hlen1 : l.length ≤ 5000001 := by omega
    clear hn1 hn2 hlen
    go_enter Tryd.func3, Tryd.ntmps3
    go_wp2_with fail
    refine (HN1.out _ HG.out).mono ?_; rintro e w1 ⟨v1, rfl, ho1, hb1⟩
    have HO1 := Lib.hid ho1
    have HB1 := Lib.hid hb1
    clear ho1 hb1
    go_wp2_with fail
    refine (HN2.out _).mono ?_; rintro e w2 ⟨v2, rfl, ho2, hb2⟩
    have HO2 := Lib.hid ho2
    have HO1' := Lib.hid (own_below HO1.out hb2)
    have HB2 := Lib.hid (HB1.out.trans (hb2.mono HB1.out.size))
    clear ho2 hb2
    obtain ⟨A1, c1, rfl⟩ := own_shape HO1'.out
    obtain ⟨A2, c2, rfl⟩ := own_shape HO2.out
    clear HO1
    go_wp2_with fail
    go_loopw [9] (fun v wr => ∃ k : Nat, k ≤ l.length ∧ v = .int .i64 k ∧ Hid (wr.ownsRow w.heap.size 32 4 (.slice A1 l.length c1) l.length (l.flatMap Tx.cells)) ∧ Hid (wr.ownsRow w1.heap.size 33 4 (.slice A2 l.length c2) l.length (l.flatMap Tx.cells)) ∧ Hid (Below w.heap.size w wr)) (fun v _ => l.length - (Lib.intOf v).toNat)
    case atStart => exact ⟨0, Nat.zero_le _, rfl, HO1', HO2, HB2⟩
    case round =>
      obtain ⟨k, hk, rfl, HP1, HP2, HB⟩ := hrel
      by_cases hlt : k < l.length
      · obtain ⟨g1, d1, f1⟩ := Go.Joins.ownsRow_form HP1.out (by omega)
        obtain ⟨g2, d2, f2⟩ := Go.Joins.ownsRow_form HP2.out (by omega)
        injection f1 with f1 f1a f1b
        clear f1a f1b
        injection f2 with f2 f2a f2b
        clear f2a f2b
        subst f1; subst f2
        obtain ⟨a0, a1, a2, a3⟩ := own_sign HP1.out k hlt
        obtain ⟨b0, b1, b2, b3⟩ := own_sign HP2.out k hlt
        go_wp2_with fail
        go_still_tail 8, (by kernel_rfl)
        change wpList _ _ _ _ _ wr.drew
        go_wp2_with fail
        refine (same_any _ _ _ _ _).mono ?_; rintro e w3 ⟨rfl, hb3⟩
        have HB3 : Hid (Below wr.heap.size wr w3) := Lib.hid ((below_drewN (Below.refl wr.heap.size wr) 1).trans hb3)
        clear hb3
        go_wp2_with fail
        go_roundw
        case rel => exact ⟨k + 1, by omega, by go_num, Lib.hid (own_below HP1.out HB3.out), Lib.hid (own_below HP2.out HB3.out), Lib.hid (HB.out.trans (HB3.out.mono HB.out.size))⟩
        case measure => simp [Lib.intOf]; omega
      · have HG2 := HG.out.below HB.out HG.out.two
        go_wp2_with (go_at_call 7; refine (lives_any _ HG2).mono ?_; rintro e w' ⟨rfl, hb⟩)
        go_ret
        exact ⟨rfl, HB.out.trans (Below.mono (by assumption) HB.out.size)⟩

end Go.Proofs.YtbanidkfeibikaaDoor
