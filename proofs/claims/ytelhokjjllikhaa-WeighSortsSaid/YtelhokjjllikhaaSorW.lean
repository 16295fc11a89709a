/-
  DERIVED. The walk of the law on sorted rows, sums, best ones and ranks.
-/
import Derived.Test.YtelhokjjllikhaaTotW
import Derived.Laws.AppendOwnNone
namespace Go.Proofs.Ytelhokjjllikhaa
open Go.RowKit Go.Sort

namespace Fl
theorem keys_eq (n : Nat) (d' e' : Array Nat) (hd : d'.size = n) (he : e'.size = n) (hperm : d'.toList.Perm e'.toList) (h1 : Srt 0 n d') (h2 : Srt 0 n e') : d'.toList.map key = e'.toList.map key := by
  have s1 : (d'.toList.map key).Pairwise (· ≤ ·) := by
    rw [List.pairwise_iff_getElem]
    intro i j hi hj hij
    simp only [List.length_map, Array.length_toList] at hi hj
    rw [List.getElem_map, List.getElem_map, ← getE d' i hi, ← getE d' j hj]
    exact h1 i j (by omega) hij (by omega)
  have s2 : (e'.toList.map key).Pairwise (· ≤ ·) := by
    rw [List.pairwise_iff_getElem]
    intro i j hi hj hij
    simp only [List.length_map, Array.length_toList] at hi hj
    rw [List.getElem_map, List.getElem_map, ← getE e' i hi, ← getE e' j hj]
    exact h2 i j (by omega) hij (by omega)
  exact (hperm.map key).eq_of_pairwise (le := (· ≤ ·)) (fun a b _ _ h g => Int.le_antisymm h g) s1 s2
end Fl

theorem words_mem {d e : Array Nat} (wd : Words d) (hp : e.toList.Perm d.toList) : ∀ x ∈ e.toList, x < 18446744073709551616 := fun x hx => by
  obtain ⟨k, hk, rfl⟩ := List.getElem_of_mem (hp.mem_iff.1 hx)
  rw [Array.length_toList] at hk
  rw [← Fl.getE d k hk]
  exact wd k hk

theorem totals_same {d d1 d2 : Array Nat} {r1 r2 : Nat} (wd : Words d) (z1 : d1.size = d.size) (z2 : d2.size = d.size) (p1 : d1.toList.Perm d.toList) (p2 : d2.toList.Perm d.toList) (s1 : Fl.Srt 0 d.size d1) (s2 : Fl.Srt 0 d.size d2)
    (i1 : Fl.Is (Fl.tot (Fl.nums d1.toList)) r1) (i2 : Fl.Is (Fl.tot (Fl.nums d2.toList)) r2) : Fl.same r1 r2 = true := by
  have h := Fl.keys_eq d.size d1 d2 z1 z2 (p1.trans p2.symm) s1 s2
  rw [Fl.nums_eq _ _ h (words_mem wd p1) (words_mem wd p2)] at i1
  exact Fl.is_same i1 i2

theorem own_array {w : World} {B cap : Nat} {q : Option Addr} {d : Array Nat} (h : w.ownsRow B 23 1 (.slice q d.size cap) d.size (d.toList.map encF)) : Reads w q d := fun h0 => by
  obtain ⟨g, rfl, _, _, hc⟩ := own_reads h h0
  refine ⟨g, 0, rfl, fun k hk => ?_⟩
  rw [Nat.zero_add, hc k hk, getElem!_pos d k hk]
  simp [encF, List.getD, hk]

set_option maxHeartbeats 1600000 in
theorem sorts_any (p : Option Addr) (c : Nat) (d : Array Nat) (x : Nat) (w : World) (hr : Reads w p d) (hn : p = none → d.size = 0 ∧ c = 0) (hsm : d.size ≤ 300) (wd : Words d) (lx : x < 18446744073709551616) :
    Calls Try.prog 3 #[.slice p d.size c, .float .f64 x] w fun e w' => e = .returned (.bool true) ∧ Below w.heap.size w w' := by
  obtain ⟨i0, hi0, hz0, hz1, hz2⟩ := info_parts Try.info23
  have HR := Lib.hid hr; have WD := Lib.hid wd; have LX := Lib.hid lx
  clear hr wd lx
  go_enter Try.func3, Try.ntmps3
  go_upto_region 3 with fail
  go_cut [5] (fun s5 wx => ∃ (q : Option Addr) (cap : Nat), s5 = .slice q d.size cap ∧ Hid (Reads wx q d) ∧ Below w.heap.size w wx)
  case first =>
    cases p with
    | none =>
      obtain ⟨h0, rfl⟩ := hn rfl
      have H0 := Lib.hid h0
      clear hn h0
      go_wp2_with (at_builtin; refine wpList_append_own_none rfl (.tmp 10) (.tmp 11) 22 rfl w.heap.size 23 i0 1 Try.underlying22 hi0 _ 0 [] rfl (World.ownsRow_made w #[] 0 (Nat.le_refl _) (by decide) rfl) ?c0 ?_)
      case c0 => show Value.slice none d.size 0 = _; rw [H0.out]
      go_meet
      exact ⟨some ⟨w.heap.size, 0, none⟩, 0, by rw [H0.out], fun h => by have := H0.out; omega, (Below.refl _ _).alloc (Nat.le_refl _) _⟩
    | some ad =>
      clear hn
      go_wp2_with (at_builtin; refine wpList_append_own _ rfl (.tmp 10) (.tmp 11) 22 rfl w.heap.size 23 i0 (.float .f64 0) 1 8 Try.underlying22 hi0 hz0 hz1 hz2 rfl (by decide) _ 0 [] rfl (World.ownsRow_made w #[] 0 (Nat.le_refl _) (by decide) rfl) ad d.size c (d.toList.map encF) rfl ?c1 ?c2 ?c3 ?c4 ?c5 ?c6 ?_)
      case c1 => simp
      case c2 =>
        intro j u hj
        simp only [List.getElem?_map, Array.getElem?_toList, Option.map_eq_some_iff] at hj
        obtain ⟨y, hy, rfl⟩ := hj
        obtain ⟨hlt, rfl⟩ := Array.getElem?_eq_some_iff.1 hy
        obtain ⟨b, off, e1, hcs⟩ := HR.out (by omega)
        injection e1 with e1
        subst e1
        have h1 := hcs j hlt
        rw [getElem!_pos d j hlt] at h1
        rw [show (⟨b, off, none⟩ : Addr).add j = ⟨b, off + j, none⟩ by simp [Addr.add]]
        exact (((Below.refl w.heap.size w).alloc (Nat.le_refl _) _).cell (p := ⟨b, off + j, none⟩) (cell_lt h1)).trans h1
      case c3 => intro u hu; obtain ⟨x, _, rfl⟩ := List.mem_map.1 hu; rfl
      case c4 => unfold maxLen; omega
      case c5 => omega
      case c6 => simp
      intro v' w1 hown hgrow hnil
      have hb1 : Below w.heap.size w w1 := ((Below.refl w.heap.size w).alloc (Nat.le_refl _) _).grown hgrow (by simp) fun k hk => by simp [Value.ownBlock] at hk; omega
      obtain ⟨q, cap, hv, hq⟩ : ∃ q cap, v' = .slice q d.size cap ∧ Hid (Reads w1 q d) := by
        have hown2 := hown
        obtain ⟨_, ⟨e, _⟩ | ⟨g, cp, cur, e, _⟩⟩ := hown
        · exact absurd e hnil
        · rw [e] at hown2
          exact ⟨_, _, e, own_array hown2⟩
      have HB1 := Lib.hid hb1
      subst hv
      clear hown hgrow hnil hb1
      go_wp2_with fail
      go_meet
      exact ⟨q, cap, rfl, hq, HB1.out⟩
  case rest =>
    obtain ⟨q, cap, rfl, HQ, hb⟩ := hcut
    have HB0 := Lib.hid hb
    have HL0 := Lib.hid (reads_below HR.out hb (Nat.le_refl _))
    clear hb
    -- the two sorted rows
    have h1 := Lib.hid (sort_any q cap d wc HQ.out (by omega))
    go_wp2_with fail
    refine h1.out.mono ?_
    rintro e w1 ⟨d1, rfl, hp1, hs1, hb1, hz1, hc1⟩
    have HP1 := Lib.hid hp1
    have HS1 := Lib.hid hs1
    have HB1 := Lib.hid hb1
    have R1 : Hid (Reads w1 (some ⟨wc.heap.size, 0, none⟩) d1) := fun _ => ⟨wc.heap.size, 0, rfl, fun k hk => by rw [Nat.zero_add]; exact hc1 k (by rw [← HP1.out.1]; exact hk)⟩
    have HZ1 := Lib.hid hz1
    clear hp1 hs1 hb1 hz1 hc1 h1
    have HL1 := Lib.hid (reads_below HL0.out HB1.out (Nat.le_refl _))
    have HQ1 := Lib.hid (reads_below HQ.out HB1.out (Nat.le_refl _))
    have h2 := Lib.hid (refsort_any p c d w1 HL1.out (by omega) WD.out)
    go_wp2_with fail
    refine h2.out.mono ?_
    rintro e w2 ⟨q2, cap2, d2, rfl, hz2', hr2, hp2, hs2, hw2, hb2⟩
    have HP2 := Lib.hid hp2
    have HS2 := Lib.hid hs2
    have HB2 := Lib.hid hb2
    have R2 := Lib.hid hr2
    have W2 := Lib.hid hw2
    have HZ2 := Lib.hid hz2'
    clear hp2 hs2 hb2 hr2 hw2 hz2' h2
    have HL2 := Lib.hid (reads_below HL1.out HB2.out (Nat.le_refl _))
    have HQ2 := Lib.hid (reads_below HQ1.out HB2.out (Nat.le_refl _))
    have R12 := Lib.hid (reads_below R1.out HB2.out (Nat.le_refl _))
    have hsz1 : Hid (d1.size = d.size) := HP1.out.1
    have hf := floats_true (some ⟨wc.heap.size, 0, none⟩) q2 d.size cap2 d1 d2 w2 R12.out R2.out (by rw [hsz1.out, HZ2.out]) (by rw [hsz1.out]; omega) (WD.out.perm HP1.out) W2.out
      (fun k hk => Fl.same_places d.size d1 d2 hsz1.out HZ2.out ((Fl.perm_all d.size d d1 rfl HP1.out).trans HP2.out.symm) HS1.out HS2.out k (by rw [← hsz1.out]; exact hk))
    rw [hsz1.out, HZ2.out] at hf
    have h3 := Lib.hid hf
    clear hf
    go_wp2_with fail
    refine h3.out.mono ?_
    rintro e w3 ⟨rfl, m3, hw3⟩
    have HL3 := Lib.hid (show Reads w3 p d by rw [hw3]; exact HL2.out)
    have HQ3 := Lib.hid (show Reads w3 q d by rw [hw3]; exact HQ2.out)
    have HB3 : Hid (Below w2.heap.size w2 w3) := by rw [hw3]; exact below_drewN (Below.refl _ _) m3
    clear hw3 h3
    -- the copy and the row itself
    have h4 := Lib.hid (floats_true q p cap c d d w3 HQ3.out HL3.out rfl (by omega) WD.out WD.out (fun k _ => by unfold Fl.same; simp))
    go_wp2_with fail
    refine h4.out.mono ?_
    rintro e w4 ⟨rfl, m4, hw4⟩
    have HL4 := Lib.hid (show Reads w4 p d by rw [hw4]; exact HL3.out)
    have HB4 : Hid (Below w3.heap.size w3 w4) := by rw [hw4]; exact below_drewN (Below.refl _ _) m4
    clear hw4 h4
    -- the totals
    have h5 := Lib.hid (total_any p c d w4 HL4.out (by omega))
    go_wp2_with fail
    refine h5.out.mono ?_
    rintro e w5 ⟨r1, e1, rfl, z1, p1, s1, i1, b5⟩
    have HL5 := Lib.hid (reads_below HL4.out b5 (Nat.le_refl _))
    have HB5 := Lib.hid b5
    have T1 := Lib.hid (show e1.size = d.size ∧ e1.toList.Perm d.toList ∧ Fl.Srt 0 d.size e1 ∧ Fl.Is (Fl.tot (Fl.nums e1.toList)) r1 from ⟨z1, p1, s1, i1⟩)
    clear z1 p1 s1 i1 b5 h5
    have h6 := Lib.hid (reftotal_any p c d w5 HL5.out (by omega) WD.out)
    go_wp2_with fail
    refine h6.out.mono ?_
    rintro e w6 ⟨r2, e2, rfl, z2, p2, s2, i2, b6⟩
    have HL6 := Lib.hid (reads_below HL5.out b6 (Nat.le_refl _))
    have HB6 := Lib.hid b6
    have hsame : Fl.same r1 r2 = true := totals_same WD.out T1.out.1 z2 T1.out.2.1 p2 T1.out.2.2.1 s2 T1.out.2.2.2 i2
    have l1 := Lib.hid T1.out.2.2.2.1
    have l2 := Lib.hid i2.1
    clear z2 p2 s2 i2 b6 h6
    have h7 := Lib.hid (alike_any r1 r2 w6 l1.out l2.out)
    go_wp2_with fail
    refine h7.out.mono ?_
    rintro e w7 ⟨rfl, rfl⟩
    -- the best one's place
    have h8 := Lib.hid (best_any p c d w6 HL6.out (by omega))
    go_wp2_with fail
    refine h8.out.mono ?_
    rintro e w8 ⟨rfl, rfl⟩
    have h9 := Lib.hid (refbest_any p c d w6 HL6.out (by omega) WD.out)
    go_wp2_with fail
    refine h9.out.mono ?_
    rintro e w9 ⟨rfl, m9, hw9⟩
    have HL9 := Lib.hid (show Reads w9 p d by rw [hw9]; exact HL6.out)
    have HB9 : Hid (Below w6.heap.size w6 w9) := by rw [hw9]; exact below_drewN (Below.refl _ _) m9
    clear hw9 h9 h8 h7 hsame
    -- the ranks
    have h10 := Lib.hid (rank_any x p c d w9 HL9.out (by omega))
    go_wp2_with fail
    refine h10.out.mono ?_
    rintro e w10 ⟨rfl, rfl⟩
    have h11 := Lib.hid (refrank_any x p c d w9 HL9.out (by omega) WD.out LX.out)
    go_wp2_with fail
    refine h11.out.mono ?_
    rintro e w11 ⟨rfl, rfl⟩
    have h12 := Lib.hid (lives_any w9)
    go_wp2_with fail
    refine h12.out.mono ?_
    rintro e w12 ⟨rfl, hb12⟩
    have HB12 := Lib.hid hb12
    clear hb12
    go_wp2
    go_ret
    have g0 := HB0.out
    have g1 := g0.trans (HB1.out.mono g0.size)
    have g2 := g1.trans (HB2.out.mono g1.size)
    have g3 := g2.trans (HB3.out.mono g2.size)
    have g4 := g3.trans (HB4.out.mono g3.size)
    have g5 := g4.trans (HB5.out.mono g4.size)
    have g6 := g5.trans (HB6.out.mono g5.size)
    have g9 := g6.trans (HB9.out.mono g6.size)
    exact ⟨rfl, g9.trans (HB12.out.mono g9.size)⟩

theorem sorts_long (p : Option Addr) (len c x : Nat) (w : World) (h : 300 < len) (h2 : len ≤ 9223372036854775807) :
    Calls Try.prog 3 #[.slice p len c, .float .f64 x] w fun e w' => e = .returned (.bool true) ∧ Below w.heap.size w w' := by
  go_enter Try.func3, Try.ntmps3
  go_wp2_with (go_at_call 7; refine (lives_any _).mono ?_; rintro e w' ⟨rfl, hbl⟩)
  go_ret
  exact ⟨rfl, by assumption⟩

end Go.Proofs.Ytelhokjjllikhaa
