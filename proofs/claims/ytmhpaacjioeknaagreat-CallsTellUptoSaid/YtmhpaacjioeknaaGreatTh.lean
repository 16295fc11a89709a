/-
  DERIVED. The walk of the search's close.
-/
import Derived.Test.YtmhpaacjioeknaaGreatTg
namespace Go.Proofs.YtmhpaacjioeknaaGreat
open Go.RowKit Go.Maps Go.Sort Go.WideMaps
namespace Tj

theorem min_d {w : World} {b off c n : Nat} {xs : List Int} (hn : n = xs.length) (h0 : 0 < n) (hl : n ≤ 1000000) (hc : ∀ j, j < n → w.cell? ⟨b, off + j, none⟩ = some (.int .i64 (xs.getD j 0))) {m : Int} (hm : m ∈ xs) (hall : ∀ u ∈ xs, m ≤ u) :
    Calls Tryz.prog 88 #[.slice (some ⟨b, off, none⟩) n c] w fun e w' => e = .returned (.int .i64 m) ∧ w' = w := by
  refine (min_m hn h0 hl hc).mono ?_
  rintro e w' ⟨m', rfl, h1, h2, rfl⟩
  have := hall m' h1
  have := h2 m hm
  refine ⟨?_, rfl⟩
  congr 2
  omega
theorem shut_snoc : ∀ (l : List Nat) (r : List Int) (v : Nat), shut r (l ++ [v]) = (shut r l).set v top
  | [], _, _ => rfl
  | x :: l, r, v => by rw [List.cons_append, shut, shut_snoc l]; rfl
theorem ints_getD (l : List Nat) (j : Nat) : (ints l).getD j 0 = ((l.getD j 0 : Nat) : Int) := by
  rw [List.getD_eq_getElem?_getD, List.getD_eq_getElem?_getD, ints, List.getElem?_map]
  cases l[j]? <;> rfl
theorem or_cap {w : World} {B g n c : Nat} {xs : List Int} (h : OR w B (sl g n c) xs) (hn : xs.length = n) : n ≤ c := by
  rcases h.2 with ⟨h', _⟩ | ⟨g', cap', cur, h', _, _, hnc, _⟩
  · simp [sl] at h'
  · simp only [sl, Value.slice.injEq, Option.some.injEq, Addr.mk.injEq, and_true] at h'
    obtain ⟨rfl, _, rfl⟩ := h'
    omega
set_option maxHeartbeats 6400000 in
set_option maxRecDepth 100000 in
theorem close_m {w0 w : World} {c : Cn} {XS : List (List Int)} {pv ov : Value} {s : St} (h : SS w0 c XS w pv ov s) {a m : Nat} {pre post : List Nat} (ho : s.opn = pre ++ a :: post) (hnp : a ∉ post) (hlt : ∀ u ∈ s.opn, u < XS.length) (hx : XS.length ≤ 1000) (hol : s.opn.length ≤ 1000000) (hf : s.first ≤ 1000000)
    (hrow : (XS.getD a []).length ≤ 1000000) (hm : m ∈ a :: post) (hmin : ∀ u ∈ a :: post, m ≤ u) :
    Calls Tryz.prog 64 #[.pointer (some ⟨c.sb, 0, none⟩), .int .i64 a] w fun e w' => e = .returned (.tuple #[]) ∧ ∃ ov' f, SS w0 c XS w' pv ov' (close s pre (a :: post) f) ∧ ((post ≠ [] ∨ E XS a a) → f = min s.first m) ∧ (¬ (post ≠ [] ∨ E XS a a) → f = s.first) := by
  have hlen : s.opn.length = pre.length + (post.length + 1) := by rw [ho]; simp
  obtain ⟨og, oc, hov, -, -⟩ := h.o.block (by rw [ints_len]; omega)
  rw [ints_len] at hov
  subst hov
  have hcap : s.opn.length ≤ oc := or_cap h.o (ints_len _)
  have hcut : SS w0 c XS (w.setCell ⟨c.sb, 6, none⟩ (.slice (some ⟨og, 0, none⟩) pre.length oc)).drew pv (.slice (some ⟨og, 0, none⟩) pre.length oc) { s with opn := s.opn.take pre.length } := (h.cutO pre.length (by omega)).drew
  have htk : s.opn.take pre.length = pre := by rw [ho]; simp
  rw [htk] at hcut
  have HCUT := Lib.hid hcut
  have HRG : Hid (og ≠ c.rg ∧ og ≠ c.sb) := Lib.hid ⟨fun e => h.no.2.1 (by rw [e]; rfl), fun e => h.no.1 (by rw [e]; rfl)⟩
  have HCS : Hid (∀ j, j < s.opn.length → w.cell? ⟨og, j, none⟩ = some (.int .i64 ((s.opn.getD j 0 : Nat) : Int))) := Lib.hid (fun j hj => by
    have := (or_cell h.o (ints_len _) j hj).1
    rw [ints_getD] at this
    exact this)
  have HAT : Hid (∀ j, pre.length ≤ j → j < s.opn.length → (j = pre.length → s.opn.getD j 0 = a) ∧ (j ≠ pre.length → s.opn.getD j 0 ≠ a)) := Lib.hid (fun j h1 h2 => by
    rw [ho, List.getD_eq_getElem?_getD, List.getElem?_append_right h1]
    constructor
    · intro e; subst e; simp
    · intro e he
      obtain ⟨i, hi⟩ : ∃ i, j - pre.length = i + 1 := ⟨j - pre.length - 1, by omega⟩
      rw [hi, List.getElem?_cons_succ, List.getElem?_eq_getElem (by omega)] at he
      exact hnp (by rw [← he]; exact List.getElem_mem _))
  have HRD : Hid (∀ i, i < post.length + 1 → s.opn.getD (pre.length + i) 0 = (a :: post).getD i 0) := Lib.hid (fun i hi => by
    rw [ho, List.getD_eq_getElem?_getD, List.getElem?_append_right (by omega), List.getD_eq_getElem?_getD]; simp)
  have hc6 : w.cell? ⟨c.sb, 6, none⟩ = some (.slice (some ⟨og, 0, none⟩) s.opn.length oc) := h.c1.2.2.2.2.2.2.1
  have hc6d : w.drew.cell? ⟨c.sb, 6, none⟩ = some (.slice (some ⟨og, 0, none⟩) s.opn.length oc) := hc6
  have hf6 : w.frozen? ⟨c.sb, 6, none⟩ = false := h.blk.frozen 6
  have HLT : Hid (∀ u ∈ a :: post, u < XS.length) := Lib.hid (fun u hu => hlt u (by rw [ho]; exact List.mem_append_right _ hu))
  have hax : a < XS.length := HLT.out a (by simp)
  obtain ⟨xs, hxs⟩ : ∃ xs, XS[a]? = some xs := ⟨_, List.getElem?_eq_getElem hax⟩
  obtain ⟨rv, -, hrv, hrc, -⟩ := h.web.at_ hxs
  have HXE : Hid (XS.getD a [] = xs) := Lib.hid (by rw [List.getD_eq_getElem?_getD, hxs]; rfl)
  have HXL : Hid (xs.length ≤ 1000000) := Lib.hid (by rw [← HXE.out]; exact hrow)
  have HRV := Lib.hid hrv
  have HRC := Lib.hid hrc
  have HMM := Lib.hid (And.intro hm hmin)
  have HFI := Lib.hid hf
  obtain ⟨P, hP⟩ : ∃ P, P = pre.length := ⟨_, rfl⟩
  obtain ⟨n, hn⟩ : ∃ n, n = post.length + 1 := ⟨_, rfl⟩
  have HN := Lib.hid hn
  have HP := Lib.hid hP
  rw [← hn, ← hP] at hlen
  rw [← hP] at HCUT HAT HRD
  rw [← hn] at HRD
  rw [hlen] at hc6 hc6d HCS HAT hcap hol
  have hn0 : 0 < n := by omega
  have hol' : (P : Int) + (n : Int) ≤ 1000000 := by omega
  have hcap' : (P : Int) + (n : Int) ≤ (oc : Int) := by omega
  have hn0' : (0 : Int) < (n : Int) := by omega
  have hP0 : (0 : Int) ≤ (P : Int) := Int.natCast_nonneg _
  have hax' : (a : Int) < (XS.length : Int) := by omega
  have hx' : (XS.length : Int) ≤ 1000 := by omega
  clear h ho hnp hlt hol hf hrow hm hmin hlen hcut htk hxs hrv hrc hP hn
  go_enter Tryz.func64, Tryz.ntmps64
  go_wp2_with fail
  go_loop [4] (fun s4 => ∃ k : Nat, s4 = .int .i64 k ∧ P ≤ k ∧ k < P + n) (fun s4 => (Lib.intOf s4).toNat)
  case atStart => exact ⟨P + n - 1, by go_num, by omega, by omega⟩
  case round =>
    obtain ⟨k, rfl, hk1, hk2⟩ := hrel
    have ck := HCS.out k hk2
    have hk2' : (k : Int) < (P : Int) + (n : Int) := by omega
    have hk1' : (P : Int) ≤ (k : Int) := by omega
    by_cases hkp : k = P
    · subst hkp
      rw [(HAT.out k hk1 hk2).1 rfl] at ck
      go_wp2_with fail
      go_region
      all_goals
        go_wp2_with fail
        have HCW : Hid (∀ i, i < n → (w.setCell ⟨c.sb, 6, none⟩ (.slice (some ⟨og, 0, none⟩) k oc)).drew.cell? ⟨og, k + i, none⟩ = some (.int .i64 (((a :: post).getD i 0 : Nat) : Int))) := Lib.hid (fun i hi => by
          rw [← HRD.out i hi]
          exact ((grownBy_setC w ⟨c.sb, 6, none⟩ (.slice (some ⟨og, 0, none⟩) k oc)).cell (HCS.out (k + i) (by omega)) (by show some og ≠ some c.sb; intro e; injection e with e; exact HRG.out.2 e)))
        generalize (w.setCell ⟨c.sb, 6, none⟩ (.slice (some ⟨og, 0, none⟩) k oc)).drew = w2 at *
        clear ck hk1 hk2 hk1' hk2' hc6 hc6d hf6 HCS HAT HRD
        go_loopw [7, 52] (fun s7 sj wr => ∃ j : Nat, sj = .int .i64 j ∧ j ≤ n ∧ Hid (SS w0 c XS wr pv (.slice (some ⟨og, 0, none⟩) k oc) { s with opn := pre, rank := shut s.rank ((a :: post).take j) }) ∧ Hid (∀ i, i < n → wr.cell? ⟨og, k + i, none⟩ = some (.int .i64 (((a :: post).getD i 0 : Nat) : Int)))) (fun _ sj _ => n - (Lib.intOf sj).toNat)
        case atStart => exact ⟨0, rfl, Nat.zero_le _, HCUT, HCW⟩
        case round =>
          clear HCUT HCW
          obtain ⟨j, rfl, hj, HSS, HCW⟩ := hrel
          by_cases hjn : j < n
          · have hjl : j < (a :: post).length := by rw [List.length_cons, ← HN.out]; exact hjn
            have cj := HCW.out j hjn
            have hvl : (a :: post).getD j 0 < XS.length := HLT.out _ (by rw [List.getD_eq_getElem?_getD, List.getElem?_eq_getElem hjl]; exact List.getElem_mem hjl)
            have HT : Hid ((a :: post).take (j + 1) = (a :: post).take j ++ [(a :: post).getD j 0]) := Lib.hid (by rw [List.take_succ_eq_append_getElem hjl, List.getD_eq_getElem?_getD, List.getElem?_eq_getElem hjl]; rfl)
            generalize (a :: post).getD j 0 = v at *
            obtain ⟨-, -, b2, -⟩ := HSS.out.c1
            obtain ⟨rc, rf⟩ := or_cell HSS.out.r HSS.out.lr v hvl
            have hj' : (j : Int) < (n : Int) := by omega
            have hvl' : (v : Int) < (XS.length : Int) := by omega
            go_wp2_with fail
            have HS2 := Lib.hid (HSS.out.setR v top)
            have HC2 : Hid (∀ i, i < n → (wr.setCell ⟨c.rg, v, none⟩ (.int .i64 top)).cell? ⟨og, k + i, none⟩ = some (.int .i64 (((a :: post).getD i 0 : Nat) : Int))) := Lib.hid (fun i hi => (grownBy_setC wr ⟨c.rg, v, none⟩ (.int .i64 top)).cell (HCW.out i hi) (by show some og ≠ some c.rg; intro e; injection e with e; exact HRG.out.1 e))
            go_roundw
            case rel => exact ⟨j + 1, by go_num, by omega, Lib.hid (by rw [HT.out, shut_snoc]; exact HS2.out), HC2⟩
            case measure => simp [Lib.intOf]; omega
          · have hje : j = n := by omega
            subst hje
            have HSE : Hid (SS w0 c XS wr pv (.slice (some ⟨og, 0, none⟩) k oc) { s with opn := pre, rank := shut s.rank (a :: post) }) := Lib.hid (by
              have h1 := HSS.out
              rwa [List.take_of_length_le (by rw [List.length_cons, ← HN.out]; exact Nat.le_refl _)] at h1)
            clear HSS
            have HMN : Hid (Calls Tryz.prog 88 #[.slice (some ⟨og, k, none⟩) j j] wr.drew fun e w' => e = .returned (.int .i64 (m : Int)) ∧ w' = wr.drew) := Lib.hid (min_d (xs := ints (a :: post)) (by rw [ints_len, List.length_cons]; exact HN.out) hn0 (by omega)
              (fun i hi => by rw [ints_getD]; exact HCW.out i hi) (List.mem_map.2 ⟨m, HMM.out.1, rfl⟩) (fun u hu => by
                obtain ⟨y, hy, rfl⟩ := List.mem_map.1 hu
                have := HMM.out.2 y hy
                omega))
            have HF : Hid (SS w0 c XS (wr.setCell ⟨c.sb, 7, none⟩ (.int .i64 (min (s.first : Int) (m : Int)))).drew pv (.slice (some ⟨og, 0, none⟩) k oc) { s with opn := pre, rank := shut s.rank (a :: post), first := min s.first m }) := Lib.hid (by
              rw [show min (s.first : Int) (m : Int) = ((min s.first m : Nat) : Int) by omega]
              exact (HSE.out.setFirst (min s.first m)).drew)
            have hwc : wr.cell? ⟨c.wb, a, none⟩ = some rv := (HSE.out.fr.cell (block_lt_of_cell HRC.out)).trans HRC.out
            have HOW : Hid (OR wr c.bw rv xs) := Lib.hid (own_below HRV.out HSE.out.fr)
            obtain ⟨ar, cr, rfl⟩ := HRV.out.shape
            obtain ⟨b0, -, -, -, -, -, -, b7⟩ := HSE.out.c1
            have b7d : wr.drew.cell? ⟨c.sb, 7, none⟩ = some (.int .i64 (s.first : Int)) := b7
            have b7f : wr.frozen? ⟨c.sb, 7, none⟩ = false := HSE.out.blk.frozen 7
            have HCN := Lib.hid (contains_m HOW.out (a : Int) HXL.out)
            by_cases hpo : post = []
            · have hj1 : j = 1 := by rw [HN.out, hpo]; rfl
              subst hj1
              by_cases hE : (a : Int) ∈ xs
              · rw [decide_eq_true hE] at HCN
                go_wp2_with (first | (go_at_call 87; refine (HCN.out).mono ?_; rintro en w6 ⟨rfl, rfl⟩))
                go_region_with ((go_at_call 88; (with_reducible refine (HMN.out).mono ?_); rintro en w6 ⟨rfl, rfl⟩))
                all_goals
                  go_wp2_with fail
                  go_end0
                  exact ⟨rfl, _, _, HF.out, fun _ => rfl, fun q => absurd (.inr (by unfold E; rw [HXE.out]; exact hE)) q⟩
              · rw [decide_eq_false hE] at HCN
                go_wp2_with (first | (go_at_call 87; refine (HCN.out).mono ?_; rintro en w6 ⟨rfl, rfl⟩))
                go_end0
                exact ⟨rfl, _, s.first, HSE.out, fun q => absurd q (by
                  rintro (q | q)
                  · exact q hpo
                  · unfold E at q; rw [HXE.out] at q; exact hE q), fun _ => rfl⟩
            · have hj1 : 1 < j := by
                have : post.length ≠ 0 := fun e => hpo (List.eq_nil_of_length_eq_zero e)
                have := HN.out
                omega
              have hj1' : (1 : Int) < (j : Int) := by omega
              clear HCN
              go_wp2_with fail
              go_region_with ((go_at_call 88; (with_reducible refine (HMN.out).mono ?_); rintro en w6 ⟨rfl, rfl⟩))
              all_goals
                go_wp2_with fail
                go_end0
                exact ⟨rfl, _, _, HF.out, fun _ => rfl, fun q => absurd (.inl hpo) q⟩
    · have hne := (HAT.out k hk1 hk2).2 hkp
      generalize s.opn.getD k 0 = y at *
      have hne' : ¬ (y : Int) = (a : Int) := by omega
      go_wp2_with fail
      exact ⟨⟨k - 1, by go_num, by omega, by omega⟩, by simp [Lib.intOf]; omega⟩
end Tj
end Go.Proofs.YtmhpaacjioeknaaGreat
