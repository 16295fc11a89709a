/-
  DERIVED. The walk of the search's leave.
-/
import Derived.Test.YtmhpaacjioeknaaGreatTh
import Derived.StillTailTactics
namespace Go.Proofs.YtmhpaacjioeknaaGreat
open Go.RowKit Go.Maps Go.Sort Go.WideMaps
namespace Tj

theorem nodup_le {n : Nat} {l : List Nat} (h : l.Nodup) (hr : ∀ x ∈ l, x < n) : l.length ≤ n := by
  have h1 : (l.map fun (x : Nat) => (x : Int)).Nodup := by
    unfold List.Nodup at *
    rw [List.pairwise_map]
    exact h.imp (fun q e => q (by omega))
  have h2 := nodup_len (n := n) h1 (fun x hx => by
    obtain ⟨y, hy, rfl⟩ := List.mem_map.1 hx
    exact ⟨y, rfl, hr y hy⟩)
  simpa using h2
theorem Inv.nod {XS : List (List Int)} {s : St} (h : Inv XS s) : s.opn.Nodup ∧ s.path.Nodup :=
  ⟨h.srt.imp (fun q e => by rw [e] at q; omega), h.psr.imp (fun q e => by rw [e] at q; omega)⟩
theorem Inv.lens {XS : List (List Int)} {s : St} (h : Inv XS s) : s.opn.length ≤ 1000 ∧ s.path.length ≤ 1000 ∧ s.met ≤ 1000 ∧ s.first ≤ 1000 := by
  have h1 := nodup_le h.nod.1 (fun v hv => (h.opn v hv).1)
  have h2 := nodup_le h.nod.2 (fun v hv => (h.opn v (h.pth v hv)).1)
  have := h.big
  have := h.cnt
  have := h.fst.1
  exact ⟨by omega, by omega, by omega, by omega⟩
theorem min_ex : ∀ (l : List Nat) (a : Nat), ∃ m, m ∈ a :: l ∧ ∀ u ∈ a :: l, m ≤ u
  | [], a => ⟨a, by simp, by simp⟩
  | b :: l, a => by
    obtain ⟨m, hm, hall⟩ := min_ex l b
    by_cases h : a ≤ m
    · exact ⟨a, by simp, fun u hu => by
        rcases List.mem_cons.1 hu with e | e
        · omega
        · have := hall u e; omega⟩
    · exact ⟨m, List.mem_cons_of_mem _ hm, fun u hu => by
        rcases List.mem_cons.1 hu with e | e
        · omega
        · exact hall u e⟩
theorem mono_shut {XS : List (List Int)} {s : St} (h : Inv XS s) {a : Nat} {pre post : List Nat} (ho : s.opn = pre ++ a :: post) : ∀ u, s.rk u ≠ 0 → (shut s.rank (a :: post)).getD u 0 ≠ 0 := by
  intro u q
  rw [shut_get _ _ (fun v hv => by rw [h.lr]; exact (h.opn v (by rw [ho]; exact List.mem_append_right _ hv)).1)]
  split
  · unfold top; omega
  · exact q
set_option maxHeartbeats 6400000 in
set_option maxRecDepth 100000 in
theorem leave_m {w0 w : World} {c : Cn} {XS : List (List Int)} {pv ov : Value} {s : St} (h : SS w0 c XS w pv ov s) (hI : Inv XS s) {l : List Nat} {a : Nat} (hp : s.path = l ++ [a]) (hd : s.dn a = (XS.getD a []).length) (hR : ∀ xs ∈ XS, xs.length ≤ 10000) :
    Calls Tryz.prog 51 #[.pointer (some ⟨c.sb, 0, none⟩), .int .i64 a] w fun e w' => e = .returned (.tuple #[]) ∧ ∃ pv' ov' s', SS w0 c XS w' pv' ov' s' ∧ Inv XS s' ∧ s'.path = l ∧ s'.done = s.done ∧ (∀ u, s.rk u ≠ 0 → s'.rk u ≠ 0) := by
  have hplen : s.path.length = l.length + 1 := by rw [hp]; simp
  obtain ⟨pg, pc, hpv, -, -⟩ := h.p.block (by rw [ints_len]; omega)
  rw [ints_len] at hpv
  subst hpv
  have hcap : s.path.length ≤ pc := or_cap h.p (ints_len _)
  have hcut : SS w0 c XS (w.setCell ⟨c.sb, 5, none⟩ (.slice (some ⟨pg, 0, none⟩) l.length pc)).drew (.slice (some ⟨pg, 0, none⟩) l.length pc) ov { s with path := s.path.take l.length } := (h.cutP l.length (by omega)).drew
  rw [show s.path.take l.length = l by rw [hp]; simp] at hcut
  have HCUT := Lib.hid hcut
  have HIV := Lib.hid hI
  have HP := Lib.hid hp
  have HD := Lib.hid hd
  have HR := Lib.hid hR
  have hap : a ∈ s.opn := hI.pth a (by rw [hp]; simp)
  have hax : a < XS.length := (hI.opn a hap).1
  have HAP := Lib.hid hap
  have HAX := Lib.hid hax
  have hc5 : w.drew.cell? ⟨c.sb, 5, none⟩ = some (.slice (some ⟨pg, 0, none⟩) s.path.length pc) := h.c1.2.2.2.2.2.1
  have hf5 : w.drew.frozen? ⟨c.sb, 5, none⟩ = false := h.blk.frozen 5
  have hll := hI.lens.2.1
  rw [hplen] at hc5 hcap hll
  have hx' : (XS.length : Int) ≤ 1000 := by have := hI.big; omega
  have hax' : (a : Int) < (XS.length : Int) := by omega
  have hll' : (l.length : Int) + 1 ≤ 1000 := by omega
  have hcap' : (l.length : Int) + 1 ≤ (pc : Int) := by omega
  have hl0 : (0 : Int) ≤ (l.length : Int) := Int.natCast_nonneg _
  have HLAST := Lib.hid (hI.last hp)
  have HTAIL : Hid (∀ (pv2 : Value) (w2 : World), SS w0 c XS w2 pv2 ov (pop s l a) → (pop s l a).low.getD a 0 = s.lw a) := Lib.hid (fun _ _ _ => by
    show (match l.getLast? with | some q => s.low.set q (min (s.lw q) (s.lw a)) | none => s.low).getD a 0 = s.lw a
    cases e : l.getLast? with
    | none => rfl
    | some q =>
      have hq : q ∈ l := List.mem_of_getLast? e
      have hne : a ≠ q := fun e2 => by have := hI.last hp q hq; rw [e2] at this; omega
      have hql : q < s.low.length := by rw [hI.ll]; exact (hI.opn q (hI.pth q (by rw [hp]; simp [hq]))).1
      simp only
      rw [gs _ _ _ _ hql, if_neg hne]; rfl)
  clear h hI hp hd hR hcut hap hax hplen
  go_enter Tryz.func51, Tryz.ntmps51
  go_wp2_with fail
  go_region
  all_goals
    generalize (w.setCell ⟨c.sb, 5, none⟩ (.slice (some ⟨pg, 0, none⟩) l.length pc)).drew = w1 at *
    have g5 : w1.cell? ⟨c.sb, 5, none⟩ = some (.slice (some ⟨pg, 0, none⟩) l.length pc) := HCUT.out.c1.2.2.2.2.2.1
    clear hc5 hf5
    rcases List.eq_nil_or_concat l with hl | ⟨l0, q, hl⟩
    · have hn0 : l.length = 0 := by rw [hl]; rfl
      have HS2 : Hid (SS w0 c XS w1 (.slice (some ⟨pg, 0, none⟩) l.length pc) ov (pop s l a)) := Lib.hid (by
        have h1 := HCUT.out
        rw [show (pop s l a) = { s with path := l } by rw [hl]; rfl]
        exact h1)
      have hn0' : (l.length : Int) = 0 := by omega
      generalize l.length = ln at *
      subst hn0
      clear hn0' hl0
      obtain ⟨w2, hw2⟩ : ∃ w2, w2 = w1 := ⟨_, rfl⟩
      subst hw2
      · have HLA := Lib.hid (HTAIL.out _ _ HS2.out)
        obtain ⟨ra, -⟩ := or_cell HS2.out.drew.r HS2.out.lr a HAX.out
        obtain ⟨la, -⟩ := or_cell HS2.out.drew.l HS2.out.ll a HAX.out
        obtain ⟨-, -, t2, t3, -⟩ := HS2.out.drew.c1
        rw [HLA.out] at la
        have HRA : Hid ((pop s l a).rank.getD a 0 = s.rk a) := Lib.hid rfl
        rw [HRA.out] at ra
        by_cases hlr : s.lw a = s.rk a
        · obtain ⟨pre, post, ho⟩ := List.append_of_mem HAP.out
          have hnp : a ∉ post := by
            have h1 := HIV.out.nod.1
            rw [ho] at h1
            have h2 := (List.nodup_append.1 h1).2.1
            exact (List.nodup_cons.1 h2).1
          obtain ⟨m, hm, hmin⟩ := min_ex post a
          have HCL := Lib.hid (close_m (w := w2.drew) (a := a) (m := m) (pre := pre) (post := post) HS2.out.drew (by exact ho) hnp (fun u hu => (HIV.out.opn u hu).1) HIV.out.big (by have := HIV.out.lens.1; exact Nat.le_trans this (by decide)) (by have := HIV.out.lens.2.2.2; exact Nat.le_trans this (by decide)) (by
            rw [List.getD_eq_getElem?_getD, List.getElem?_eq_getElem HAX.out]
            exact Nat.le_trans (HR.out _ (List.getElem_mem _)) (by decide)) hm hmin)
          have HMM := Lib.hid (And.intro hm hmin)
          have HOO := Lib.hid ho
          have HMO : Hid (∀ u, s.rk u ≠ 0 → (shut s.rank (a :: post)).getD u 0 ≠ 0) := Lib.hid (mono_shut HIV.out ho)
          have HLR := Lib.hid hlr
          rw [hlr] at la
          clear hm hmin ho hnp hlr
          generalize s.rk a = z at la ra
          go_wp2_with fail
          go_region
          all_goals
            go_wp2_with (first | (go_at_call 64; refine (HCL.out).mono ?_; rintro en w4 ⟨rfl, ov4, f4, h4, h5, h6⟩; have H4 := Lib.hid h4; have H5 := Lib.hid h5; have H6 := Lib.hid h6; clear h4 h5 h6))
            go_end0
            exact ⟨rfl, _, _, _, H4.out, Inv.close HIV.out HP.out HD.out HLR.out HOO.out HMM.out.1 HMM.out.2 ⟨H5.out, H6.out⟩, rfl, rfl, HMO.out⟩
        · have HLR := Lib.hid hlr
          have HS3 := Lib.hid HS2.out.drew
          generalize s.lw a = z at la hlr
          generalize s.rk a = z2 at ra hlr
          go_wp2_with fail
          go_region
          all_goals
            go_wp2_with fail
            go_end0
            exact ⟨rfl, _, _, _, HS3.out, Inv.leave HIV.out HP.out HD.out HLR.out, rfl, rfl, fun _ q => q⟩
    · have hn1 : l.length = l0.length + 1 := by rw [hl]; simp
      have hqm : q ∈ l := by rw [hl]; simp
      have hql : q < XS.length := (HIV.out.opn q (HIV.out.pth q (by rw [HP.out]; simp [hqm]))).1
      have hql' : (q : Int) < (XS.length : Int) := by omega
      have HS2 : Hid (SS w0 c XS (w1.setCell ⟨c.lg, q, none⟩ (.int .i64 (min (s.lw q) (s.lw a)))).drew (.slice (some ⟨pg, 0, none⟩) l.length pc) ov (pop s l a)) := Lib.hid (by
        have h1 := (HCUT.out.setL q (min (s.lw q) (s.lw a))).drew
        have h2 : pop s l a = { s with path := l, low := s.low.set q (min (s.lw q) (s.lw a)) } := by
          rw [hl, pop]; simp
        rw [h2]
        exact h1)
      obtain ⟨lq, lqf⟩ := or_cell HCUT.out.drew.l HCUT.out.ll q hql
      obtain ⟨la0, -⟩ := or_cell HCUT.out.drew.l HCUT.out.ll a HAX.out
      have pq : w1.drew.cell? ⟨pg, l0.length, none⟩ = some (.int .i64 (q : Int)) := by
        have h1 := (or_cell HCUT.out.drew.p (ints_len _) l0.length (by show l0.length < l.length; omega)).1
        rw [ints_getD] at h1
        rw [h1]
        have : l.getD l0.length 0 = q := by rw [hl, List.getD_eq_getElem?_getD]; simp
        show some (Value.int .i64 ((l.getD l0.length 0 : Nat) : Int)) = _
        rw [this]
      obtain ⟨-, -, -, k3, -, k5, -⟩ := HCUT.out.drew.c1
      have lq' : w1.drew.cell? ⟨c.lg, q, none⟩ = some (.int .i64 (s.lw q)) := lq
      have la' : w1.drew.cell? ⟨c.lg, a, none⟩ = some (.int .i64 (s.lw a)) := la0
      have k5' : w1.drew.cell? ⟨c.sb, 5, none⟩ = some (.slice (some ⟨pg, 0, none⟩) l.length pc) := k5
      clear lq la0 k5 HCUT
      rw [hn1] at g5 hll hcap hll' hcap' hl0 k5' HS2
      generalize hzq : s.lw q = zq at *
      generalize hza : s.lw a = za at *
      generalize l0.length = ln at *
      go_wp2_with fail
      have hlt9 : (ln : Int) < (ln : Int) + 1 := by omega
      have w1q : w1.cell? ⟨c.lg, q, none⟩ = some (.int .i64 zq) := lq'
      have w1a : w1.cell? ⟨c.lg, a, none⟩ = some (.int .i64 za) := la'
      have w1p : w1.cell? ⟨pg, ln, none⟩ = some (.int .i64 (q : Int)) := pq
      have w13 : w1.cell? ⟨c.sb, 3, none⟩ = some (.slice (some ⟨c.lg, 0, none⟩) XS.length c.lc) := k3
      go_still_tail 33, (by kernel_rfl)
      change wpList _ _ _ _ _ w1.drew
      go_wp2_with fail
      all_goals
        generalize (w1.setCell ⟨c.lg, q, none⟩ (.int .i64 (min zq za))).drew = w2 at *
        subst hza
        clear lq' la' k5' pq k3 g5
        have HLA := Lib.hid (HTAIL.out _ _ HS2.out)
        obtain ⟨ra, -⟩ := or_cell HS2.out.drew.r HS2.out.lr a HAX.out
        obtain ⟨la, -⟩ := or_cell HS2.out.drew.l HS2.out.ll a HAX.out
        obtain ⟨-, -, t2, t3, -⟩ := HS2.out.drew.c1
        rw [HLA.out] at la
        have HRA : Hid ((pop s l a).rank.getD a 0 = s.rk a) := Lib.hid rfl
        rw [HRA.out] at ra
        by_cases hlr : s.lw a = s.rk a
        · obtain ⟨pre, post, ho⟩ := List.append_of_mem HAP.out
          have hnp : a ∉ post := by
            have h1 := HIV.out.nod.1
            rw [ho] at h1
            have h2 := (List.nodup_append.1 h1).2.1
            exact (List.nodup_cons.1 h2).1
          obtain ⟨m, hm, hmin⟩ := min_ex post a
          have HCL := Lib.hid (close_m (w := w2.drew) (a := a) (m := m) (pre := pre) (post := post) HS2.out.drew (by exact ho) hnp (fun u hu => (HIV.out.opn u hu).1) HIV.out.big (by have := HIV.out.lens.1; exact Nat.le_trans this (by decide)) (by have := HIV.out.lens.2.2.2; exact Nat.le_trans this (by decide)) (by
            rw [List.getD_eq_getElem?_getD, List.getElem?_eq_getElem HAX.out]
            exact Nat.le_trans (HR.out _ (List.getElem_mem _)) (by decide)) hm hmin)
          have HMM := Lib.hid (And.intro hm hmin)
          have HOO := Lib.hid ho
          have HMO : Hid (∀ u, s.rk u ≠ 0 → (shut s.rank (a :: post)).getD u 0 ≠ 0) := Lib.hid (mono_shut HIV.out ho)
          have HLR := Lib.hid hlr
          rw [hlr] at la
          clear hm hmin ho hnp hlr
          generalize s.rk a = z at la ra
          go_wp2_with fail
          go_region
          all_goals
            go_wp2_with (first | (go_at_call 64; refine (HCL.out).mono ?_; rintro en w4 ⟨rfl, ov4, f4, h4, h5, h6⟩; have H4 := Lib.hid h4; have H5 := Lib.hid h5; have H6 := Lib.hid h6; clear h4 h5 h6))
            go_end0
            exact ⟨rfl, _, _, _, H4.out, Inv.close HIV.out HP.out HD.out HLR.out HOO.out HMM.out.1 HMM.out.2 ⟨H5.out, H6.out⟩, rfl, rfl, HMO.out⟩
        · have HLR := Lib.hid hlr
          have HS3 := Lib.hid HS2.out.drew
          generalize s.lw a = z at la hlr
          generalize s.rk a = z2 at ra hlr
          go_wp2_with fail
          go_region
          all_goals
            go_wp2_with fail
            go_end0
            exact ⟨rfl, _, _, _, HS3.out, Inv.leave HIV.out HP.out HD.out HLR.out, rfl, rfl, fun _ q => q⟩
end Tj
end Go.Proofs.YtmhpaacjioeknaaGreat
