/-
  DERIVED. The walk of the search's from.
-/
import Derived.Test.YtmhpaacjioeknaaGreatTk
import Derived.StillTailTactics
namespace Go.Proofs.YtmhpaacjioeknaaGreat
open Go.RowKit Go.Maps Go.Sort Go.WideMaps
namespace Tj

set_option maxHeartbeats 12800000 in
set_option maxRecDepth 100000 in
theorem from_m {w0 w : World} {c : Cn} {XS : List (List Int)} {pv ov : Value} {s : St} (h : SS w0 c XS w pv ov s) (hI : Inv XS s) (hp : s.path = []) {i : Nat} (hi : i < XS.length) (hz : s.rk i = 0) (hR : ∀ xs ∈ XS, xs.length ≤ 10000) :
    Calls Tryz.prog 34 #[.pointer (some ⟨c.sb, 0, none⟩), .int .i64 i] w fun e w' => e = .returned (.tuple #[]) ∧ ∃ pv' ov' s', SS w0 c XS w' pv' ov' s' ∧ Inv XS s' ∧ s'.path = [] ∧ (∀ u, s.rk u ≠ 0 → s'.rk u ≠ 0) ∧ s'.rk i ≠ 0 := by
  have HM0 := Lib.hid (meet_m h i hi hI.big (Nat.le_trans hI.lens.2.2.1 (by decide)) (Nat.le_trans hI.lens.2.1 (by decide)) (Nat.le_trans hI.lens.1 (by decide)))
  have HI1 : Hid (Inv XS (meet s i)) := Lib.hid (hI.meet0 hp hi hz)
  have HG1 : Hid ((∀ u, s.rk u ≠ 0 → (meet s i).rk u ≠ 0) ∧ (meet s i).rk i ≠ 0) := Lib.hid (mono_meet i (by rw [hI.lr]; exact hi))
  have HR := Lib.hid hR
  have hx' : (XS.length : Int) ≤ 1000 := by have := hI.big; omega
  clear h hI hp hi hz hR
  go_enter Tryz.func34, Tryz.ntmps34
  go_wp2_with (first | (go_at_call 50; refine (HM0.out).mono ?_; rintro en w1 ⟨rfl, pv1, ov1, h1⟩; have HS1 := Lib.hid h1; clear h1))
  generalize meet s i = s1 at *
  go_loopg [] (mu XS s1) (fun g wr => ∃ (pv' ov' : Value) (t : St), mu XS t ≤ g ∧ Hid (SS w0 c XS wr pv' ov' t) ∧ Hid (Inv XS t) ∧ Hid ((∀ u, s.rk u ≠ 0 → t.rk u ≠ 0) ∧ t.rk i ≠ 0))
  case atStart => exact ⟨pv1, ov1, s1, Nat.le_refl _, HS1, HI1, HG1⟩
  case round =>
    clear HS1 HI1 HG1 HM0
    obtain ⟨pv', ov', t, hg, HS, HI, HG⟩ := hrel
    have HGK := Lib.hid hg
    clear hg
    rcases List.eq_nil_or_concat t.path with hp | ⟨l, a, hp⟩
    · obtain ⟨ap, cp, hpv⟩ := HS.out.p.shape
      rw [ints_len] at hpv
      have h0 : t.path.length = 0 := by rw [hp]; rfl
      rw [h0] at hpv
      subst hpv
      have c5 : wr.cell? ⟨c.sb, 5, none⟩ = some (.slice ap 0 cp) := HS.out.c1.2.2.2.2.2.1
      have HP := Lib.hid hp
      clear hp h0
      go_wp2_with fail
      go_end0
      exact ⟨rfl, _, _, _, HS.out, HI.out, HP.out, HG.out⟩
    · have hp1 : t.path = l ++ [a] := by simpa using hp
      have hpl : t.path.length = l.length + 1 := by rw [hp1]; simp
      obtain ⟨pg, pc, hpv, -, -⟩ := HS.out.p.block (by rw [ints_len]; omega)
      rw [ints_len] at hpv
      subst hpv
      have c5 : wr.cell? ⟨c.sb, 5, none⟩ = some (.slice (some ⟨pg, 0, none⟩) (l.length + 1) pc) := by rw [← hpl]; exact HS.out.c1.2.2.2.2.2.1
      have c5d : wr.drew.cell? ⟨c.sb, 5, none⟩ = some (.slice (some ⟨pg, 0, none⟩) (l.length + 1) pc) := c5
      have cpd : wr.drew.cell? ⟨pg, l.length, none⟩ = some (.int .i64 (a : Int)) := by
        have h1 := (or_cell HS.out.drew.p (ints_len _) l.length (by omega)).1
        rw [ints_getD] at h1
        rw [h1]
        have : t.path.getD l.length 0 = a := by rw [hp1, List.getD_eq_getElem?_getD]; simp
        rw [this]
      have hll : (l.length : Int) + 1 ≤ 1000 := by have := HI.out.lens.2.1; omega
      have hl0 : (0 : Int) ≤ (l.length : Int) := Int.natCast_nonneg _
      have hlt9 : (l.length : Int) < (l.length : Int) + 1 := by omega
      have HP := Lib.hid hp1
      have HPL := Lib.hid hpl
      have hap : a ∈ t.opn := HI.out.pth a (by rw [hp1]; simp)
      have hax : a < XS.length := (HI.out.opn a hap).1
      have hax' : (a : Int) < (XS.length : Int) := by omega
      obtain ⟨xs, hxs⟩ : ∃ xs, XS[a]? = some xs := ⟨_, List.getElem?_eq_getElem hax⟩
      have HXE : Hid (XS.getD a [] = xs) := Lib.hid (by rw [List.getD_eq_getElem?_getD, hxs]; rfl)
      have HXS := Lib.hid hxs
      have HAX := Lib.hid hax
      have hxl : (xs.length : Int) ≤ 10000 := by have := HR.out xs (List.mem_of_getElem? hxs); omega
      have hdl := HI.out.dle a hax
      rw [HXE.out] at hdl
      obtain ⟨d, hd⟩ : ∃ d : Nat, t.dn a = (d : Int) := ⟨(t.dn a).toNat, by omega⟩
      have HDN := Lib.hid hd
      rw [hd] at hdl
      obtain ⟨-, hdl⟩ := hdl
      have HSa := Lib.hid HS.out.drew
      clear hp hp1 hpl hap hxs hd HS
      go_wp2_with fail
      go_region
      all_goals
        generalize wr.drew = wa at *
        clear c5 c5d cpd
        obtain ⟨a0, -, -, -, a4, -⟩ := HSa.out.drew.c1
        obtain ⟨ad, -⟩ := or_cell HSa.out.drew.d HSa.out.ld a HAX.out
        have ad' : wa.drew.cell? ⟨c.dg, a, none⟩ = some (.int .i64 (d : Int)) := by rw [← HDN.out]; exact ad
        clear ad
        obtain ⟨ar, cr, aw, HRW⟩ := HSa.out.drew.row HXS.out
        replace HRW := Lib.hid HRW
        have HSb := Lib.hid HSa.out.drew
        by_cases hdx : d = xs.length
        · have hdx' : (d : Int) = (xs.length : Int) := by omega
          have HLV := Lib.hid (leave_m HSb.out HI.out HP.out (by rw [HDN.out, HXE.out]; exact hdx') HR.out)
          rw [hdx'] at ad'
          go_wp2_with fail
          go_region
          all_goals
            generalize wa.drew = wb at *
            clear a0 a4 ad' aw
            go_wp2_with (first | (go_at_call 51; refine (HLV.out).mono ?_; rintro en w4 ⟨rfl, pv4, ov4, t4, h4, h5, h6, h7, h8⟩; have H4 := Lib.hid h4; have H5 := Lib.hid h5; have H6 := Lib.hid h6; have H7 := Lib.hid h7; have H8 := Lib.hid h8; clear h4 h5 h6 h7 h8))
            go_roundg (mu XS t4)
            case rel => exact ⟨pv4, ov4, t4, Nat.le_refl _, H4, H5, Lib.hid ⟨fun u q => H8.out u (HG.out.1 u q), H8.out i HG.out.2⟩⟩
            case measure => exact Nat.lt_of_lt_of_le (mu_leave H7.out (by rw [H6.out, HPL.out]; omega)) HGK.out
        · have hlt : d < xs.length := by omega
          have hlt' : (d : Int) < (xs.length : Int) := by omega
          have hne' : ¬ (d : Int) = (xs.length : Int) := by omega
          obtain ⟨x, hx⟩ : ∃ x : Nat, xs[d]? = some (x : Int) := by
            have h1 := HI.out.inr xs (List.mem_of_getElem? HXS.out) xs[d] (List.getElem_mem hlt)
            exact ⟨xs[d].toNat, by rw [List.getElem?_eq_getElem hlt]; congr 1; omega⟩
          have HDX : Hid (∃ i : Nat, t.dn a = i ∧ (XS.getD a [])[i]? = some (x : Int)) := Lib.hid ⟨d, HDN.out, by rw [HXE.out]; exact hx⟩
          have hxn : x < XS.length := by
            have h1 := HI.out.inr xs (List.mem_of_getElem? HXS.out) (x : Int) (List.mem_of_getElem? hx)
            omega
          have hxn' : (x : Int) < (XS.length : Int) := by omega
          obtain ⟨rg, rc, hrv, -, -⟩ := HRW.out.block (by omega)
          injection hrv with e1 e2 e3
          subst e1
          clear e2 e3
          have rcell : wa.drew.drew.cell? ⟨rg, d, none⟩ = some (.int .i64 (x : Int)) := by
            have h1 := (or_cell HRW.out rfl d hlt).1
            rw [List.getD_eq_getElem?_getD, hx] at h1
            exact h1
          go_wp2_with fail
          go_region
          all_goals
            generalize wa.drew = wb at *
            have b0 : wb.drew.cell? ⟨c.sb, 0, none⟩ = some (.slice (some ⟨c.wb, 0, none⟩) XS.length c.wc) := a0
            have b4 : wb.drew.cell? ⟨c.sb, 4, none⟩ = some (.slice (some ⟨c.dg, 0, none⟩) XS.length c.dc) := a4
            have bd : wb.drew.cell? ⟨c.dg, a, none⟩ = some (.int .i64 (d : Int)) := ad'
            have bw : wb.drew.cell? ⟨c.wb, a, none⟩ = some (.slice (some ⟨rg, 0, none⟩) xs.length cr) := aw
            clear a0 a4 ad' aw
            have HSc := Lib.hid HSb.out.drew
            go_wp2_with fail
            go_region
            all_goals
              clear b0 b4 bd bw rcell HRW
              generalize wb.drew = wc at *
              have hd3 : (d : Int) + 1 ≤ 10000 := by omega
              obtain ⟨-, -, -, -, c4, -⟩ := HSc.out.c1
              obtain ⟨cd0, cf⟩ := or_cell HSc.out.d HSc.out.ld a HAX.out
              have cd : wc.cell? ⟨c.dg, a, none⟩ = some (.int .i64 (d : Int)) := by rw [← HDN.out]; exact cd0
              clear cd0
              have HSd : Hid (SS w0 c XS (wc.setCell ⟨c.dg, a, none⟩ (.int .i64 ((d : Int) + 1))) (.slice (some ⟨pg, 0, none⟩) t.path.length pc) ov' (bump t a)) := Lib.hid (by
                have h1 := HSc.out.setD a (t.dn a + 1)
                rw [HDN.out] at h1
                unfold bump
                rw [HDN.out]
                exact h1)
              obtain ⟨-, -, d2, -⟩ := HSd.out.c1
              obtain ⟨dr0, -⟩ := or_cell HSd.out.r HSd.out.lr x hxn
              have dr : (wc.setCell ⟨c.dg, a, none⟩ (.int .i64 ((d : Int) + 1))).cell? ⟨c.rg, x, none⟩ = some (.int .i64 (t.rk x)) := dr0
              clear dr0
              have HXN := Lib.hid hxn
              by_cases hrx : t.rk x = 0
              · have HIM : Hid (Inv XS (meet (bump t a) x)) := Lib.hid (Inv.adv_meet HI.out HP.out HDX.out hrx)
                have HMM : Hid ((∀ u, t.rk u ≠ 0 → (meet (bump t a) x).rk u ≠ 0) ∧ (meet (bump t a) x).rk x ≠ 0) := Lib.hid (mono_meet (s := bump t a) x (by show x < t.rank.length; rw [HI.out.lr]; exact hxn))
                have HME := Lib.hid (meet_m HSd.out x hxn HI.out.big (Nat.le_trans HI.out.lens.2.2.1 (by decide)) (Nat.le_trans HI.out.lens.2.1 (by decide)) (Nat.le_trans HI.out.lens.1 (by decide)))
                have HMU := Lib.hid (mu_adv HI.out HIM.out HAX.out rfl (by show (t.path ++ [x]).length ≤ _; simp))
                rw [hrx] at dr
                go_wp2_with (first | (go_at_call 50; refine (HME.out).mono ?_; rintro en w4 ⟨rfl, pv4, ov4, h4⟩; have H4 := Lib.hid h4; clear h4))
                go_roundg (mu XS (meet (bump t a) x))
                case rel => exact ⟨pv4, ov4, _, Nat.le_refl _, H4, HIM, Lib.hid ⟨fun u q => HMM.out.1 u (HG.out.1 u q), HMM.out.1 i HG.out.2⟩⟩
                case measure => exact Nat.lt_of_lt_of_le HMU.out HGK.out
              · have HIL : Hid (Inv XS (lower (bump t a) a (t.rk x))) := Lib.hid (Inv.adv_low HI.out HP.out HDX.out hrx)
                have HMU := Lib.hid (mu_adv HI.out HIL.out HAX.out rfl (by show t.path.length ≤ _; omega))
                have HSE : Hid (SS w0 c XS ((wc.setCell ⟨c.dg, a, none⟩ (.int .i64 ((d : Int) + 1))).setCell ⟨c.lg, a, none⟩ (.int .i64 (min (t.lw a) (t.rk x)))).drew (.slice (some ⟨pg, 0, none⟩) t.path.length pc) ov' (lower (bump t a) a (t.rk x))) := Lib.hid (HSd.out.setL a (min (t.lw a) (t.rk x))).drew
                obtain ⟨-, -, -, d3, -⟩ := HSd.out.c1
                obtain ⟨dl0, dlf⟩ := or_cell HSd.out.l HSd.out.ll a HAX.out
                have dl : (wc.setCell ⟨c.dg, a, none⟩ (.int .i64 ((d : Int) + 1))).cell? ⟨c.lg, a, none⟩ = some (.int .i64 (t.lw a)) := dl0
                clear dl0
                generalize hzr : t.rk x = zr at dr hrx HSE HIL HMU
                generalize hzl : t.lw a = zl at dl HSE
                clear hzr hzl
                go_wp2_with fail
                generalize wc.setCell ⟨c.dg, a, none⟩ (.int .i64 ((d : Int) + 1)) = wd at *
                have e2 : wd.drew.cell? ⟨c.sb, 2, none⟩ = some (.slice (some ⟨c.rg, 0, none⟩) XS.length c.rc) := d2
                have e3 : wd.drew.cell? ⟨c.sb, 3, none⟩ = some (.slice (some ⟨c.lg, 0, none⟩) XS.length c.lc) := d3
                have el : wd.drew.cell? ⟨c.lg, a, none⟩ = some (.int .i64 zl) := dl
                have er : wd.drew.cell? ⟨c.rg, x, none⟩ = some (.int .i64 zr) := dr
                have ef : wd.drew.frozen? ⟨c.lg, a, none⟩ = false := dlf
                go_still_tail 21, (by kernel_rfl)
                change wpList _ _ _ _ _ wd.drew
                go_wp2_with fail
                go_roundg (mu XS (lower (bump t a) a zr))
                case rel => exact ⟨_, _, _, Nat.le_refl _, HSE, HIL, HG⟩
                case measure => exact Nat.lt_of_lt_of_le HMU.out HGK.out
end Tj
end Go.Proofs.YtmhpaacjioeknaaGreat
