/-
  DERIVED. The walk of the web's reach.
-/
import Derived.Test.YtmhpaacjioeknaaGreatTs
namespace Go.Proofs.YtmhpaacjioeknaaGreat
open Go.RowKit Go.Maps Go.Sort Go.WideMaps
namespace Tj

theorem Rr.start {w : World} {bw wb : Nat} {vs : List Value} {XS : List (List Int)} (h : Rws w bw wb vs XS) {i : Nat} (hi : i < XS.length) :
    Rr w ((w.alloc (.cells (madeCells #[.bool false] XS.length) 4)).alloc (.cells #[.int .i64 i] 3)) XS w.heap.size bw wb vs i (.slice none 0 0) (List.replicate XS.length false) [] [(i : Int)] [] (.slice (some ⟨w.heap.size + 1, 0, none⟩) 1 1) [(i : Int)] := by
  have hb1 : Below w.heap.size w (w.alloc (.cells (madeCells #[.bool false] XS.length) 4)) := (Below.refl _ _).alloc (Nat.le_refl _) _
  have hb2 : Below (w.alloc (.cells (madeCells #[.bool false] XS.length) 4)).heap.size (w.alloc (.cells (madeCells #[.bool false] XS.length) 4)) ((w.alloc (.cells (madeCells #[.bool false] XS.length) 4)).alloc (.cells #[.int .i64 i] 3)) := (Below.refl _ _).alloc (Nat.le_refl _) _
  have hm := made_bools w XS.length
  refine ⟨h, hb1.trans (hb2.mono hb1.size), rfl, hm.below hb2 hm.lt, World.ownsRow_nil _ _ _ _, ⟨_, 1, rfl, .inr ⟨w.heap.size + 1, 0, rfl, by omega, fun j x hj => ?_, fun e => by simp [Value.ownBlock] at e⟩⟩, Ly.start hi⟩
  have hj0 : j = 0 := by
    have := (List.getElem?_eq_some_iff.1 hj).1
    simp at this; omega
  subst hj0
  simp at hj
  subst hj
  have h1 := heap_alloc_new (w.alloc (.cells (madeCells #[.bool false] XS.length) 4)) (.cells #[.int .i64 i] 3)
  rw [World.size_alloc] at h1
  exact cell_of_row _ (w.heap.size + 1) 0 _ _ _ h1
set_option maxHeartbeats 12800000 in
set_option maxRecDepth 100000 in
theorem webreach_m {w : World} {bw wb wc : Nat} {vs : List Value} {XS : List (List Int)} (h : Rws w bw wb vs XS) (hn : XS.length ≤ 1000) (hX : InR XS) (hR : ∀ xs ∈ XS, xs.length ≤ 10000) {i : Nat} (hi : i < XS.length) :
    Calls Tryz.prog 20 #[.slice (some ⟨wb, 0, none⟩) XS.length wc, .int .i64 i] w fun e w' => ∃ v fs, e = .returned v ∧ OR w' (w.heap.size + 1) v fs ∧ fs.Pairwise (fun x y => x ≤ y) ∧ fs.Nodup ∧ (∀ c : Nat, (c : Int) ∈ fs ↔ Rt XS i c) ∧ (∀ x ∈ fs, ∃ c : Nat, x = (c : Int) ∧ c < XS.length) ∧ Below w.heap.size w w' := by
  obtain ⟨ir, hir, hz0, hz1, hz2⟩ := info_parts info4
  have HIR := Lib.hid (And.intro hir (And.intro hz0 (And.intro hz1 hz2)))
  have HST := Lib.hid (Rr.start h hi)
  have HR := Lib.hid hR
  have HX := Lib.hid hX
  have HW := Lib.hid h
  have HN := Lib.hid hn
  have hn' : (XS.length : Int) ≤ 1000 := by omega
  clear h hX hR hi hir hz0 hz1 hz2
  go_enter Tryz.func20, Tryz.ntmps20
  go_wp2_with (first | (at_make; refine wpList_make_row _ rfl _ _ 48 rfl 4 ir (.bool false) Tryz.underlying48 HIR.out.1 HIR.out.2.1 HIR.out.2.2.1 rfl .i64 .i64 XS.length rfl rfl (by rw [HIR.out.2.2.2]; have := HN.out; omega) (by have := HN.out; omega) ?_))
  generalize (w.alloc (.cells (madeCells #[.bool false] XS.length) 4)).alloc (.cells #[.int .i64 i] 3) = wB at HST ⊢
  obtain ⟨mb, hmb⟩ : ∃ mb, mb = w.heap.size := ⟨_, rfl⟩
  have HMB := Lib.hid hmb
  rw [← hmb] at HST ⊢
  clear hmb
  go_loopg [5, 7] (2 * XS.length + 1) (fun g sv so wr => ∃ (bs : List Bool) (fs os : List Int), 2 * (XS.length - fs.length) + (if os = [] then 0 else 1) ≤ g ∧ os.length ≤ 1000 ∧ Hid (Rr w wr XS mb bw wb vs i sv bs fs os [] so os))
  case atStart => exact ⟨_, _, _, by simp, by simp, HST⟩
  case round =>
    clear HST
    obtain ⟨bs, fs, os, hg, hol9, HRR⟩ := hrel
    have HG := Lib.hid hg
    clear hg
    obtain ⟨ao, co, rfl, hop⟩ := HRR.out.op
    obtain ⟨af, cf, rfl⟩ := HRR.out.row.shape
    have HFL : Hid (fs.length ≤ 1000) := Lib.hid (Nat.le_trans HRR.out.ly.short HN.out)
    by_cases hos : os = []
    · subst hos
      clear hop
      have HSO := Lib.hid (sort_m HRR.out.row (Nat.le_trans HFL.out (by decide)))
      go_wp2_with (first | (go_at_call 35; refine (HSO.out).mono ?_; rintro en w4 ⟨rfl, ho, hgr⟩; have HO := Lib.hid ho; have HGR := Lib.hid hgr; clear ho hgr))
      go_ret
      rw [← HMB.out]
      refine ⟨_, fs.mergeSort (fun x y => decide (x ≤ y)), rfl, HO.out, sorted_sorted fs, nodup_sorted HRR.out.ly.nod, fun c => (mem_sorted fs c).trans (HRR.out.ly.end_ c), fun x hx => ?_, ?_⟩
      · obtain ⟨c, h1, h2, -⟩ := HRR.out.ly.rt x ((mem_sorted fs x).1 hx)
        exact ⟨c, h1, h2⟩
      · have h1 := HRR.out.fr
        exact h1.trans ⟨HGR.out.os, HGR.out.tape, HGR.out.output, HGR.out.size, fun j hj => HGR.out.block j (Nat.lt_trans hj HRR.out.met.lt) (fun e => by have := (HRR.out.row.lt j e.symm).1; omega)⟩
    · obtain ⟨ob, off, rfl, hopr⟩ : ∃ ob off, ao = some ⟨ob, off, none⟩ ∧ True := by
        rcases hop with q | ⟨ob, off, q, -⟩
        · exact absurd q hos
        · exact ⟨ob, off, q, trivial⟩
      have HOS := Lib.hid hos
      have hol8 : (os.length : Int) ≤ 1000 := by omega
      have hol0 : (0 : Int) < (os.length : Int) := by have := List.length_pos_iff.2 hos; omega
      clear hop hopr hos
      go_wp2_with fail
      rw [show decide (0 < os.length) = true from decide_eq_true (by omega)]
      go_loopw [5, 10, 25] (fun (sv : Value) (s10 : Value) (sa : Value) (wq : World) => ∃ (a : Nat) (bs' : List Bool) (nw fx : List Int), sa = .int .i64 a ∧ a ≤ os.length ∧ Hid (fx = fs ++ nw) ∧ Hid (Rr w wq XS mb bw wb vs i sv bs' fx (os.drop a) nw (.slice (some ⟨ob, off, none⟩) os.length co) os)) (fun (s5 : Value) (s10 : Value) (sa : Value) (wq : World) => os.length - (Lib.intOf sa).toNat)
      case atStart => exact ⟨0, bs, [], fs, rfl, Nat.zero_le _, Lib.hid (by rw [List.append_nil]), HRR⟩
      case round =>
        clear HRR
        obtain ⟨a, bs1, nw, fx, rfl, ha, HFX, HRR⟩ := hrel
        obtain ⟨af1, cf1, rfl⟩ := HRR.out.row.shape
        have HFL1 : Hid (fx.length ≤ 1000) := Lib.hid (Nat.le_trans HRR.out.ly.short HN.out)
        by_cases hal : a < os.length
        · have hal' : (a : Int) < (os.length : Int) := by omega
          have hdr : os.drop a = os[a] :: os.drop (a + 1) := List.drop_eq_getElem_cons hal
          obtain ⟨x, hx, hxn, -⟩ := HRR.out.ly.opn os[a] (by rw [hdr]; exact List.mem_cons_self)
          have HDR : Hid (os.drop a = (x : Int) :: os.drop (a + 1)) := Lib.hid (by rw [hdr, hx])
          have HOA : Hid (os[a]? = some (x : Int)) := Lib.hid (by rw [List.getElem?_eq_getElem hal, hx])
          clear hdr hx
          have ca : wr.cell? ⟨ob, off + a, none⟩ = some (.int .i64 (x : Int)) := by
            obtain ⟨ao2, co2, e, hop⟩ := HRR.out.op
            injection e with e1 e2 e3
            subst e1
            rcases hop with q | ⟨ob2, off2, e4, -, hc, -⟩
            · exact absurd q HOS.out
            · injection e4 with e4
              injection e4 with e5 e6
              subst e5; subst e6
              exact hc a _ HOA.out
          obtain ⟨xs, hxs⟩ : ∃ xs, XS[x]? = some xs := ⟨_, List.getElem?_eq_getElem hxn⟩
          obtain ⟨rv, -, hrv, hrc, -⟩ := HW.out.at_ hxs
          obtain ⟨ar, cr, rfl⟩ := hrv.shape
          have HXE : Hid (XS.getD x [] = xs) := Lib.hid (by rw [List.getD_eq_getElem?_getD, hxs]; rfl)
          have HXM : Hid (xs ∈ XS) := Lib.hid (List.mem_of_getElem? hxs)
          have hxl : (xs.length : Int) ≤ 10000 := by have := HR.out xs HXM.out; omega
          have cw : wr.cell? ⟨wb, x, none⟩ = some (.slice ar xs.length cr) := by
            have hbf : Below w.heap.size w wr := by have := HRR.out.fr; rwa [HMB.out] at this
            exact (hbf.cell (block_lt_of_cell hrc)).trans hrc
          have HRV := Lib.hid hrv
          have hxn' : (x : Int) < (XS.length : Int) := by omega
          clear hxs hrv hrc
          go_wp2_with fail
          go_loopw [5, 12, 34] (fun (sv : Value) (s12 : Value) (sb : Value) (wz : World) => ∃ (b : Nat) (bs2 : List Bool) (nw2 fy : List Int), sb = .int .i64 b ∧ b ≤ xs.length ∧ Hid (fy = fs ++ nw2) ∧ Hid (Rr w wz XS mb bw wb vs i sv bs2 fy (os.drop a) nw2 (.slice (some ⟨ob, off, none⟩) os.length co) os) ∧ Hid (∀ e ∈ xs.take b, e ∈ fy)) (fun (s5 : Value) (s12 : Value) (sb : Value) (wz : World) => xs.length - (Lib.intOf sb).toNat)
          case atStart => exact ⟨0, bs1, nw, fx, rfl, Nat.zero_le _, HFX, HRR, Lib.hid (by intro e he; simp at he)⟩
          case round =>
            clear HRR HFL1 ca cw
            obtain ⟨b, bs2, nw2, fy, rfl, hb, HFY, HRR, HAL⟩ := hrel
            obtain ⟨af2, cf2, rfl⟩ := HRR.out.row.shape
            have HFL2 : Hid (fy.length ≤ 1000) := Lib.hid (Nat.le_trans HRR.out.ly.short HN.out)
            by_cases hbl : b < xs.length
            · have hbl' : (b : Int) < (xs.length : Int) := by omega
              have hin := HX.out xs HXM.out xs[b] (List.getElem_mem hbl)
              obtain ⟨t, ht⟩ : ∃ t : Nat, xs[b] = (t : Int) := ⟨xs[b].toNat, by omega⟩
              have htn : t < XS.length := by rw [ht] at hin; omega
              have HTX : Hid ((t : Int) ∈ XS.getD x []) := Lib.hid (by rw [HXE.out, ← ht]; exact List.getElem_mem hbl)
              have HTK : Hid (xs.take (b + 1) = xs.take b ++ [(t : Int)]) := Lib.hid (by rw [List.take_succ_eq_append_getElem hbl, ht])
              obtain ⟨rg, rc, hrs, -, -⟩ := HRV.out.block (by omega)
              injection hrs with e1 e2 e3
              subst e1
              clear e2 e3
              have ct : wr.cell? ⟨rg, b, none⟩ = some (.int .i64 (t : Int)) := by
                have hbf : Below w.heap.size w wr := by have := HRR.out.fr; rwa [HMB.out] at this
                have h1 := (or_cell (n := xs.length) (c := cr) (own_below HRV.out hbf) rfl b hbl).1
                rw [List.getD_eq_getElem?_getD, List.getElem?_eq_getElem hbl] at h1
                rw [h1, ← ht]; rfl
              clear hin ht
              have htn' : (t : Int) < (XS.length : Int) := by omega
              obtain ⟨bb, hbb⟩ : ∃ bb, bs2[t]? = some bb := ⟨_, List.getElem?_eq_getElem (by rw [HRR.out.ly.len]; exact htn)⟩
              have cm : wr.cell? ⟨mb, t, none⟩ = some (.bool bb) := by rw [HRR.out.met.cell]; simp [hbb]
              have fm := HRR.out.met.frozen t
              have HBB := Lib.hid hbb
              have HTN := Lib.hid htn
              clear hbb
              cases bb with
              | true =>
                go_wp2_with fail
                go_roundw
                case rel => exact ⟨b + 1, bs2, nw2, fy, by go_num, by omega, HFY, HRR, Lib.hid (fun e he => by
                  rw [HTK.out] at he
                  rcases List.mem_append.1 he with q | q
                  · exact HAL.out e q
                  · simp at q; rw [q]; exact (HRR.out.ly.mem t).1 HBB.out)⟩
                case measure => simp [Lib.intOf]; omega
              | false =>
                have HH := Lib.hid (fun g cap w' h1 h2 h3 h4 => HRR.out.hit (w' := w') (fv' := .slice (some ⟨g, 0, none⟩) (fy.length + 1) cap) (x := x) (t := t) (by rw [HDR.out]; exact List.mem_cons_self) HTX.out HTN.out HBB.out h1 h2 h3 h4)
                have HO5 : Hid (OR (wr.setCell ⟨mb, t, none⟩ (.bool true)) (mb + 1) (.slice af2 fy.length cf2) fy) := Lib.hid (OR.kp HRR.out.row (grownBy_setC wr ⟨mb, t, none⟩ (.bool true)) (fun e => by have := (HRR.out.row.lt mb e).1; omega))
                have HS5 : Hid (mb + 1 ≤ (wr.setCell ⟨mb, t, none⟩ (.bool true)).heap.size) := Lib.hid (by have h1 := HRR.out.met.lt; have h2 := (grownBy_setC wr ⟨mb, t, none⟩ (.bool true)).size; omega)
                have MK : True := trivial
                go_wp2_with (first | ((with_reducible show wpList _ _ _ (Oper.mk (some 48) _ _ _ _ _ :: _) _ _); clear MK; generalize wr.setCell ⟨mb, t, none⟩ (.bool true) = w5 at HH HO5 HS5 ⊢) | ((with_reducible show wpList _ _ _ (Oper.mk (some 49) _ _ _ _ _ :: _) _ _); refine wpList_app_keep rfl (.tmp 46) (.tmp 48) rfl (mb + 1) fy (.slice af2 fy.length cf2) rfl HO5.out HS5.out (t : Int) rfl (by have := HFL2.out; omega) ?_; intro g6 c6 w6 k1 k2 k3 k4; have H6 := Lib.hid (HH.out g6 c6 w6 k1 k2 k3 k4); clear k1 k2 k3 k4))
                go_roundw
                case rel => exact ⟨b + 1, bs2.set t true, nw2 ++ [(t : Int)], fy ++ [(t : Int)], by go_num, by omega, Lib.hid (by rw [HFY.out, List.append_assoc]), H6, Lib.hid (fun e he => by
                  rw [HTK.out] at he
                  rcases List.mem_append.1 he with q | q
                  · exact List.mem_append_left _ (HAL.out e q)
                  · simp at q; rw [q]; simp)⟩
                case measure => simp [Lib.intOf]; omega
            · have hbe : b = xs.length := by omega
              subst hbe
              have HNX : Hid (Rr w wr XS mb bw wb vs i (.slice af2 fy.length cf2) bs2 fy (os.drop (a + 1)) nw2 (.slice (some ⟨ob, off, none⟩) os.length co) os) := Lib.hid (by
                have hr := HRR.out
                have hl := hr.ly
                rw [HDR.out] at hl
                exact ⟨hr.web, hr.fr, hr.mbe, hr.met, hr.row, hr.op, hl.next (fun e he => HAL.out e (by rw [HXE.out] at he; rw [List.take_length]; exact he))⟩)
              go_wp2_with fail
              go_roundw
              case rel => exact ⟨a + 1, bs2, nw2, fy, by go_num, by omega, HFY, HNX⟩
              case measure => simp [Lib.intOf]; omega
        · have hae : a = os.length := by omega
          subst hae
          have HLY : Hid (Ly XS i bs1 fx nw []) := Lib.hid (by
            have hl := HRR.out.ly
            rw [List.drop_length] at hl
            exact hl.turn (fun x hx => by rw [HFX.out]; exact List.mem_append_right _ hx))
          have hfl : fx.length = fs.length + nw.length := by rw [HFX.out, List.length_append]
          have hcap : fx.length ≤ cf1 := by
            rcases HRR.out.row.2 with ⟨q, h0⟩ | ⟨g', cap', cur, q, _, _, hnc, _⟩
            · rw [h0]; exact Nat.zero_le _
            · injection q with _ _ q3
              rw [q3]; exact hnc
          have hcap' : (fx.length : Int) ≤ (cf1 : Int) := by omega
          have hfl' : (fs.length : Int) ≤ (fx.length : Int) := by omega
          have hf0 : (0 : Int) ≤ (fs.length : Int) := Int.natCast_nonneg _
          have HFN : Hid (fx.length ≤ XS.length) := Lib.hid HRR.out.ly.short
          have HGB : Hid (2 * (XS.length - fs.length) + 1 ≤ gk) := Lib.hid (by have := HG.out; rwa [if_neg HOS.out] at this)
          by_cases hnw : nw = []
          · subst hnw
            have hx0 : fx = fs := by rw [HFX.out, List.append_nil]
            clear hfl
            subst hx0
            have HEN : Hid (Rr w wr XS mb bw wb vs i (.slice af1 fx.length cf1) bs1 fx [] [] (.slice af1 0 0) []) := Lib.hid ⟨HRR.out.web, HRR.out.fr, HRR.out.mbe, HRR.out.met, HRR.out.row, ⟨af1, 0, rfl, .inl rfl⟩, HLY.out⟩
            have HEN2 : Hid (Rr w wr XS mb bw wb vs i (.slice af1 fx.length cf1) bs1 fx [] [] (.slice (af1.map fun x => x.add fx.length) 0 0) []) := Lib.hid ⟨HRR.out.web, HRR.out.fr, HRR.out.mbe, HRR.out.met, HRR.out.row, ⟨_, 0, rfl, .inl rfl⟩, HLY.out⟩
            go_wp2_with fail
            all_goals
              go_roundg (2 * (XS.length - fx.length))
              case rel => first | exact ⟨bs1, fx, [], by simp, by simp, HEN⟩ | exact ⟨bs1, fx, [], by simp, by simp, HEN2⟩
              case measure => have := HGB.out; omega
          · have hnl : 0 < nw.length := List.length_pos_iff.2 hnw
            obtain ⟨rg, rc, hrs, hrb, -⟩ := HRR.out.row.block (by omega)
            injection hrs with e1 e2 e3
            subst e1
            subst e3
            have HEN : Hid (Rr w wr XS mb bw wb vs i (.slice (some ⟨rg, 0, none⟩) fx.length cf1) bs1 fx nw [] (.slice (some ⟨rg, fs.length, none⟩) nw.length nw.length) nw) := Lib.hid ⟨HRR.out.web, HRR.out.fr, HRR.out.mbe, HRR.out.met, HRR.out.row, ⟨some ⟨rg, fs.length, none⟩, nw.length, rfl, .inr ⟨rg, fs.length, rfl, by omega, fun j x hj => by
              have hjl : j < nw.length := (List.getElem?_eq_some_iff.1 hj).1
              have h1 := (or_cell (n := fx.length) (c := cf1) HRR.out.row rfl (fs.length + j) (by omega)).1
              rw [h1, HFX.out, List.getD_eq_getElem?_getD, List.getElem?_append_right (by omega), Nat.add_sub_cancel_left, hj]; rfl, fun _ => by omega⟩⟩, HLY.out⟩
            have HNL : Hid (nw.length ≤ 1000) := Lib.hid (by have := HFL1.out; omega)
            have hnl' : (0 : Int) < (nw.length : Int) := by omega
            rw [hfl] at HEN HFN hcap hcap' hfl'
            have hfl2 := hfl
            go_wp2_with fail
            all_goals
              go_roundg (2 * (XS.length - fx.length) + 1)
              case rel => exact ⟨bs1, fx, nw, by rw [if_neg hnw]; exact Nat.le_refl _, HNL.out, by rw [hfl2] at *; exact HEN⟩
              case measure => have := HGB.out; have := HFN.out; omega
end Tj
end Go.Proofs.YtmhpaacjioeknaaGreat
