/-
  DERIVED. From the rows that were woven to the web that is searched; the walk of From.
-/
import Derived.Test.YtnkimfbdcghgpaaDoorXq
namespace Go.Proofs.YtnkimfbdcghgpaaDoor
open Go.RowKit Go.Sort

theorem web_inE (es : List Ed) (n : Nat) : InE (web es n) := by
  intro c e he
  rw [web_len]
  by_cases hc : c < n
  · rw [getD_at (web_at hc)] at he
    unfold row at he
    have h1 := (List.mem_filter.1 he).2
    simp only [Bool.and_eq_true, decide_eq_true_eq] at h1
    unfold okE at h1
    have h2 := (Bool.and_eq_true _ _ ▸ h1.1).2
    exact isPt_iff.1 h2
  · rw [List.getD_eq_getElem?_getD, List.getElem?_eq_none (by rw [web_len]; omega)] at he
    cases he
/-- What was woven can be searched. -/
theorem Wes.wv {w : World} {B b : Nat} {vs : List Value} {XS : List (List Ed)} (h : Wes w B b vs XS) : Wv w b (fun k => k < w.heap.size) vs XS := by
  refine ⟨h.blk, h.len, fun t v xs hv hx => ?_⟩
  have h1 := h.row t v xs hv hx
  rcases h1.2 with ⟨rfl, h0⟩ | ⟨g, cap, cur, rfl, hb, hg, hn, hc, hs, ht⟩
  · have : xs = [] := List.length_eq_zero_iff.1 h0
    subst this
    exact ⟨none, 0, rfl, Nat.le_refl _, .inl rfl⟩
  · refine ⟨_, cap, rfl, hn, .inr ⟨g, 0, rfl, ?_, (Array.getElem?_eq_some_iff.1 hg).1, fun k e hk j u hu => ?_⟩⟩
    · have := h.lt; omega
    · have hkl := (List.getElem?_eq_some_iff.1 hk).1
      have hj : j < 14 := by
        have := (List.getElem?_eq_some_iff.1 hu).1
        simpa [Ed.cs] using this
      have hce : (ecells xs)[k * 14 + j]? = some u := by
        have e1 : xs = xs.take k ++ (e :: xs.drop (k + 1)) := by
          rw [← (List.getElem?_eq_some_iff.1 hk).2, List.getElem_cons_drop, List.take_append_drop]
        rw [e1, ecells_app]
        have e2 : (ecells (xs.take k)).length = k * 14 := by rw [ecells_len, List.length_take]; congr 1; omega
        rw [List.getElem?_append_right (by omega), e2, show k * 14 + j - k * 14 = j by omega]
        show (e.cs.toList ++ ecells (xs.drop (k + 1)))[j]? = some u
        rw [List.getElem?_append_left (by simp [Ed.cs]; exact hj)]
        exact hu
      have h2 := World.ownsRow.cellAt h1 (k * 14 + j) (by omega)
      rw [show 0 + k * 14 + j = k * 14 + j by omega, h2]
      exact hce
theorem info4 : (Tryd.prog.info? 4).map (fun i => (i.zero, i.size, i.bytes)) = some (some (.bool false), 1, 1) := by kernel_rfl
theorem made_bools (w : World) (n : Nat) : Bk (w.alloc (.cells (madeCells #[.bool false] n) 4)) w.heap.size 4 ((List.replicate n false).map Value.bool).toArray := by
  have h1 : madeCells #[.bool false] n = ((List.replicate n false).map Value.bool).toArray := by
    apply Array.ext'
    rw [toList_madeCells_one, List.map_replicate]
  rw [← h1]; exact heap_alloc_new w _
/-- Where one has been, as far as it is written down. -/
def told (st : List Int) (k : Nat) : List Bool := (st.take k).map (fun x => decide (0 ≤ x)) ++ List.replicate (st.length - k) false
theorem told_zero (st : List Int) : told st 0 = List.replicate st.length false := by simp [told]
theorem told_len (st : List Int) (k : Nat) (h : k ≤ st.length) : (told st k).length = st.length := by simp [told]; omega
theorem told_set (st : List Int) (k : Nat) (x : Int) (hx : st[k]? = some x) : (told st k).set k (decide (0 ≤ x)) = told st (k + 1) := by
  have hl := (List.getElem?_eq_some_iff.1 hx).1
  unfold told
  rw [List.set_append_right _ _ (by simp; omega), List.take_succ_eq_append_getElem hl, List.map_append, List.append_assoc]
  congr 1
  rw [show k - ((st.take k).map (fun x => decide (0 ≤ x))).length = 0 by simp; omega, show st.length - k = (st.length - (k + 1)) + 1 by omega, List.replicate_succ, List.set_cons_zero]
  rw [(List.getElem?_eq_some_iff.1 hx).2]; rfl
theorem told_all (st : List Int) (c : Nat) : (told st st.length)[c]? = some true ↔ vis st c := by
  unfold told vis
  simp only [List.take_length, Nat.sub_self, List.replicate_zero, List.append_nil, List.getElem?_map]
  cases h : st[c]? with
  | none => simp
  | some x => simp
set_option maxHeartbeats 1600000 in
set_option maxRecDepth 100000 in
theorem from_any (g : Gh) (n : Nat) (hp : g.pts = n) (h1 : 1 ≤ n) (h2 : n ≤ 2000) (he : g.es.length ≤ 4000) (x : Nat) (w : World) (hl : ELies w x g.ep g.es) (s0 : Nat) (hs : s0 < n) :
    Calls Tryd.prog 6 #[.agg g.cs, .int .i64 s0] w fun e w' => ∃ (rb : Nat) (bs : List Bool), e = .returned (.slice (some ⟨rb, 0, none⟩) n n) ∧ Bk w' rb 4 (bs.map Value.bool).toArray ∧ bs.length = n ∧ (∀ c, bs[c]? = some true ↔ Rs (web g.es n) s0 c) ∧ Below w.heap.size w w' := by
  have HK : Hid (Bk (w.alloc (.cells g.cs 26)) w.heap.size 26 g.cs) := Lib.hid (heap_alloc_new _ _)
  have HB : Hid (Below w.heap.size w (w.alloc (.cells g.cs 26))) := Lib.hid ((Below.refl _ _).alloc (Nat.le_refl _) _)
  have HL : Hid (ELies (w.alloc (.cells g.cs 26)) x g.ep g.es) := Lib.hid (hl.gr ((Gr.refl w (fun _ => False)).alloc _) (fun _ _ _ _ h => h))
  have HWO := Lib.hid (woven_any g n hp h1 h2 he x (w.alloc (.cells g.cs 26)) HL.out)
  obtain ⟨ir, hir, hz0, hz1, hz2⟩ := info_parts info4
  have HIR := Lib.hid (And.intro hir (And.intro hz0 (And.intro hz1 hz2)))
  have HN := Lib.hid h2
  clear hir hz0 hz1 hz2 hp he hl HL
  go_enter Tryd.func6, Tryd.ntmps6
  go_wp2_with (first
    | ((with_reducible show wpList _ _ _ (Oper.mk _ (Op.load 26 _) _ _ _ _ :: _) _ _); refine wpList_load_bk rfl 26 _ rfl w.heap.size 26 g.cs rfl _ HK.out Tryd.underlying26 rfl size26 ?_)
    | (go_at_call 13; refine (HWO.out).mono ?_; rintro en w2 ⟨B, b, vs, rfl, hwes, hb, hbb⟩; have HWE := Lib.hid hwes; have HB2 : Hid (Below w.heap.size w w2) := Lib.hid (HB.out.trans (hb.mono HB.out.size)); have HBB : Hid (w.heap.size ≤ b) := Lib.hid (Nat.le_trans HB.out.size hbb); clear hwes hb hbb)
    | (at_make; refine wpList_make_row _ rfl _ _ 35 rfl 4 ir (.bool false) Tryd.underlying35 HIR.out.1 HIR.out.2.1 HIR.out.2.2.1 rfl .i64 .i64 n rfl rfl (by rw [HIR.out.2.2.2]; have := HN.out; omega) (by have := HN.out; omega) ?_)
    | fail)
  have HWV : Hid (Wv (w2.alloc (.cells (madeCells #[.bool false] n) 4)) b (fun k => k < (w2.alloc (.cells (madeCells #[.bool false] n) 4)).heap.size) vs (web g.es n)) := Lib.hid ((HWE.out.wv.alloc _).mono fun k hk => by simp; omega)
  have HC := Lib.hid (made_bools w2 n)
  have HBL : Hid (b < w2.heap.size) := Lib.hid HWE.out.blk.lt
  have HCB : Hid (w.heap.size ≤ w2.heap.size) := Lib.hid HB2.out.size
  have HB3 : Hid (Below w.heap.size w (w2.alloc (.cells (madeCells #[.bool false] n) 4))) := Lib.hid (HB2.out.alloc HB2.out.size _)
  obtain ⟨cb, hcb⟩ : ∃ cb, cb = w2.heap.size := ⟨_, rfl⟩
  rw [← hcb] at HC HBL HCB ⊢
  generalize w2.alloc (.cells (madeCells #[.bool false] n) 4) = w3 at HWV HC HB3 ⊢
  have hsp := steps_any w3 b n vs HWV.out (by rw [web_len]; exact h2) (web_inE g.es n) s0 (by rw [web_len]; exact hs)
  rw [web_len] at hsp
  refine hsp.mono ?_
  rintro en w4 ⟨rb, st, rfl, hrb, hrow, hlen, hvis, hgr⟩
  have HC4 : Hid (Bk w4 cb 4 ((told st 0).map Value.bool).toArray) := Lib.hid (by rw [told_zero, hlen]; exact hgr.bk HC.out (by have := HBL.out; omega))
  have HB4 : Hid (Below w.heap.size w w4) := Lib.hid ⟨hgr.os.trans HB3.out.os, hgr.tape.trans HB3.out.tape, hgr.output.trans HB3.out.output, Nat.le_trans HB3.out.size hgr.size, fun i hi => (hgr.block i (Nat.lt_of_lt_of_le hi HB3.out.size) (by have := HBB.out; omega)).trans (HB3.out.block i hi)⟩
  have HR4 := Lib.hid hrow
  have HV := Lib.hid hvis
  have HLN := Lib.hid hlen
  have hne : rb ≠ cb := by have := HC.out.lt; omega
  clear hrb hrow hvis hgr hsp hcb hlen HWV HC HB3 HWE HB2 HB HK HWO HIR ir
  go_wp2_with fail
  go_loopw [18] (fun sk wr => ∃ k : Nat, sk = .int .i64 k ∧ k ≤ n ∧ Hid (Bk wr cb 4 ((told st k).map Value.bool).toArray) ∧ Hid (Bk wr rb 3 (st.map iv).toArray) ∧ Hid (Below w.heap.size w wr)) (fun sk _ => n - (Lib.intOf sk).toNat)
  case atStart => exact ⟨0, rfl, Nat.zero_le _, HC4, HR4, HB4⟩
  case round =>
    clear HC4 HR4 HB4
    obtain ⟨k, rfl, hk, HC, HR, HBW⟩ := hrel
    by_cases hlt : k < n
    · obtain ⟨y, hy⟩ : ∃ y, st[k]? = some y := ⟨_, List.getElem?_eq_getElem (by rw [HLN.out]; exact hlt)⟩
      have HY := Lib.hid hy
      have hlt' : (k : Int) < (n : Int) := by omega
      have b0 : wr.cell? ⟨rb, k, none⟩ = some (.int .i64 y) := by rw [HR.out.cell]; simp [hy, iv]
      obtain ⟨z, hz⟩ : ∃ z, (told st k)[k]? = some z := ⟨_, List.getElem?_eq_getElem (by rw [told_len st k (by rw [HLN.out]; exact hk), HLN.out]; exact hlt)⟩
      have b1 : wr.cell? ⟨cb, k, none⟩ = some (.bool z) := by rw [HC.out.cell]; simp [hz]
      have f1 : wr.frozen? ⟨cb, k, none⟩ = false := HC.out.frozen k
      clear hy hz
      go_wp2_with fail
      go_roundw
      case rel =>
        refine ⟨k + 1, by go_num, by omega, Lib.hid ?_, Lib.hid (HR.out.far (p := ⟨cb, k, none⟩) hne _), Lib.hid (HBW.out.setCell (p := ⟨cb, k, none⟩) HCB.out _)⟩
        have h1 := HC.out.set_ k (.bool (decide (0 ≤ y)))
        rw [List.setIfInBounds_toArray, ← List.map_set, told_set st k y HY.out] at h1
        exact h1
      case measure => simp [Lib.intOf]; omega
    · have hkn : k = n := by omega
      subst hkn
      go_wp2_with fail
      go_ret
      refine ⟨cb, told st k, rfl, HC.out, by rw [told_len st k (by rw [HLN.out]; exact Nat.le_refl _), HLN.out], fun c => ?_, HBW.out⟩
      have h1 := told_all st c
      rw [HLN.out] at h1
      exact h1.trans (HV.out c)
end Go.Proofs.YtnkimfbdcghgpaaDoor
