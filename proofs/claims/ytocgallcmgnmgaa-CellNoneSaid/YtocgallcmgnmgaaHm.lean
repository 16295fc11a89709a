/-
  DERIVED. The walk of held.places, which writes into a stretch of an elder row.
-/
import Derived.Test.YtocgallcmgnmgaaHl
import Derived.Laws.CopyOwn
namespace Go.Proofs.Ytocgallcmgnmgaa
open Go.RowKit Go.Maps

theorem i3 : ∃ i : TypeInfo, Try.prog.info? 3 = some i ∧ i.zero = some (.int .i64 0) ∧ i.size = 1 ∧ i.bytes = 8 := by
  have h : (Try.prog.info? 3).map (fun i => (i.zero, i.size, i.bytes)) = some (some (.int .i64 0), 1, 8) := by kernel_rfl
  obtain ⟨i, hi, hz⟩ := Option.map_eq_some_iff.1 h
  simp only [Prod.mk.injEq] at hz
  exact ⟨i, hi, hz.1, hz.2.1, hz.2.2⟩
theorem size3 : (Try.prog.info? 3).map (·.size) = some 1 := by kernel_rfl
theorem make44 (F : Nat) (w : World) (h : F ≤ 2000000) : (Instr.makeSlice 44 (.int .i64 F) (.int .i64 F)).run Try.prog w = .ok (.slice (some ⟨w.heap.size, 0, none⟩) F F) (w.alloc (.cells (ints (zeros F)).toArray 3)) := by
  obtain ⟨i, hi, hz, hs, hb⟩ := i3
  rw [← made_zeros]
  exact run_make_row (P := Try.prog) 44 3 i (.int .i64 0) Try.underlying44 hi hz hs rfl .i64 .i64 F (by rw [hb]; omega) (by omega) w
theorem owns_below {w w2 : World} {m F : Nat} {D : DataW Unit} (h : w.ownsMap Try.prog 3 (plainElem Try.prog 3) m F D) (hm : m < w.heap.size) (hb : Below w.heap.size w w2) : w2.ownsMap Try.prog 3 (plainElem Try.prog 3) m F D := by
  obtain ⟨es, clock, hbm, rest⟩ := h
  exact ⟨es, clock, (hb.block m hm).trans hbm, rest⟩
theorem owns_gr {w w2 : World} {S : Nat → Prop} {m F : Nat} {D : DataW Unit} (h : w.ownsMap Try.prog 3 (plainElem Try.prog 3) m F D) (hg : Gr w w2 S) (hS : ¬ S m) : w2.ownsMap Try.prog 3 (plainElem Try.prog 3) m F D := by
  obtain ⟨es, clock, hbm, rest⟩ := h
  exact ⟨es, clock, (hg.block m (Array.getElem?_eq_some_iff.1 hbm).1 hS).trans hbm, rest⟩
/-- A row of numbers, a stretch of it shown. -/
def rowP (pre l post : List Int) : Array Value := (ints (pre ++ (l ++ post))).toArray
theorem rowP_get (pre l post : List Int) (k : Nat) (h : k < l.length) : (rowP pre l post)[pre.length + k]? = (ints l)[k]? := by
  unfold rowP ints
  rw [List.getElem?_toArray, List.getElem?_map, List.getElem?_append_right (by omega), Nat.add_sub_cancel_left, List.getElem?_append_left h, List.getElem?_map]
theorem rowP_set (pre l post : List Int) (k : Nat) (x : Int) (h : k < l.length) : (rowP pre l post).setIfInBounds (pre.length + k) (.int .i64 x) = rowP pre (l.set k x) post := by
  unfold rowP ints
  rw [List.setIfInBounds_toArray, ← List.map_set, List.set_append_right _ _ (by omega), Nat.add_sub_cancel_left, List.set_append_left _ _ h]
theorem mid_set (F k : Nat) (c : PC) (left : Lit → Bool) : (mid F c left).set k (c.at k) = mid F c (fun z => left z && !z.sameKey (IK k)) := by
  have h := mid_step F k c left
  have h2 : ints ((mid F c left).set k (c.at k)) = ints (mid F c (fun z => left z && !z.sameKey (IK k))) := by
    have : (ints ((mid F c left).set k (c.at k))).toArray = (ints (mid F c (fun z => left z && !z.sameKey (IK k)))).toArray := by
      rw [← h]; unfold ints; rw [List.setIfInBounds_toArray, List.map_set]
    simpa using this
  unfold ints at h2
  exact (List.map_inj_right (fun a b e => by injection e)).1 h2
theorem splice_mid {α : Type} (pre l post cs : List α) (h : cs.length ≤ l.length) : splice (pre ++ (l ++ post)) pre.length cs = pre ++ (splice l 0 cs ++ post) := by
  unfold splice
  rw [List.take_left', List.drop_append, List.take_zero, List.nil_append, Nat.zero_add]
  · rw [List.drop_eq_nil_of_le (by omega), List.nil_append, Nat.add_sub_cancel_left, List.drop_append_of_le_length h, List.append_assoc]
  · rfl
/-- A copy into an elder row. -/
theorem wpList_copy_gr {P : Program} {w : World} {ops : Array Oper} {rest : List Oper} {o : Oper} {a : Act} {Q : Exit → Act → World → Prop} (hgd : o.guard = none) (d s : Operand) (dT sT : TypeId)
    (ho : o.op = .call { callee := .builtin .copy, args := #[d, s], argTypes := #[dT, sT] }) (elem : TypeId) (hu : P.underlying dT = some (.slice elem)) (hsz : (P.info? elem).map (·.size) = some 1)
    (dp sp : Option Addr) (dLen dCap sLen sCap : Nat) (hd : a.eval d = .slice dp dLen dCap) (hs : a.eval s = .slice sp sLen sCap)
    (g off : Nat) (cur : List Value) (t : TypeId) (hg : Bk w g t cur.toArray) (cs : List Value) (hn : cs.length = Nat.min sLen dLen)
    (hpos : 0 < cs.length → dp = some ⟨g, off, none⟩ ∧ ∃ ad, sp = some ad ∧ ∀ j v, cs[j]? = some v → w.cell? (ad.add j) = some v)
    (hfit : off + cs.length ≤ cur.length) (h1 : ∀ v ∈ cs, v.oneCell' = true)
    (h : ∀ w', Hid (Bk w' g t (splice cur off cs).toArray) → Hid (Gr w w' (fun k => k = g)) → wpList P ops Q rest (a.put o.dst (goInt cs.length)) w') :
    wpList P ops Q (o :: rest) a w := by
  by_cases h0 : cs.length = 0
  · obtain rfl : cs = [] := List.eq_nil_of_length_eq_zero h0
    refine wpList_copy_nothing hgd d s dT sT ho elem hu hsz dp sp dLen dCap sLen sCap hd hs (by simpa using hn.symm) ?_
    exact h w (show _ = _ by have : w.heap[g]? = _ := hg; simpa [splice] using this) (Lib.hid (Gr.refl _ _))
  · obtain ⟨rfl, ad, rfl, hsrc⟩ := hpos (by omega)
    refine wpList_copy_own hgd d s dT sT ho elem hu hsz g off dLen dCap ad sLen sCap hd hs cur.toArray t hg cs hn hsrc (by simpa using hfit) h1 ?_
    exact h _ (show _ = _ by simpa [splice] using setRow_heap w g _ _ t _ hg) (Lib.hid ⟨rfl, rfl, rfl, by simp [World.setRow], fun k _ hk => setRow_other w g k _ hk⟩)
def plP (w : World) (B : Nat) (pre post : List Int) (c : PC) (e : Ending) (w' : World) : Prop :=
  e = .returned (.tuple #[]) ∧ Bk w' B 3 (rowP pre c.to post) ∧ Gr w w' (fun k => k = B)
theorem rowP_cell {w : World} {B F : Nat} {pre post : List Int} {c : PC} {left : Lit → Bool} (h : Bk w B 3 (rowP pre (mid F c left) post)) (k : Nat) (hk : k < F) : ∃ u, w.cell? ⟨B, pre.length + k, none⟩ = some u := by
  rw [h.cell, rowP_get _ _ _ _ (by rw [mid_len]; exact hk)]
  unfold ints
  rw [List.getElem?_map, mid_get F c left k hk]
  exact ⟨_, rfl⟩

set_option maxHeartbeats 3200000 in
set_option maxRecDepth 100000 in
theorem places_any (F g o B : Nat) (c : PC) (far : Option Nat) (pre post : List Int) (w : World) (hr : w.rangeAt g o (hcells c far)) (hg : g < w.heap.size) (hgB : g ≠ B) (hfB : far ≠ some B) (hs : (HeldK F).sub w c far)
    (hB : Bk w B 3 (rowP pre (zeros F) post)) :
    Calls Try.prog 28 #[.pointer (some ⟨g, o, none⟩), .slice (some ⟨B, pre.length, none⟩) F F] w (plP w B pre post c) := by
  have HR1 : Hid (Bk w B 3 (ints pre ++ (ints (zeros F) ++ ints post)).toArray) := Lib.hid (by unfold rowP at hB; unfold ints at hB ⊢; simpa using hB)
  have hl : c.to.length = F := hs.1
  have hpre : (ints pre).length = pre.length := by simp [ints]
  have hcopy : ∀ j v, (ints ((List.range (Nat.min 8 F)).map c.at))[j]? = some v → w.cell? ((⟨g, o + 2, none⟩ : Addr).add j) = some v := by
    intro j v hj
    unfold ints at hj
    rw [List.getElem?_map, List.getElem?_map] at hj
    have hj8 : j < Nat.min 8 F := by
      rcases Nat.lt_or_ge j (Nat.min 8 F) with h | h
      · exact h
      · rw [List.getElem?_eq_none (by simpa using h)] at hj; simp at hj
    have h8 : j < 8 := Nat.lt_of_lt_of_le hj8 (Nat.min_le_left _ _)
    rw [List.getElem?_range hj8] at hj
    have hv : v = .int .i64 (c.at j) := by simpa using hj.symm
    rw [Addr.add_mid, hv, Nat.add_assoc]
    exact hr _ _ (hcells_near c far j h8)
  have HC := Lib.hid hcopy
  have HCL : Hid ((ints ((List.range (Nat.min 8 F)).map c.at)).length = Nat.min 8 F) := Lib.hid (by simp [ints])
  have hcl : (ints ((List.range (Nat.min 8 F)).map c.at)).length ≤ (ints (zeros F)).length := by simp [ints, zeros]; exact Nat.min_le_right _ _
  have HFIT : Hid (pre.length + (ints ((List.range (Nat.min 8 F)).map c.at)).length ≤ (ints pre ++ (ints (zeros F) ++ ints post)).length) := Lib.hid (by rw [List.length_append, List.length_append, hpre]; omega)
  have H1 : Hid (∀ v ∈ ints ((List.range (Nat.min 8 F)).map c.at), v.oneCell' = true) := Lib.hid (by intro v hv; obtain ⟨x, _, rfl⟩ := List.mem_map.1 hv; rfl)
  have hspl := splice_mid (ints pre) (ints (zeros F)) (ints post) (ints ((List.range (Nat.min 8 F)).map c.at)) hcl
  rw [hpre] at hspl
  have he10 : w.cell? ⟨g, o + 10, none⟩ = some (.map far) := hr 10 _ rfl
  have HG : Hid (∀ w2, Gr w w2 (fun k => k = B) → w2.cell? ⟨g, o + 10, none⟩ = some (.map far)) := Lib.hid (fun w2 h => (World.cell?_of_block (a := ⟨g, o + 10, none⟩) (h.block g hg hgB)).trans he10)
  have HL := Lib.hid hl
  have HMS : ∀ left, (∀ j, 8 ≤ j → j < F → left (IK j) = false → c.at j = 0) → splice (ints pre ++ (ints (zeros F) ++ ints post)) pre.length (ints ((List.range (Nat.min 8 F)).map c.at)) = ints (pre ++ (mid F c left ++ post)) := fun left h => by
    rw [hspl, mid_start F c left h]; unfold ints; rw [List.map_append, List.map_append]
  cases far with
  | none =>
    have hz8 : ∀ k, 8 ≤ k → c.at k = 0 := hs.2.2
    have HM : Hid (splice (ints pre ++ (ints (zeros F) ++ ints post)) pre.length (ints ((List.range (Nat.min 8 F)).map c.at)) = ints (pre ++ (c.to ++ post))) := Lib.hid ((HMS (fun _ => false) (fun j h8 _ _ => hz8 j h8)).trans (by rw [mid_end F c hl]))
    clear hB hcopy hs hr hg hl hz8 he10 hspl HMS hcl hpre
    go_enter Try.func28, Try.ntmps28
    go_wp2_with (first | (with_reducible refine wpList_copy_gr rfl (.tmp 6) (.tmp 10) 44 44 rfl 3 Try.underlying44 size3 (some ⟨B, pre.length, none⟩) (some ⟨g, o + 2, none⟩) F F 8 8 rfl rfl B pre.length (ints pre ++ (ints (zeros F) ++ ints post)) 3 HR1.out _ HCL.out (fun _ => ⟨rfl, _, rfl, HC.out⟩) HFIT.out H1.out ?_; intro w2 hw2 hb2; have h10 : w2.cell? ⟨g, o + 10, none⟩ = some (.map none) := HG.out w2 hb2.out; have hrg := run_range_nilMap (P := Try.prog) w2 57 3 3 Try.underlying57; have hnx : ∀ ty, (Instr.next (.pointer (some ⟨w2.heap.size, 0, none⟩)) false ty).run Try.prog (w2.alloc (.mapIter none 0 #[] 0)) = _ := fun ty => run_next_nilMap _ ty 0 0 #[]))
    refine wp_loop_rounds 1 ?_
    rw [rounds_succ]
    go_wp2
    go_end0
    have hw := hw2.out
    rw [HM.out] at hw
    exact ⟨rfl, (MapKept.heap_alloc w2 _).2 _ (Array.getElem?_eq_some_iff.1 hw).1 |>.trans hw, hb2.out.alloc _⟩
  | some m =>
    obtain ⟨D, hown, hD⟩ := hs.2.2
    have hmB : m ≠ B := fun e => hfB (by rw [e])
    have hstart : ∀ j, 8 ≤ j → j < F → has D (IK j) = false → c.at j = 0 := fun j h8 hj hh => by
      have := hD.1 j h8 hj
      rw [not_has_at hh] at this
      exact (lit_inj this).symm
    have HM := Lib.hid (HMS (has D) hstart)
    have HO := Lib.hid hown
    have HD := Lib.hid hD
    have HMB := Lib.hid hmB
    have HML := Lib.hid hown.lt
    clear hB hcopy hs hr hg hl he10 hown hD hstart hspl HMS hcl hpre hmB hgB hfB
    go_enter Try.func28, Try.ntmps28
    go_wp2_with (first | (with_reducible refine wpList_copy_gr rfl (.tmp 6) (.tmp 10) 44 44 rfl 3 Try.underlying44 size3 (some ⟨B, pre.length, none⟩) (some ⟨g, o + 2, none⟩) F F 8 8 rfl rfl B pre.length (ints pre ++ (ints (zeros F) ++ ints post)) 3 HR1.out _ HCL.out (fun _ => ⟨rfl, _, rfl, HC.out⟩) HFIT.out H1.out ?_; intro w2 hw2 hb2; have h10 : w2.cell? ⟨g, o + 10, none⟩ = some (.map (some m)) := HG.out w2 hb2.out; have HO2 := Lib.hid (owns_gr HO.out hb2.out HMB.out)) | (at_range; refine wpList_range_own _ rfl _ 57 rfl 3 3 law3 Try.underlying57 _ m F D rfl HO2.out ?_; intro w0 hrg0 hg0 hs0; have HRG := Lib.hid hrg0; have HG0 := Lib.hid hg0; clear hrg0 hg0 hs0))
    try go_frame
    have hbk : Bk w2 B 3 (rowP pre (mid F c (has D)) post) := by
      have := hw2.out
      rw [HM.out] at this
      exact this
    have HBK : Hid (Bk w0 B 3 (rowP pre (mid F c (has D)) post)) := Lib.hid ((HG0.out.block _ hbk.lt (by simp)).trans hbk)
    have HB0 : Hid (Gr w w0 (fun k => k = B)) := Lib.hid (hb2.out.grown HG0.out (fun j _ hj => by cases hj))
    have HR2 : Hid (w.heap.size ≤ w2.heap.size) := Lib.hid hb2.out.size
    have HRN : Hid (B ≠ w2.heap.size) := Lib.hid (by have := hbk.lt; omega)
    clear hbk hw2 h10
    generalize w2.heap.size = r at HRG HR2 HRN ⊢
    go_loopw [4, 5] (fun _ _ wr => ∃ (left : Lit → Bool) (cnt : Nat), Hid (wr.ranges Try.prog 3 (plainElem Try.prog 3) m r F D left cnt) ∧ Hid (Bk wr B 3 (rowP pre (mid F c left) post)) ∧ Hid (Gr w wr (fun k => k = B)))
      (fun _ _ wr => wr.rangeLeft m r)
    case atStart => exact ⟨_, _, HRG, HBK, HB0⟩
    case round =>
      obtain ⟨left, cnt, hrg, hbk, hnx⟩ := hrel
      go_wp2_with (at_next; refine wpList_next_ranges_ii _ rfl _ rfl 3 3 .i64 .i64 law3 Try.underlying3 Try.underlying3 m r F D left cnt rfl hrg.out ?_ ?_)
      · intro hc0 hl0
        have HL0 := Lib.hid hl0
        clear hc0 hl0
        go_wp2
        go_end0
        have e : left = fun _ => false := funext HL0.out
        have hb := hbk.out
        rw [e, mid_end F c HL.out] at hb
        exact ⟨rfl, hb, hnx.out⟩
      · intro x cc w1 cnt1 hwx hwc hlx hat hrg1 hlt hg1 hs1 hen
        obtain ⟨k, h8, hkF, hxk⟩ := HD.out.2 _ (left_has hrg.out _ hlx)
        obtain rfl : x = (k : Int) := by unfold IK at hxk; injection hxk
        have hck : cc = c.at k := lit_inj ((hat zI).symm.trans (HD.out.1 k h8 hkF))
        subst hck
        have HRG1 := Lib.hid hrg1
        have hbk1 : Bk w1 B 3 (rowP pre (mid F c left) post) := (hg1.block _ hbk.out.lt (by intro e; injection e with e; exact HRN.out e)).trans hbk.out
        have hf : w1.frozen? ⟨B, pre.length + k, none⟩ = false := hbk1.frozen _
        obtain ⟨u0, hcl⟩ := rowP_cell hbk1 k hkF
        have HBK2 : Hid (Bk (w1.setCell ⟨B, pre.length + k, none⟩ (.int .i64 (c.at k))) B 3 (rowP pre (mid F c (fun z => left z && !z.sameKey (IK k))) post)) := Lib.hid (by
          have := hbk1.set_ (pre.length + k) (.int .i64 (c.at k))
          rwa [rowP_set _ _ _ _ _ (by rw [mid_len]; exact hkF), mid_set F k c left] at this)
        have HNX : Hid (Gr w (w1.setCell ⟨B, pre.length + k, none⟩ (.int .i64 (c.at k))) (fun k => k = B)) := Lib.hid ((hnx.out.grown hg1 (fun j hj e => by injection e with e; subst e; have := HR2.out; omega)).setCell (fun _ => rfl) _)
        have HRG2 : Hid ((w1.setCell ⟨B, pre.length + k, none⟩ (.int .i64 (c.at k))).ranges Try.prog 3 (plainElem Try.prog 3) m r F D (fun z => left z && !z.sameKey (IK k)) cnt1) := Lib.hid (hrg1.kept (grownBy_setC w1 _ _) (by intro e; injection e with e; exact HMB.out e) (by intro e; injection e with e; exact HRN.out (Eq.symm e)))
        have HLT : Hid ((w1.setCell ⟨B, pre.length + k, none⟩ (.int .i64 (c.at k))).rangeLeft m r < wr.rangeLeft m r) := Lib.hid (by rw [HRG2.out.left_eq, hrg.out.left_eq]; exact hlt)
        have hk0 : (0 : Int) ≤ (k : Int) := Int.natCast_nonneg _
        have hkF' : (k : Int) < (F : Int) := by omega
        clear hwx hwc hlx hat hrg1 hlt hg1 hs1 hxk hbk1
        go_wp2_with fail
        go_roundw
        case rel => exact ⟨_, cnt1, HRG2, HBK2, HNX⟩
        case measure => exact HLT.out
end Go.Proofs.Ytocgallcmgnmgaa
