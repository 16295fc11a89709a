/-
  DERIVED. The document's heap: There, fault, New, Get.
-/
import Derived.Test.YtocgallcmgnmgaaHr
namespace Go.Proofs.Ytocgallcmgnmgaa
open Go.RowKit Go.Maps

abbrev RefA (F : Nat) (v : Value) : Array Value := #[.int .i64 F, v, .bool true]
def RetB (w : World) (b : Bool) (e : Ending) (w' : World) : Prop := e = .returned (.bool b) ∧ Below w.heap.size w w'
def RetI (w : World) (n : Int) (e : Ending) (w' : World) : Prop := e = .returned (.int .i64 n) ∧ Below w.heap.size w w'
def RetII (w : World) (a b : Int) (e : Ending) (w' : World) : Prop := e = .returned (.tuple #[.int .i64 a, .int .i64 b]) ∧ Below w.heap.size w w'
theorem alloc_below (w : World) (o : Obj) : Below w.heap.size w (w.alloc o) := (Below.refl _ _).alloc (Nat.le_refl _) _

set_option maxHeartbeats 800000 in
set_option maxRecDepth 100000 in
theorem there_any (F n cap : Nat) (p : Option Addr) (x : Int) (w : World) : Calls Try.prog 32 #[.agg (RefA F (.slice p n cap)), .int .i64 x] w (RetB w (isCell n x)) := by
  have HB := Lib.hid (alloc_below w (.cells (RefA F (.slice p n cap)) 29))
  by_cases h1 : 1 ≤ x
  · have hb : decide (1 ≤ x) = true := decide_eq_true h1
    have HH := Lib.hid hb
    clear h1
    go_enter Try.func32, Try.ntmps32
    go_wp2_with fail
    go_ret
    exact ⟨by unfold isCell; rw [HH.out]; simp, HB.out⟩
  · have hb : decide (1 ≤ x) = false := decide_eq_false h1
    have HH := Lib.hid hb
    clear h1
    go_enter Try.func32, Try.ntmps32
    go_wp2_with fail
    go_ret
    exact ⟨by unfold isCell; rw [HH.out]; simp, HB.out⟩
/-- Cells of the document's heap. -/
def Out (F : Nat) (w : World) (N : Nat → Prop) (v : Value) (cs : List PC) : Prop := (CellK F).Lie w N v cs
theorem Out.gr {F : Nat} {w w' : World} {N : Nat → Prop} {v : Value} {cs : List PC} (h : Out F w N v cs) (hg : Gr w w' (fun k => ¬ N k)) : Out F w' N v cs := Kin.Lie.gr h hg (fun _ hk h => h hk)
theorem Out.sl {F : Nat} {w : World} {N : Nat → Prop} {v : Value} {cs : List PC} (h : Out F w N v cs) {i : Nat} {x : PC} (hi : cs[i]? = some x) :
    ∃ g cap cur fm, v = .slice (some ⟨g, 0, none⟩) cs.length cap ∧ (CellK F).At w N g cap cur fm cs := by
  rcases h.2 with ⟨_, rfl⟩ | ⟨g, cap, cur, fm, hv, ha⟩
  · simp at hi
  · exact ⟨g, cap, cur, fm, hv, ha⟩
set_option maxHeartbeats 1600000 in
set_option maxRecDepth 100000 in
theorem fault_any (F : Nat) (N : Nat → Prop) (cs : List PC) (v : Value) (c : Int) (w : World) (h : Out F w N v cs) (hn : cs.length ≤ 2000000) : Calls Try.prog 31 #[.agg (RefA F v), .int .i64 c] w (RetI w (faultC cs c)) := by
  obtain ⟨p, cap, rfl⟩ := h.form
  have hb0 := alloc_below w (.cells (RefA F (.slice p cs.length cap)) 29)
  have HB := Lib.hid hb0
  have ht := fun w' => there_any F cs.length cap p c w'
  rcases fault_ways cs c with ⟨hno, hf⟩ | ⟨i, x, rfl, hi, hil, hw⟩
  · rw [hf]
    rw [hno] at ht
    have HT := Lib.hid ht
    clear h ht hno hf hb0
    go_enter Try.func31, Try.ntmps31
    go_wp2_with fail
    generalize w.alloc (.cells (RefA F (.slice p cs.length cap)) 29) = w1 at HB ⊢
    refine (HT.out w1).mono ?_; rintro e w2 ⟨rfl, hb⟩
    have HB2 : Hid (Below w.heap.size w w2) := Lib.hid (HB.out.trans (hb.mono HB.out.size))
    clear hb
    go_wp2_with fail
    go_ret
    exact ⟨rfl, HB2.out⟩
  · have hx : isCell cs.length ((i : Int) + 1) = true := isCell_iff.2 ⟨i, hil, rfl⟩
    rw [hx] at ht
    have HT := Lib.hid ht
    obtain ⟨g, cap', cur, fm, ev, ha⟩ := Out.sl h hi
    obtain ⟨rfl, rfl⟩ : p = some ⟨g, 0, none⟩ ∧ cap = cap' := by injection ev with e1 e2 e3; exact ⟨e1, e3⟩
    have d1 : w.cell? ⟨g, i * 3 + 1, none⟩ = some (.bool x.fr) := ha.at_cell hi 1 _ rfl
    have HD : Hid (∀ w', Below w.heap.size w w' → w'.cell? ⟨g, i * 3 + 1, none⟩ = some (.bool x.fr)) := Lib.hid (fun w' hb => (hb.cell (World.block_lt_of_cell? _ _ d1)).trans d1)
    have HA : Hid (∀ w', Below w.heap.size (w.alloc (.cells (RefA F (.slice (some ⟨g, 0, none⟩) cs.length cap)) 29)) w' → True) := Lib.hid (fun _ _ => trivial)
    have hbx : ∀ w', Below (w.alloc (.cells (RefA F (.slice (some ⟨g, 0, none⟩) cs.length cap)) 29)).heap.size (w.alloc (.cells (RefA F (.slice (some ⟨g, 0, none⟩) cs.length cap)) 29)) w' → w'.cell? ⟨w.heap.size, 1, none⟩ = some (.slice (some ⟨g, 0, none⟩) cs.length cap) := fun w' hb => by
      have h1 : Bk (w.alloc (.cells (RefA F (.slice (some ⟨g, 0, none⟩) cs.length cap)) 29)) w.heap.size 29 (RefA F (.slice (some ⟨g, 0, none⟩) cs.length cap)) := (MapKept.heap_alloc w _).1
      exact (h1.below hb h1.lt).cell 1
    have HX := Lib.hid hbx
    have hi1 : ((i : Int) + 1 - 1) = (i : Int) := by omega
    have hi2 : (i : Int) < (cs.length : Int) := by omega
    have hi0 : (0 : Int) ≤ (i : Int) := Int.natCast_nonneg _
    have hiB : (i : Int) ≤ 2000000 := by omega
    clear h ht hx ev ha d1 hbx HA hb0 hi
    generalize hf : x.fr = fr at HD
    have hret : faultC cs ((i : Int) + 1) = if fr = true then 2 else 0 := by
      rcases hw with ⟨h1, h2⟩ | ⟨h1, h2⟩
      · rw [h2, ← hf, h1]; rfl
      · rw [h2, ← hf, h1]; rfl
    rw [hret]
    clear hret hf hw
    cases fr with
    | true =>
      rw [if_pos rfl]
      go_enter Try.func31, Try.ntmps31
      go_wp2_with fail
      generalize w.alloc (.cells (RefA F (.slice (some ⟨g, 0, none⟩) cs.length cap)) 29) = w1 at HB HX ⊢
      refine (HT.out w1).mono ?_; rintro e w2 ⟨rfl, hb⟩
      have HB2 : Hid (Below w.heap.size w w2) := Lib.hid (HB.out.trans (hb.mono HB.out.size))
      have c1 := HX.out w2 hb
      have c2 := HD.out w2 HB2.out
      clear hb
      go_wp2_with fail
      go_ret
      exact ⟨rfl, HB2.out⟩
    | false =>
      rw [if_neg (by decide)]
      go_enter Try.func31, Try.ntmps31
      go_wp2_with fail
      generalize w.alloc (.cells (RefA F (.slice (some ⟨g, 0, none⟩) cs.length cap)) 29) = w1 at HB HX ⊢
      refine (HT.out w1).mono ?_; rintro e w2 ⟨rfl, hb⟩
      have HB2 : Hid (Below w.heap.size w w2) := Lib.hid (HB.out.trans (hb.mono HB.out.size))
      have c1 := HX.out w2 hb
      have c2 := HD.out w2 HB2.out
      clear hb
      go_wp2_with fail
      go_ret
      exact ⟨rfl, HB2.out⟩

set_option maxHeartbeats 800000 in
set_option maxRecDepth 100000 in
theorem refNew_any (F c : Nat) (p : Option Addr) (w : World) : Calls Try.prog 20 #[.slice p F c] w fun e w' => e = .returned (.agg (RefA F (.slice none 0 0))) ∧ Below w.heap.size w w' := by
  have HB := Lib.hid (alloc_below w (.cells (RefA F (.slice none 0 0)) 29))
  go_enter Try.func20, Try.ntmps20
  go_wp2_with ((with_reducible show wpList _ _ _ (Oper.mk none (Op.store _ _ _) _ _ _ _ :: _) _ _); refine wpList_store_new rfl 29 (.tmp 2) (.tmp 5) rfl _ (RefA F (.slice none 0 0)) rfl rfl size29 rfl (by simp [Value.oneCell']) ?_)
  refine bodyPost_ret (v := .agg (RefA F (.slice none 0 0))) (by simp [results, Try.results20, go_sem]) rfl ⟨rfl, HB.out⟩

set_option maxHeartbeats 1600000 in
set_option maxRecDepth 100000 in
theorem refGet_any (F : Nat) (N : Nat → Prop) (cs : List PC) (v : Value) (c f : Int) (w : World) (h : Out F w N v cs) (hn : cs.length ≤ 2000000) :
    Calls Try.prog 25 #[.agg (RefA F v), .int .i64 c, .int .i64 f] w (RetII w (getV F cs c f) (faultC cs c)) := by
  obtain ⟨p, cap, rfl⟩ := h.form
  have hb0 := alloc_below w (.cells (RefA F (.slice p cs.length cap)) 29)
  have HB := Lib.hid hb0
  have ht := fault_any F N cs _ c _ (Kin.Lie.below h hb0) hn
  have HT := Lib.hid ht
  have hbx : Bk (w.alloc (.cells (RefA F (.slice p cs.length cap)) 29)) w.heap.size 29 (RefA F (.slice p cs.length cap)) := (MapKept.heap_alloc w _).1
  have HBX := Lib.hid hbx
  clear hbx
  by_cases hf : faultC cs c = 0
  · rcases fault_ways cs c with ⟨_, hf'⟩ | ⟨i, x, rfl, hi, hil, hw⟩
    · rw [hf] at hf'; cases hf'
    · have hx : x.fr = false := by
        rcases hw with ⟨_, h2⟩ | ⟨h1, _⟩
        · rw [hf] at h2; cases h2
        · exact h1
      rw [hf] at HT
      cases hfi : isField F f with
      | false =>
        rw [getV_no F cs _ f (.inr hfi), hf]
        clear hw hf h hx hi hb0 ht
        by_cases hf0 : f < 0
        · have hd : decide (f < 0) = true := decide_eq_true hf0
          clear hf0 hfi
          go_enter Try.func25, Try.ntmps25
          go_wp2_with fail
          generalize w.alloc (.cells (RefA F (.slice p cs.length cap)) 29) = w1 at HB HBX HT ⊢
          refine HT.out.mono ?_; rintro e w2 ⟨rfl, hb⟩
          have HB2 : Hid (Below w.heap.size w w2) := Lib.hid (HB.out.trans (hb.mono HB.out.size))
          clear hb
          go_wp2_with fail
          go_ret2
          exact ⟨rfl, HB2.out⟩
        · have hd : decide (f < 0) = false := decide_eq_false hf0
          have hd2 : decide ((F : Int) ≤ f) = true := by
            unfold isField at hfi
            simp at hfi
            exact decide_eq_true (hfi (by omega))
          clear hf0 hfi
          go_enter Try.func25, Try.ntmps25
          go_wp2_with fail
          generalize w.alloc (.cells (RefA F (.slice p cs.length cap)) 29) = w1 at HB HBX HT ⊢
          refine HT.out.mono ?_; rintro e w2 ⟨rfl, hb⟩
          have HB2 : Hid (Below w.heap.size w w2) := Lib.hid (HB.out.trans (hb.mono HB.out.size))
          have c0 : w2.cell? ⟨w.heap.size, 0, none⟩ = some (.int .i64 F) := (HBX.out.below hb HBX.out.lt).cell 0
          clear hb
          go_wp2_with fail
          go_ret2
          exact ⟨rfl, HB2.out⟩
      | true =>
        obtain ⟨k, hk, rfl⟩ := isField_iff.1 hfi
        rw [getV_at F cs i k x hi hx hk, hf]
        obtain ⟨g, cap', cur, fm, ev, ha⟩ := Out.sl h hi
        obtain ⟨rfl, rfl⟩ : p = some ⟨g, 0, none⟩ ∧ cap = cap' := by injection ev with e1 e2 e3; exact ⟨e1, e3⟩
        have hs := ha.sub i x hi
        obtain ⟨q, cq, cr, hq, hbq, htk⟩ : ∃ q cq cr, fm i = .slice (some ⟨q, 0, none⟩) F cq ∧ Bk w q 3 cr ∧ cr.toList.take (F * 1) = ints x.to := by
          rcases hs.2.1.2 with ⟨e, _⟩ | ⟨q, cq, cr, e, _, hb, _, _, _, ht⟩
          · exact absurd e hs.2.2
          · exact ⟨q, cq, cr, e, hb, ht⟩
        have d2 : w.cell? ⟨g, i * 3 + 2, none⟩ = some (.slice (some ⟨q, 0, none⟩) F cq) := (ha.at_cell hi 2 _ rfl).trans (by rw [hq])
        have d3 : w.cell? ⟨q, k, none⟩ = some (.int .i64 (x.at k)) := by
          rw [hbq.cell]
          have : (cr.toList.take (F * 1))[k]? = some (.int .i64 (x.at k)) := by
            rw [htk]; unfold ints; rw [List.getElem?_map, at_get x k (by rw [hs.1]; exact hk)]; rfl
          rw [List.getElem?_take, if_pos (by omega)] at this
          simpa using this
        have HD2 := Lib.hid d2
        have HD3 := Lib.hid d3
        have hi1 : ((i : Int) + 1 - 1) = (i : Int) := by omega
        have hi2 : (i : Int) < (cs.length : Int) := by omega
        have hi0 : (0 : Int) ≤ (i : Int) := Int.natCast_nonneg _
        have hiB : (i : Int) ≤ 2000000 := by omega
        have hk0 : decide ((k : Int) < 0) = false := decide_eq_false (by omega)
        have hk1 : decide ((F : Int) ≤ (k : Int)) = false := decide_eq_false (by omega)
        have hk2 : decide (F ≤ k) = false := decide_eq_false (by omega)
        have hk3 : (0 : Int) ≤ (k : Int) := Int.natCast_nonneg _
        have hk4 : (k : Int) < (F : Int) := by omega
        clear h ha hs hq hbq htk d2 d3 ev hf hw hx hi hb0 ht hfi
        go_enter Try.func25, Try.ntmps25
        go_wp2_with fail
        generalize w.alloc (.cells (RefA F (.slice (some ⟨g, 0, none⟩) cs.length cap)) 29) = w1 at HB HBX HT ⊢
        refine HT.out.mono ?_; rintro e w2 ⟨rfl, hb⟩
        have HB2 : Hid (Below w.heap.size w w2) := Lib.hid (HB.out.trans (hb.mono HB.out.size))
        have c0 : w2.cell? ⟨w.heap.size, 0, none⟩ = some (.int .i64 F) := (HBX.out.below hb HBX.out.lt).cell 0
        have c1 : w2.cell? ⟨w.heap.size, 1, none⟩ = some (.slice (some ⟨g, 0, none⟩) cs.length cap) := (HBX.out.below hb HBX.out.lt).cell 1
        have c2 := (HB2.out.cell (World.block_lt_of_cell? _ _ HD2.out)).trans HD2.out
        have c3 := (HB2.out.cell (World.block_lt_of_cell? _ _ HD3.out)).trans HD3.out
        clear hb
        go_wp2_with fail
        go_ret2
        exact ⟨rfl, HB2.out⟩
  · rw [getV_no F cs c f (.inl hf)]
    generalize hk : faultC cs c = k at hf HT ⊢
    have hk1 : (k == 0) = false := by simpa using hf
    have hk2 : (k != 0) = true := by simpa using hf
    clear hk ht hb0 h hf
    go_enter Try.func25, Try.ntmps25
    go_wp2_with fail
    generalize w.alloc (.cells (RefA F (.slice p cs.length cap)) 29) = w1 at HB HBX HT ⊢
    refine HT.out.mono ?_; rintro e w2 ⟨rfl, hb⟩
    have HB2 : Hid (Below w.heap.size w w2) := Lib.hid (HB.out.trans (hb.mono HB.out.size))
    clear hb
    go_wp2_with fail
    go_ret2
    exact ⟨rfl, HB2.out⟩
end Go.Proofs.Ytocgallcmgnmgaa
