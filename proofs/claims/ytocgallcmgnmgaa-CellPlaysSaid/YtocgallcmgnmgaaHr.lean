/-
  DERIVED. A heap of a law's own, and blocks that it leaves alone; what the law of freed cells meets.
-/
import Derived.Test.YtocgallcmgnmgaaOp
namespace Go.Proofs.Ytocgallcmgnmgaa
open Go.RowKit Go.Maps

/-- A heap that was made since, none of whose blocks is among N. -/
def HMN (w0 w : World) (b F : Nat) (cs : List PC) (N : Nat → Prop) : Prop :=
  ∃ R v, HIs w b R F cs v ∧ (∀ k, R k → w0.heap.size ≤ k ∧ ¬ N k) ∧ w0.heap.size ≤ b ∧ ¬ N b ∧ (∀ k, N k → k < w.heap.size) ∧ Below w0.heap.size w0 w
theorem HMN.step {w0 w w' : World} {b F : Nat} {R N : Nat → Prop} {cs' : List PC} {ret : Value} {e : Ending} (hR : ∀ k, R k → w0.heap.size ≤ k ∧ ¬ N k) (hb : w0.heap.size ≤ b) (hN : ¬ N b) (hNl : ∀ k, N k → k < w.heap.size) (hw : Below w0.heap.size w0 w)
    (h : HPost F w b R cs' ret e w') : HMN w0 w' b F cs' N ∧ Gr w w' (fun k => ¬ N k) := by
  obtain ⟨_, R', v', h1, h2⟩ := h
  refine ⟨⟨R', v', h1, fun k hk => ?_, hb, hN, fun k hk => Nat.lt_of_lt_of_le (hNl k hk) h2.gr.size, hw.trans (h2.gr.below hw.size (fun k hk => ?_))⟩, h2.gr.mono (fun k _ hk => ?_)⟩
  · rcases h2.new k hk with h | h
    · exact hR k h
    · exact ⟨by have := hw.size; omega, fun hn => by have := hNl k hn; omega⟩
  · rcases hk with rfl | hk
    · exact hb
    · exact (hR k hk).1
  · rcases hk with rfl | hk
    · exact hN
    · exact (hR k hk).2
theorem HMN.free {w0 w : World} {b F : Nat} {cs : List PC} {N : Nat → Prop} (h : HMN w0 w b F cs N) (c : Int) (hn : cs.length ≤ maxLen) :
    Calls Try.prog 15 #[.pointer (some ⟨b, 0, none⟩), .int .i64 c] w fun e w' => e = .returned (.int .i64 (freeE cs c)) ∧ Hid (HMN w0 w' b F (freeC F cs c) N) ∧ Hid (Gr w w' (fun k => ¬ N k)) := by
  obtain ⟨R, v, h1, h2, h3, h4, h5, h6⟩ := h
  exact (free_any F b R cs v c w h1 hn).mono fun e w' hp => ⟨hp.1, Lib.hid (HMN.step h2 h3 h4 h5 h6 hp).1, Lib.hid (HMN.step h2 h3 h4 h5 h6 hp).2⟩
theorem HMN.put {w0 w : World} {b F : Nat} {cs : List PC} {N : Nat → Prop} (h : HMN w0 w b F cs N) (c f t : Int) (hF : F ≤ 2000000) (hn : cs.length ≤ maxLen) (ht : okI t) :
    Calls Try.prog 13 #[.pointer (some ⟨b, 0, none⟩), .int .i64 c, .int .i64 f, .int .i64 t] w fun e w' => e = .returned (.int .i64 (faultC cs c)) ∧ Hid (HMN w0 w' b F (putC F cs c f t) N) ∧ Hid (Gr w w' (fun k => ¬ N k)) := by
  obtain ⟨R, v, h1, h2, h3, h4, h5, h6⟩ := h
  exact (put_any F b R cs v c f t w h1 hF hn ht).mono fun e w' hp => ⟨hp.1, Lib.hid (HMN.step h2 h3 h4 h5 h6 hp).1, Lib.hid (HMN.step h2 h3 h4 h5 h6 hp).2⟩
theorem HM.cells {w0 w : World} {b F : Nat} {cs : List PC} (h : HM w0 w b F cs) (hF : F ≤ 2000000) (hn : cs.length ≤ 2000000) :
    Calls Try.prog 14 #[.pointer (some ⟨b, 0, none⟩)] w fun e w' => ∃ v N, e = .returned v ∧ Hid (OutR F w' N v cs) ∧ Hid (HMN w0 w' b F cs N) := by
  obtain ⟨R, v, h1, h2, h3, h4⟩ := h
  refine (cells_any F b R cs v w h1 hF hn).mono ?_
  rintro e w' ⟨v', rfl, hl, hb⟩
  refine ⟨v', _, rfl, Lib.hid hl, Lib.hid ⟨R, v, h1.below hb, fun k hk => ⟨h2 k hk, fun hN => ?_⟩, h3, fun hN => ?_, fun k hk => hk.2, h4.trans (hb.mono h4.size)⟩⟩
  · have := h1.lie.1 k hk; omega
  · have := h1.top.lt; omega
theorem HMN.cells {w0 w : World} {b F : Nat} {cs : List PC} {N : Nat → Prop} (h : HMN w0 w b F cs N) (hF : F ≤ 2000000) (hn : cs.length ≤ 2000000) :
    Calls Try.prog 14 #[.pointer (some ⟨b, 0, none⟩)] w fun e w' => ∃ v N', e = .returned v ∧ Hid (OutR F w' N' v cs) ∧ Hid (Below w.heap.size w w') ∧ Hid (Below w0.heap.size w0 w') := by
  obtain ⟨R, v, h1, h2, h3, h4, h5, h6⟩ := h
  refine (cells_any F b R cs v w h1 hF hn).mono ?_
  rintro e w' ⟨v', rfl, hl, hb⟩
  exact ⟨v', _, rfl, Lib.hid hl, Lib.hid hb, Lib.hid (h6.trans (hb.mono h6.size))⟩
/-- How an item that was handed out reads. -/
theorem OutR.item {w : World} {N : Nat → Prop} {v : Value} {cs : List PC} (h : OutR 2 w N v cs) {i : Nat} {x : PC} (hi : cs[i]? = some x) :
    ∃ g cap q o c', v = .slice (some ⟨g, 0, none⟩) cs.length cap ∧ w.cell? ⟨g, i * 3 + 1, none⟩ = some (.bool x.fr) ∧ w.cell? ⟨g, i * 3 + 2, none⟩ = some (.slice (some ⟨q, o, none⟩) 2 c') ∧
      w.cell? ⟨q, o, none⟩ = some (.int .i64 (x.at 0)) ∧ w.cell? ⟨q, o + 1, none⟩ = some (.int .i64 (x.at 1)) := by
  obtain ⟨p, cap, hv, _, hx⟩ := h
  obtain ⟨g, q, o, cq, rfl, _, _, h4, h5, h6⟩ := hx i x hi
  have hg : ∀ k, k < 2 → w.cell? ⟨q, o + k, none⟩ = some (.int .i64 (x.at k)) := fun k hk => h5 k _ (by unfold ints; rw [List.getElem?_map, at_get x k (by omega)]; rfl)
  exact ⟨g, cap, q, o, cq, hv, h4 1 _ rfl, h4 2 _ rfl, hg 0 (by decide), hg 1 (by decide)⟩

/-- The law's cells. -/
def mkC (n : Nat) : List PC := (List.range n).map fun (k : Nat) => newC 2 (k : Int)
theorem mkC_succ (n : Nat) : mkC (n + 1) = mkC n ++ [newC 2 (n : Int)] := by simp [mkC, List.range_succ]
theorem mkC_len (n : Nat) : (mkC n).length = n := by simp [mkC]
def InvF (m : Nat) (cs : List PC) : Prop := cs.length = m ∧ ∀ (i : Nat) (x : PC), cs[i]? = some x → x.fr = false
theorem invF_mk (n : Nat) : InvF n (mkC n) := ⟨mkC_len n, fun i (x : PC) hi => by
  unfold mkC at hi
  rw [List.getElem?_map] at hi
  obtain ⟨k, _, rfl⟩ := Option.map_eq_some_iff.1 hi
  rfl⟩
theorem invF_put {m F : Nat} {cs : List PC} (h : InvF m cs) (c f t : Int) : InvF m (putC F cs c f t) := by
  refine ⟨(putC_len F cs c f t).trans h.1, fun i x hi => ?_⟩
  unfold putC at hi
  split at hi
  · rw [List.getElem?_modify] at hi
    cases hc : cs[i]? with
    | none => rw [hc] at hi; cases hi
    | some y =>
      rw [hc] at hi
      have : (if c.toNat - 1 = i then putTo y f.toNat (okTo cs.length t) else y) = x := by simpa using hi
      rw [← this]
      split
      · exact h.2 i y hc
      · exact h.2 i y hc
  · exact h.2 i x hi
end Go.Proofs.Ytocgallcmgnmgaa
