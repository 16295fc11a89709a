/-
  DERIVED. A loop in the fenced calculus, told by a ghost; a function's way out over the marks of its loops; taken.
-/
import Derived.Test.YtnkimfbdcghgpaaDoorXm
namespace Go.Proofs.YtnkimfbdcghgpaaDoor
open Go.RowKit Go.Sort Go.Shelf
attribute [local go_sem] Oper.semAt_some

theorem wpIn_loop_ghost {F : Fence} {n : Nat} {P : Program} {c : Code} {Q : Exit → Act → World → Prop} {a : Act} {w : World} (Rel : Nat → Act → World → Prop) (h0 : ∃ k, Rel k a w)
    (hr : ∀ k a' w', Rel k a' w' → c.wpIn F n P (Exit.then (fun a'' w'' => ∃ k', k' < k ∧ Rel k' a'' w'') Q) a' w') : (Code.loop c).wpIn F n P Q a w := by
  classical
  have hmin : ∀ (a : Act) (w : World), (∃ k, Rel k a w) → ∃ k, Rel k a w ∧ ∀ j, Rel j a w → k ≤ j := by
    intro a w h
    obtain ⟨k, hk⟩ := h
    induction k using Nat.strongRecOn with
    | _ k ih =>
      by_cases hj : ∃ j, j < k ∧ Rel j a w
      · obtain ⟨j, h1, h2⟩ := hj
        exact ih j h1 h2
      · exact ⟨k, hk, fun j hr => Nat.le_of_not_lt fun h => hj ⟨j, h, hr⟩⟩
  refine wpIn_loop (fun a w => ∃ k, Rel k a w) (fun a w => if h : ∃ k, Rel k a w then (hmin a w h).choose else 0) h0 fun a' w' h => ?_
  refine Code.wpIn_mono (fun e a'' w'' q => ?_) (hr _ _ _ (hmin a' w' h).choose_spec.1)
  cases e with
  | normal =>
    obtain ⟨k', hk, hrel⟩ := q
    refine ⟨⟨k', hrel⟩, ?_⟩
    simp only [dif_pos h, dif_pos (⟨k', hrel⟩ : ∃ k, Rel k a'' w'')]
    exact Nat.lt_of_le_of_lt ((hmin a'' w'' ⟨k', hrel⟩).choose_spec.2 _ hrel) hk
  | ret => exact q
  | exit _ => exact q
  | goto _ => exact q
  | panic _ => exact q
  | outgrown => exact q

/-- The mark that a range over a function leaves. -/
def mark (D : Nat) : Deferred := { target := .collected D, args := #[] }
/-- The marks' blocks, empty. -/
structure Mks (H : Nat) (W : World) (L : List Nat) : Prop where
  nd : L.Nodup
  at_ : ∀ D ∈ L, H ≤ D ∧ W.heap[D]? = some (.deferred (some []))
theorem leaves_marks {F : Fence} {n : Nat} {P : Program} {fn : Func} {tmps : Array Value} {R : Ending → World → Prop} {H : Nat} : ∀ (L : List Nat) (W : World), Mks H W L →
    (∀ W', Gr W W' (fun k => k ∈ L) → LeavesIn F n P fn tmps R [] .returning W') → LeavesInM F n P fn tmps R (L.map mark) .returning W
  | [], W, _, h => h W (Gr.refl _ _)
  | D :: L, W, hm, h => by
    have hD := (hm.at_ D (by simp)).2
    refine ⟨by simp, .inl ⟨D, _, rfl, run_takeDeferred hD, ?_⟩⟩
    have hg : W.grownBy (W.putObj D (.deferred none)) (some D) := grownBy_putObj' W D _
    have hnD : D ∉ L := (List.nodup_cons.1 hm.nd).1
    refine leaves_marks L _ ⟨(List.nodup_cons.1 hm.nd).2, fun E hE => ⟨(hm.at_ E (by simp [hE])).1, ?_⟩⟩ fun W' hW' => h W' ?_
    · have h1 := (hm.at_ E (by simp [hE])).2
      exact (hg.block E (Array.getElem?_eq_some_iff.1 h1).1 (fun e => by injection e with e; exact hnD (e ▸ hE))).trans h1
    · have h1 : Gr W (W.putObj D (.deferred none)) (fun k => k ∈ D :: L) := (Gr.of_grown hg).mono fun k _ e => by injection e with e; simp [e]
      exact h1.then hW' fun i _ hi => by simp [hi]
theorem taken_any (n wb N C : Nat) (i : Int) (w : World) :
    CallsIn Fence.wide n Tryd.prog 29 #[.slice (some ⟨wb, 0, none⟩) N C, .int .i64 i] w fun e w' => e = .returned (.func (.func 36) #[] #[.pointer (some ⟨w.heap.size, 0, none⟩), .pointer (some ⟨w.heap.size + 1, 0, none⟩)]) ∧ w' = (w.alloc (.cells #[.slice (some ⟨wb, 0, none⟩) N C] 41)).alloc (.cells #[.int .i64 i] 3) := by
  refine callsIn_of_wp Tryd.func29 rfl trivial ?_ rfl
  simp only [Tryd.ntmps29, List.size_toArray, List.length_cons, List.length_nil, Nat.reduceAdd, Nat.reduceSub, Array.replicate_succ, Array.replicate_zero, List.push_toArray, List.append_toArray, List.nil_append, List.cons_append]
  gi_wp2
  go_ret
  exact ⟨rfl, rfl⟩
theorem Wv.mono {w : World} {wb : Nat} {K K' : Nat → Prop} {vs : List Value} {XS : List (List Ed)} (h : Wv w wb K vs XS) (hK : ∀ k, K k → K' k) : Wv w wb K' vs XS :=
  ⟨h.blk, h.len, fun t v xs hv hx => by
    obtain ⟨p, c, e, hc, hr⟩ := h.row t v xs hv hx
    refine ⟨p, c, e, hc, ?_⟩
    rcases hr with hr | ⟨b, o, hp, hb, hk, hr⟩
    · exact .inl hr
    · exact .inr ⟨b, o, hp, hb, hK b hk, hr⟩⟩
theorem taken_seq (m : Nat) (hm : 1 ≤ m) (wb B2 B3 i N C : Nat) (K Kw : Nat → Prop) (hKK : ∀ k, Kw k → K k) (r0 : List Ed) (XS : List (List Ed)) (hr0 : XS[i]? = some r0) (hKw : Kw wb) (hK2 : K B2) (hK3 : K B3) (h2w : B2 ≠ wb) (h3w : B3 ≠ wb) (hi : (i : Int) < N)
    (w : World) (hKs : ∀ k, K k → k < w.heap.size) (hW : ∃ vs, Wv w wb Kw vs XS) (hc2 : w.cell? ⟨B2, 0, none⟩ = some (.slice (some ⟨wb, 0, none⟩) N C)) (hc3 : w.cell? ⟨B3, 0, none⟩ = some (.int .i64 i)) :
    SeqT Fence.wide m Tryd.prog 36 #[.pointer (some ⟨B2, 0, none⟩), .pointer (some ⟨B3, 0, none⟩)] (fun x : Ed => #[.agg x.cs]) (fun k => k = wb) (Kps K) (fun pre x => (pre ++ [x]) <+: r0)
      (fun xs W' => xs = r0 ∧ ∃ vs, Wv W' wb Kw vs (XS.set i [])) (fun pre W' => ∃ rest, r0 = pre ++ rest ∧ ∃ vs, Wv W' wb Kw vs (XS.set i rest)) w := fun l J Jx W hb hJ hY h0 => by
  obtain ⟨vs, hw⟩ := hW
  exact taken_in m hm l wb B2 B3 i N C K Kw hKK r0 XS hr0 J Jx hKw hK2 hK3 h2w h3w hi hJ hY W ⟨vs, hw.kept (fun k hk => hb.block k (hKs k (hKK k hk))) hKw⟩ ((hb.cell (hKs B2 hK2)).trans hc2) ((hb.cell (hKs B3 hK3)).trans hc3) h0
end Go.Proofs.YtnkimfbdcghgpaaDoor
