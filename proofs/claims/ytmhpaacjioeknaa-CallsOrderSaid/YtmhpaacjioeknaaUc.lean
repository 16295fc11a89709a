/-
  DERIVED. The law's row of places; the program that is read, ys the law takes it.
-/
import Derived.Test.YtmhpaacjioeknaaUb
import Derived.Test.YtmhpaacjioeknaaTu
namespace Go.Proofs.Ytmhpaacjioeknaa
open Go.RowKit Go.Maps Go.Sort Go.WideMaps

/-- Behind k turns each of the first k holds its place, one more; the others 0. -/
def AtI (os : List Int) (n k : Nat) (ys : List Int) : Prop := ys.length = n ∧ ∀ c : Nat, c < n → fn ys c = if (c : Int) ∈ os.take k then (os.idxOf (c : Int) : Int) + 1 else 0
theorem AtI.start (os : List Int) (n : Nat) : AtI os n 0 (List.replicate n 0) := by
  refine ⟨List.length_replicate, fun c hc => ?_⟩
  rw [List.take_zero, if_neg (by simp), fn_get _ c (by rw [List.length_replicate]; exact hc), List.getElem_replicate]
theorem idx_at {os : List Int} (hn : os.Nodup) {k : Nat} {x : Int} (hx : os[k]? = some x) : x ∉ os.take k ∧ os.idxOf x = k ∧ os.take (k + 1) = os.take k ++ [x] := by
  obtain ⟨hk, rfl⟩ := List.getElem?_eq_some_iff.1 hx
  have h3 : os.take (k + 1) = os.take k ++ [os[k]] := List.take_succ_eq_append_getElem hk
  have h4 : (os.take k ++ [os[k]]).Nodup := by rw [← h3]; exact hn.sublist (List.take_sublist _ _)
  have h5 : os[k] ∉ os.take k := fun h => by
    have := (List.nodup_append.1 h4).2.2 _ h _ List.mem_cons_self
    exact this rfl
  refine ⟨h5, ?_, h3⟩
  have h6 : os = os.take k ++ os[k] :: os.drop (k + 1) := by
    rw [← List.drop_eq_getElem_cons hk, List.take_append_drop]
  have h7 : (os.take k ++ os[k] :: os.drop (k + 1)).idxOf os[k] = k := by
    rw [List.idxOf_append, if_neg h5, List.idxOf_cons_self, List.length_take]
    omega
  rw [← h6] at h7
  exact h7
theorem AtI.at_ {os : List Int} {n k : Nat} {ys : List Int} (h : AtI os n k ys) (hn : os.Nodup) {c : Nat} (hx : os[k]? = some (c : Int)) (hc : c < n) : fn ys c = 0 := by
  rw [h.2 c hc, if_neg (idx_at hn hx).1]
theorem AtI.step {os : List Int} {n k : Nat} {ys : List Int} (h : AtI os n k ys) (hn : os.Nodup) {c : Nat} (hx : os[k]? = some (c : Int)) (hc : c < n) : AtI os n (k + 1) (ys.set c ((k : Int) + 1)) := by
  obtain ⟨h1, h2, h3⟩ := idx_at hn hx
  refine ⟨by rw [List.length_set]; exact h.1, fun d hd => ?_⟩
  rw [fn_set ys (by rw [h.1]; exact hc), h3]
  by_cases hdc : d = c
  · subst hdc
    rw [if_pos rfl, if_pos (by simp), h2]
  · rw [if_neg hdc, h.2 d hd]
    have h4 : ((d : Int) ∈ os.take k ++ [(c : Int)]) ↔ (d : Int) ∈ os.take k := by
      rw [List.mem_append, List.mem_singleton]
      constructor
      · rintro (h5 | h5)
        · exact h5
        · omega
      · exact .inl
    simp only [h4]
theorem AtI.end_ {os : List Int} {n : Nat} {ys : List Int} (h : AtI os n os.length ys) {c : Nat} (hc : c < n) (hm : (c : Int) ∈ os) : fn ys c = (os.idxOf (c : Int) : Int) + 1 := by
  rw [h.2 c hc, List.take_length, if_pos hm]
/-- Nothing comes to itself: all are told, each once. -/
theorem told_whole {XS : List (List Int)} {os : List Int} (hr : InR XS) (h : Told XS os) (hk : ∀ k, ¬ Rdy XS os k) (hc : ∀ i, i < XS.length → ¬ Rt XS i i) : os.length = XS.length := by
  have h1 := told_len h
  by_cases hl : os.length < XS.length
  · obtain ⟨k, hk'⟩ := ready_of hr hl hc
    exact absurd hk' (hk k)
  · omega
theorem told_mem {XS : List (List Int)} {os : List Int} (h : Told XS os) (hl : os.length = XS.length) {i : Nat} (hi : i < XS.length) : (i : Int) ∈ os := by
  apply Classical.byContradiction
  intro hn
  have h1 := told_at h
  have h2 : ((i : Int) :: os).length ≤ XS.length := nodup_len (List.nodup_cons.2 ⟨hn, h1.1⟩) (by
    intro x hx
    rcases List.mem_cons.1 hx with rfl | hx
    · exact ⟨i, rfl, hi⟩
    · obtain ⟨c, h3, h4, _⟩ := h1.2 x hx; exact ⟨c, h3, h4⟩)
  rw [List.length_cons] at h2
  omega
theorem idx_first {κ : Type} [DecidableEq κ] : ∀ {l : List κ} {i : Nat} {x : κ}, l[i]? = some x → (∀ j, j < i → l[j]? ≠ some x) → l.idxOf x = i
  | [], i, x, h, _ => by simp at h
  | y :: l, 0, x, h, _ => by
    simp at h
    subst h
    exact List.idxOf_cons_self
  | y :: l, i + 1, x, h, hm => by
    have h0 : y ≠ x := fun e => hm 0 (Nat.succ_pos _) (by simp [e])
    rw [List.idxOf_cons, show (y == x) = false by simpa using h0, cond_false]
    rw [idx_first (l := l) (i := i) (by simpa using h) (fun j hj e => hm (j + 1) (Nat.succ_lt_succ hj) (by simpa using e))]
/-- The first of its name: its place is its own. -/
theorem plc_first {l : List Pc} {i : Nat} {x : Pc} (hx : l[i]? = some x) (hf : ∀ (j : Nat) (y : Pc), j < i → l[j]? = some y → y.name ≠ x.name) : plc (nms l) x.name = i := by
  unfold plc
  refine idx_first (by unfold nms; rw [List.getElem?_map, hx]; rfl) fun j hj e => ?_
  unfold nms at e
  rw [List.getElem?_map] at e
  rcases hq : l[j]? with _ | y
  · rw [hq] at e; cases e
  · rw [hq] at e
    injection e with e
    exact hf j y hj hq e
theorem prog_any (s : ByteArray) (w : World) (hs : s.size ≤ 5000000) : Calls Try.prog 9 #[.string s] w fun e w' => ∃ (p : Pg) (at_ er : Int), e = .returned (.tuple #[.agg #[.slice p.structs.p p.structs.l.length p.structs.cap, .slice p.globals.p p.globals.l.length p.globals.cap, .slice p.procs.p p.procs.l.length p.procs.cap], .int .i64 at_, .int .i64 er]) ∧ Below w.heap.size w w' ∧
    Hid (er = 0 → pgLies w' p ∧ PgBd p ∧ ∀ q ∈ p.procs.l, q.name.size ≤ maxLen ∧ ∀ y ∈ uq [] q.body.every, y.size ≤ maxLen) := by
  refine (refProg_any s w hs).mono ?_
  rintro e w' ⟨p, a, er, rfl, hb, h⟩
  refine ⟨p, a, er, rfl, hb, Lib.hid fun h0 => ?_⟩
  rcases h with ⟨_, he, ⟨u, h1⟩, h2⟩ | ⟨h1, _⟩
  · have h3 := read_ok s he h1
    exact ⟨pgLies_ext (fresh_ext _ _) h2, h3.1, h3.2⟩
  · exact absurd h0 h1
end Go.Proofs.Ytmhpaacjioeknaa
