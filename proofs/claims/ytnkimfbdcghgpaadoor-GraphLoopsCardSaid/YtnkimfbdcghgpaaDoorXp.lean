/-
  DERIVED. The search by breadth: what holds while it runs; what has come when the queue is empty.
-/
import Derived.Test.YtnkimfbdcghgpaaDoorXd
namespace Go.Proofs.YtnkimfbdcghgpaaDoor

/-- By edges, or none. -/
inductive Rs (XS : List (List Ed)) (i : Nat) : Nat → Prop
  | refl : Rs XS i i
  | step (c d : Nat) : Rs XS i c → (∃ e ∈ XS.getD c [], e.t = (d : Int)) → Rs XS i d
theorem Rs.trans {XS : List (List Ed)} {i j k : Nat} (h : Rs XS i j) (h2 : Rs XS j k) : Rs XS i k := by
  induction h2 with
  | refl => exact h
  | step c d _ he ih => exact .step c d ih he
/-- Edges lead to rows. -/
def InE (XS : List (List Ed)) : Prop := ∀ c, ∀ e ∈ XS.getD c [], 0 ≤ e.t ∧ e.t < XS.length
def vis (st : List Int) (c : Nat) : Prop := ∃ x, st[c]? = some x ∧ 0 ≤ x
def cnt (st : List Int) : Nat := st.countP (fun x => decide (0 ≤ x))
theorem cnt_le (st : List Int) : cnt st ≤ st.length := List.countP_le_length
theorem cnt_set : ∀ (st : List Int) (j : Nat) (x y : Int), st[j]? = some x → x < 0 → 0 ≤ y → cnt (st.set j y) = cnt st + 1
  | [], j, x, y, h, _, _ => by simp at h
  | a :: r, 0, x, y, h, hx, hy => by
    simp at h; subst h
    unfold cnt
    simp [show ¬ 0 ≤ a by omega, hy]
  | a :: r, j + 1, x, y, h, hx, hy => by
    rw [List.getElem?_cons_succ] at h
    have ih := cnt_set r j x y h hx hy
    unfold cnt at ih ⊢
    rw [List.set_cons_succ, List.countP_cons, List.countP_cons]
    omega
theorem cnt_none (n : Nat) : cnt (List.replicate n (-1)) = 0 := by unfold cnt; rw [List.countP_replicate]; simp

structure Bs (XS RS : List (List Ed)) (s0 : Nat) (st os : List Int) : Prop where
  len : st.length = XS.length
  lenR : RS.length = XS.length
  opn : ∀ x ∈ os, ∃ c : Nat, x = (c : Int) ∧ c < XS.length ∧ vis st c
  seen : ∀ c, vis st c → Rs XS s0 c
  strt : vis st s0
  clos : ∀ c, vis st c → ∀ e ∈ XS.getD c [], vis st e.t.toNat ∨ (e ∈ RS.getD c [] ∧ (c : Int) ∈ os)
  sub : ∀ c, ∀ e ∈ RS.getD c [], e ∈ XS.getD c []
  num : ∀ (c : Nat) (x : Int), st[c]? = some x → x < (cnt st : Int) ∧ -1 ≤ x
  new : ∀ c, ¬ vis st c → RS.getD c [] = XS.getD c []
theorem Bs.start {XS : List (List Ed)} {s0 : Nat} (h : s0 < XS.length) : Bs XS XS s0 ((List.replicate XS.length (-1)).set s0 0) [(s0 : Int)] := by
  have hl : s0 < (List.replicate XS.length (-1 : Int)).length := by simpa using h
  have hv : ∀ c, vis ((List.replicate XS.length (-1)).set s0 0) c ↔ c = s0 := by
    intro c
    unfold vis
    by_cases hc : s0 = c
    · subst hc; rw [List.getElem?_set_self hl]; simp
    · rw [List.getElem?_set_ne hc, List.getElem?_replicate]
      constructor
      · rintro ⟨x, hx, h0⟩
        split at hx
        · injection hx with hx; omega
        · cases hx
      · exact fun e => absurd e.symm hc
  refine ⟨by simp, rfl, ?_, ?_, (hv s0).2 rfl, ?_, fun _ _ h => h, ?_, ?_⟩
  · intro x hx
    rw [List.mem_singleton] at hx
    exact ⟨s0, hx, h, (hv s0).2 rfl⟩
  · intro c hc; rw [(hv c).1 hc]; exact .refl
  · intro c hc e he
    rw [(hv c).1 hc] at he ⊢
    exact .inr ⟨he, by simp⟩
  · intro c x hx
    have h1 : cnt ((List.replicate XS.length (-1)).set s0 0) = 1 := by
      rw [cnt_set _ s0 (-1) 0 (by rw [List.getElem?_replicate, if_pos h]) (by omega) (by omega), cnt_none]
    rw [h1]
    by_cases hc : s0 = c
    · subst hc; rw [List.getElem?_set_self hl] at hx; injection hx with hx; omega
    · rw [List.getElem?_set_ne hc, List.getElem?_replicate] at hx
      split at hx
      · injection hx with hx; omega
      · cases hx
  · intro c _; rfl
theorem getD_at {RS : List (List Ed)} {c : Nat} {l : List Ed} (h : RS[c]? = some l) : RS.getD c [] = l := by rw [List.getD_eq_getElem?_getD, h]; rfl
theorem getD_set {RS : List (List Ed)} {c d : Nat} {l : List Ed} (hc : c < RS.length) : (RS.set c l).getD d [] = if d = c then l else RS.getD d [] := by
  rw [List.getD_eq_getElem?_getD, List.getD_eq_getElem?_getD]
  by_cases h : d = c
  · subst h; rw [if_pos rfl, List.getElem?_set_self hc]; rfl
  · rw [if_neg h, List.getElem?_set_ne (fun e => h e.symm)]
/-- An edge is taken that leads to where one has been. -/
theorem Bs.skip {XS RS : List (List Ed)} {s0 c : Nat} {st os : List Int} {e : Ed} {rest : List Ed} (h : Bs XS RS s0 st os) (hc : RS[c]? = some (e :: rest)) (hvc : vis st c) (hv : vis st e.t.toNat) : Bs XS (RS.set c rest) s0 st os := by
  have hcl := (List.getElem?_eq_some_iff.1 hc).1
  refine ⟨h.len, by rw [List.length_set]; exact h.lenR, h.opn, h.seen, h.strt, ?_, ?_, h.num, ?_⟩
  · intro d hd x hx
    rcases h.clos d hd x hx with h1 | ⟨h1, h2⟩
    · exact .inl h1
    · rw [getD_set hcl]
      by_cases hdc : d = c
      · subst hdc
        rw [if_pos rfl]
        rw [getD_at hc] at h1
        rcases List.mem_cons.1 h1 with rfl | h1
        · exact .inl hv
        · exact .inr ⟨h1, h2⟩
      · rw [if_neg hdc]; exact .inr ⟨h1, h2⟩
  · intro d x hx
    rw [getD_set hcl] at hx
    split at hx
    · rename_i hdc; subst hdc
      exact h.sub d x (by rw [getD_at hc]; simp [hx])
    · exact h.sub d x hx
  · intro d hd
    rw [getD_set hcl, if_neg (show ¬ d = c from fun e => hd (by rw [e]; exact hvc))]
    exact h.new d hd
/-- An edge is taken that leads to where one has not been. -/
theorem Bs.push {XS RS : List (List Ed)} {s0 c j : Nat} {st os : List Int} {e : Ed} {rest : List Ed} {x y : Int} (h : Bs XS RS s0 st os) (hc : RS[c]? = some (e :: rest)) (hvc : vis st c) (hj : e.t = (j : Int)) (hx : st[j]? = some x) (hx0 : x < 0) (hy : st[c]? = some y) :
    Bs XS (RS.set c rest) s0 (st.set j (y + 1)) (os ++ [(j : Int)]) ∧ cnt (st.set j (y + 1)) = cnt st + 1 := by
  have hcl := (List.getElem?_eq_some_iff.1 hc).1
  have hjl := (List.getElem?_eq_some_iff.1 hx).1
  have hy0 : 0 ≤ y := by obtain ⟨y', h1, h2⟩ := hvc; rw [hy] at h1; injection h1 with h1; omega
  have hcn := cnt_set st j x (y + 1) hx hx0 (by omega)
  have hmem : e ∈ XS.getD c [] := h.sub c e (by rw [getD_at hc]; simp)
  have hv : ∀ d, vis (st.set j (y + 1)) d ↔ d = j ∨ vis st d := by
    intro d
    unfold vis
    by_cases hd : j = d
    · subst hd
      rw [List.getElem?_set_self hjl]
      exact ⟨fun _ => .inl rfl, fun _ => ⟨_, rfl, by omega⟩⟩
    · rw [List.getElem?_set_ne hd]
      exact ⟨.inr, fun h => h.elim (fun e => absurd e.symm hd) id⟩
  have hnj : ¬ vis st j := by rintro ⟨z, h1, h2⟩; rw [hx] at h1; injection h1 with h1; omega
  refine ⟨⟨by rw [List.length_set]; exact h.len, by rw [List.length_set]; exact h.lenR, ?_, ?_, (hv s0).2 (.inr h.strt), ?_, ?_, ?_, ?_⟩, hcn⟩
  · intro z hz
    rcases List.mem_append.1 hz with hz | hz
    · obtain ⟨d, h1, h2, h3⟩ := h.opn z hz
      exact ⟨d, h1, h2, (hv d).2 (.inr h3)⟩
    · rw [List.mem_singleton] at hz
      exact ⟨j, hz, by rw [← h.len]; exact hjl, (hv j).2 (.inl rfl)⟩
  · intro d hd
    rcases (hv d).1 hd with rfl | hd
    · exact .step c d (h.seen c hvc) ⟨e, hmem, hj⟩
    · exact h.seen d hd
  · intro d hd z hz
    rcases (hv d).1 hd with rfl | hd
    · -- the new one: its row is whole
      by_cases hdc : d = c
      · exact absurd (hdc ▸ hvc) hnj
      · by_cases hzv : vis st z.t.toNat
        · exact .inl ((hv _).2 (.inr hzv))
        · refine .inr ⟨?_, by simp⟩
          rw [getD_set hcl, if_neg hdc, h.new d hnj]
          exact hz
    · rcases h.clos d hd z hz with h1 | ⟨h1, h2⟩
      · exact .inl ((hv _).2 (.inr h1))
      · rw [getD_set hcl]
        by_cases hdc : d = c
        · subst hdc
          rw [if_pos rfl]
          rw [getD_at hc] at h1
          rcases List.mem_cons.1 h1 with rfl | h1
          · exact .inl ((hv _).2 (.inl (by omega)))
          · exact .inr ⟨h1, by simp [h2]⟩
        · rw [if_neg hdc]; exact .inr ⟨h1, by simp [h2]⟩
  · intro d z hz
    rw [getD_set hcl] at hz
    split at hz
    · rename_i hdc; subst hdc
      exact h.sub d z (by rw [getD_at hc]; simp [hz])
    · exact h.sub d z hz
  · intro d z hz
    rw [hcn]
    by_cases hd : j = d
    · subst hd
      rw [List.getElem?_set_self hjl] at hz
      injection hz with hz
      have := h.num c y hy
      omega
    · rw [List.getElem?_set_ne hd] at hz
      have := h.num d z hz
      omega
  · intro d hd
    have h1 : ¬ vis st d := fun e => hd ((hv d).2 (.inr e))
    rw [getD_set hcl, if_neg (show ¬ d = c from fun e => h1 (by rw [e]; exact hvc))]
    exact h.new d h1
/-- A row that is empty: its point need not be gone over. -/
theorem Bs.drop {XS RS : List (List Ed)} {s0 c : Nat} {st os : List Int} (h : Bs XS RS s0 st ((c : Int) :: os)) (hc : RS.getD c [] = []) : Bs XS RS s0 st os :=
  ⟨h.len, h.lenR, fun x hx => h.opn x (by simp [hx]), h.seen, h.strt, fun d hd e he => by
    rcases h.clos d hd e he with h1 | ⟨h1, h2⟩
    · exact .inl h1
    · rcases List.mem_cons.1 h2 with h2 | h2
      · have : d = c := by omega
        subst this
        rw [hc] at h1; cases h1
      · exact .inr ⟨h1, h2⟩, h.sub, h.num, h.new⟩
/-- The queue is empty. -/
theorem Bs.end_ {XS RS : List (List Ed)} {s0 : Nat} {st : List Int} (h : Bs XS RS s0 st []) (c : Nat) : vis st c ↔ Rs XS s0 c := by
  constructor
  · exact h.seen c
  · intro hr
    induction hr with
    | refl => exact h.strt
    | step c d _ hd ih =>
      obtain ⟨e, he, hed⟩ := hd
      rcases h.clos c ih e he with h1 | ⟨_, h1⟩
      · rw [hed] at h1; simpa using h1
      · cases h1
end Go.Proofs.YtnkimfbdcghgpaaDoor
