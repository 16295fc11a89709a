/-
  DERIVED. The search for circles by depth: what holds while it runs.
-/
import Derived.Test.YtnkimfbdcghgpaaDoorXp
namespace Go.Proofs.YtnkimfbdcghgpaaDoor

/-- Shut one behind the other, each behind all to which it leads. -/
inductive Sh (XS : List (List Ed)) : List Nat → Prop
  | nil : Sh XS []
  | snoc (sh : List Nat) (p : Nat) : Sh XS sh → (∀ e ∈ XS.getD p [], e.t.toNat ∈ sh) → p ∉ sh → Sh XS (sh ++ [p])
/-- From what is shut one comes to what is shut ahead of it. -/
theorem Sh.no {XS : List (List Ed)} (hE : InE XS) {sh : List Nat} (h : Sh XS sh) : (∀ p ∈ sh, ∀ q, Rs XS p q → q ∈ sh) ∧ ∀ p ∈ sh, ∀ e ∈ XS.getD p [], ¬ Rs XS e.t.toNat p := by
  induction h with
  | nil => exact ⟨fun p hp => (by cases hp), fun p hp => (by cases hp)⟩
  | snoc sh p h1 h2 h3 ih =>
    have hcl : ∀ q ∈ sh ++ [p], ∀ e ∈ XS.getD q [], e.t.toNat ∈ sh := by
      intro q hq e he
      rcases List.mem_append.1 hq with hq | hq
      · refine ih.1 q hq _ (.step q _ .refl ⟨e, he, ?_⟩)
        have := (hE q e he).1; omega
      · rw [List.mem_singleton] at hq; subst hq; exact h2 e he
    refine ⟨fun q hq r hr => ?_, fun q hq e he hr => ?_⟩
    · induction hr with
      | refl => exact hq
      | step c d _ hd ihc =>
        obtain ⟨e, he, hed⟩ := hd
        have := hcl c ihc e he
        rw [hed] at this
        simp at this
        simp [this]
    · rcases List.mem_append.1 hq with hq | hq
      · exact ih.2 q hq e he hr
      · rw [List.mem_singleton] at hq; subst hq
        exact h3 (ih.1 _ (h2 e he) q hr)
/-- There is a circle. -/
def Circ (XS : List (List Ed)) : Prop := ∃ p, ∃ e ∈ XS.getD p [], Rs XS e.t.toNat p

def Chn (XS RS : List (List Ed)) (m : List Int) : Nat → List Nat → Prop
  | _, [] => True
  | t, p :: r => (∃ e ∈ XS.getD p [], e.t = (t : Int)) ∧ m[p]? = some 1 ∧ (∀ e ∈ XS.getD p [], e ∈ RS.getD p [] ∨ m[e.t.toNat]? = some 2 ∨ e.t = (t : Int)) ∧ Chn XS RS m p r
theorem Chn.rs {XS RS : List (List Ed)} {m : List Int} : ∀ {t : Nat} {r : List Nat}, Chn XS RS m t r → ∀ p ∈ r, Rs XS p t
  | _, [], _, _, hp => by cases hp
  | t, q :: r, h, p, hp => by
    have h1 : Rs XS q t := .step q t .refl h.1
    rcases List.mem_cons.1 hp with rfl | hp
    · exact h1
    · exact (Chn.rs h.2.2.2 p hp).trans h1
theorem Chn.ones {XS RS : List (List Ed)} {m : List Int} : ∀ {t : Nat} {r : List Nat}, Chn XS RS m t r → ∀ p ∈ r, m[p]? = some (1 : Int)
  | _, [], _, _, hp => by cases hp
  | t, q :: r, h, p, hp => by
    rcases List.mem_cons.1 hp with rfl | hp
    · exact h.2.1
    · exact Chn.ones h.2.2.2 p hp
theorem Chn.keep {XS RS RS' : List (List Ed)} {m m' : List Int} : ∀ {t : Nat} {r : List Nat}, Chn XS RS m t r → (∀ p ∈ r, m'[p]? = some (1 : Int)) → (∀ q : Nat, m[q]? = some (2 : Int) → m'[q]? = some (2 : Int)) → (∀ p ∈ r, RS'.getD p [] = RS.getD p []) → Chn XS RS' m' t r
  | _, [], _, _, _, _ => trivial
  | t, p :: r, h, h1, h2, h3 => ⟨h.1, h1 p (by simp), fun e he => by
      rcases h.2.2.1 e he with h4 | h4 | h4
      · exact .inl (by rw [h3 p (by simp)]; exact h4)
      · exact .inr (.inl (h2 _ h4))
      · exact .inr (.inr h4), Chn.keep h.2.2.2 (fun q hq => h1 q (by simp [hq])) h2 (fun q hq => h3 q (by simp [hq]))⟩

structure Df (XS RS : List (List Ed)) (m : List Int) (sh : List Nat) (ps : List Nat) : Prop where
  len : m.length = XS.length
  lenR : RS.length = XS.length
  val : ∀ (p : Nat) (x : Int), m[p]? = some x → x = 0 ∨ x = 1 ∨ x = 2
  shut : ∀ p : Nat, m[p]? = some (2 : Int) ↔ p ∈ sh
  ord : Sh XS sh
  new : ∀ p : Nat, m[p]? = some (0 : Int) → RS.getD p [] = XS.getD p []
  sub : ∀ c, ∀ e ∈ RS.getD c [], e ∈ XS.getD c []
  one : ∀ p : Nat, m[p]? = some (1 : Int) → p ∈ ps
  nd : ps.Nodup
  inr : ∀ p ∈ ps, p < XS.length
  top : ∀ t r, ps = t :: r → (m[t]? = some 0 ∨ (m[t]? = some 1 ∧ ∀ e ∈ XS.getD t [], e ∈ RS.getD t [] ∨ m[e.t.toNat]? = some 2)) ∧ Chn XS RS m t r
/-- Now it is on the way. -/
theorem Df.mark {XS RS : List (List Ed)} {m : List Int} {sh : List Nat} {t : Nat} {r : List Nat} (h : Df XS RS m sh (t :: r)) : Df XS RS (m.set t 1) sh (t :: r) ∧ (m.set t 1)[t]? = some 1 := by
  have ht : t < m.length := by rw [h.len]; exact h.inr t (by simp)
  obtain ⟨htop, hch⟩ := h.top t r rfl
  have h2 : m[t]? ≠ some (2 : Int) := by rcases htop with e | ⟨e, _⟩ <;> (rw [e]; simp)
  have hs : ∀ (q : Nat) (x : Int), (m.set t 1)[q]? = some x ↔ (q = t ∧ x = 1) ∨ (q ≠ t ∧ m[q]? = some x) := by
    intro q x
    by_cases hq : t = q
    · subst hq; rw [List.getElem?_set_self ht]; simp; exact eq_comm
    · rw [List.getElem?_set_ne hq]
      have : q ≠ t := fun e => hq e.symm
      simp [this]
  have h2' : ∀ q : Nat, m[q]? = some (2 : Int) → (m.set t 1)[q]? = some (2 : Int) := fun q hq => (hs q 2).2 (.inr ⟨fun e => h2 (e ▸ hq), hq⟩)
  refine ⟨⟨by rw [List.length_set]; exact h.len, h.lenR, ?_, ?_, h.ord, ?_, h.sub, ?_, h.nd, h.inr, ?_⟩, (hs t 1).2 (.inl ⟨rfl, rfl⟩)⟩
  · intro p x hx
    rcases (hs p x).1 hx with ⟨_, rfl⟩ | ⟨_, hx⟩
    · simp
    · exact h.val p x hx
  · intro p
    constructor
    · intro hp
      rcases (hs p 2).1 hp with ⟨_, e⟩ | ⟨_, hp⟩
      · cases e
      · exact (h.shut p).1 hp
    · exact fun hp => h2' p ((h.shut p).2 hp)
  · intro p hp
    rcases (hs p 0).1 hp with ⟨_, e⟩ | ⟨_, hp⟩
    · cases e
    · exact h.new p hp
  · intro p hp
    rcases (hs p 1).1 hp with ⟨e, _⟩ | ⟨_, hp⟩
    · rw [e]; simp
    · exact h.one p hp
  · intro t' r' e
    injection e with e1 e2
    subst e1; subst e2
    refine ⟨.inr ⟨(hs t 1).2 (.inl ⟨rfl, rfl⟩), fun e he => ?_⟩, hch.keep (fun p hp => ?_) h2' (fun _ _ => rfl)⟩
    · rcases htop with h0 | ⟨_, h1⟩
      · left; rw [h.new t h0]; exact he
      · rcases h1 e he with h1 | h1
        · exact .inl h1
        · exact .inr (h2' _ h1)
    · by_cases hpt : p = t
      · exact (hs p 1).2 (.inl ⟨hpt, rfl⟩)
      · refine (hs p 1).2 (.inr ⟨hpt, ?_⟩)
        exact hch.ones p hp
/-- The first edge of the top's row is taken. -/
theorem Df.skip {XS RS : List (List Ed)} {m : List Int} {sh : List Nat} {t : Nat} {r : List Nat} {e : Ed} {rest : List Ed} (h : Df XS RS m sh (t :: r)) (ht : m[t]? = some (1 : Int)) (hc : RS[t]? = some (e :: rest)) (h2 : m[e.t.toNat]? = some (2 : Int)) : Df XS (RS.set t rest) m sh (t :: r) := by
  have hcl := (List.getElem?_eq_some_iff.1 hc).1
  obtain ⟨htop, hch⟩ := h.top t r rfl
  have hnr : t ∉ r := (List.nodup_cons.1 h.nd).1
  refine ⟨h.len, by rw [List.length_set]; exact h.lenR, h.val, h.shut, h.ord, ?_, ?_, h.one, h.nd, h.inr, ?_⟩
  · intro p hp
    rw [getD_set hcl, if_neg (show ¬ p = t from fun e => by rw [e, ht] at hp; cases hp)]
    exact h.new p hp
  · intro c z hz
    rw [getD_set hcl] at hz
    split at hz
    · rename_i hct; subst hct
      exact h.sub c z (by rw [getD_at hc]; simp [hz])
    · exact h.sub c z hz
  · intro t' r' e'
    injection e' with e1 e2
    subst e1; subst e2
    refine ⟨.inr ⟨ht, fun z hz => ?_⟩, hch.keep hch.ones (fun _ h => h) (fun p hp => by rw [getD_set hcl, if_neg (show ¬ p = t from fun e => hnr (e ▸ hp))])⟩
    rw [getD_set hcl, if_pos rfl]
    rcases htop with h0 | ⟨_, h1⟩
    · rw [ht] at h0; cases h0
    · rcases h1 z hz with h1 | h1
      · rw [getD_at hc] at h1
        rcases List.mem_cons.1 h1 with rfl | h1
        · exact .inr h2
        · exact .inl h1
      · exact .inr h1
/-- The edge leads to where one is. -/
theorem Df.circ {XS RS : List (List Ed)} {m : List Int} {sh : List Nat} {t : Nat} {r : List Nat} {e : Ed} {rest : List Ed} (h : Df XS RS m sh (t :: r)) (hc : RS[t]? = some (e :: rest)) (h1 : m[e.t.toNat]? = some (1 : Int)) : Circ XS := by
  refine ⟨t, e, h.sub t e (by rw [getD_at hc]; simp), ?_⟩
  rcases List.mem_cons.1 (h.one _ h1) with h2 | h2
  · rw [h2]; exact .refl
  · exact (h.top t r rfl).2.rs _ h2
/-- The edge leads to where one has not been. -/
theorem Df.push {XS RS : List (List Ed)} {m : List Int} {sh : List Nat} {t j : Nat} {r : List Nat} {e : Ed} {rest : List Ed} (h : Df XS RS m sh (t :: r)) (ht : m[t]? = some (1 : Int)) (hc : RS[t]? = some (e :: rest)) (hj : e.t = (j : Int)) (h0 : m[j]? = some (0 : Int)) : Df XS (RS.set t rest) m sh (j :: t :: r) := by
  have hcl := (List.getElem?_eq_some_iff.1 hc).1
  obtain ⟨htop, hch⟩ := h.top t r rfl
  have hnr : t ∉ r := (List.nodup_cons.1 h.nd).1
  have hjt : j ≠ t := fun e => by rw [e, ht] at h0; cases h0
  have hjr : j ∉ r := fun hjr => by have := hch.ones j hjr; rw [h0] at this; cases this
  refine ⟨h.len, by rw [List.length_set]; exact h.lenR, h.val, h.shut, h.ord, ?_, ?_, fun p hp => by simp only [List.mem_cons]; right; simpa using h.one p hp, List.nodup_cons.2 ⟨by simp [hjt, hjr], h.nd⟩, ?_, ?_⟩
  · intro p hp
    rw [getD_set hcl, if_neg (show ¬ p = t from fun e => by rw [e, ht] at hp; cases hp)]
    exact h.new p hp
  · intro c z hz
    rw [getD_set hcl] at hz
    split at hz
    · rename_i hct; subst hct
      exact h.sub c z (by rw [getD_at hc]; simp [hz])
    · exact h.sub c z hz
  · intro p hp
    rcases List.mem_cons.1 hp with rfl | hp
    · rw [← h.len]; exact (List.getElem?_eq_some_iff.1 h0).1
    · exact h.inr p hp
  · intro t' r' e'
    injection e' with e1 e2
    subst e1; subst e2
    refine ⟨.inl h0, ⟨e, h.sub t e (by rw [getD_at hc]; simp), hj⟩, ht, fun z hz => ?_, hch.keep hch.ones (fun _ h => h) (fun p hp => by rw [getD_set hcl, if_neg (show ¬ p = t from fun e => hnr (e ▸ hp))])⟩
    rw [getD_set hcl, if_pos rfl]
    rcases htop with h3 | ⟨_, h1⟩
    · rw [ht] at h3; cases h3
    · rcases h1 z hz with h1 | h1
      · rw [getD_at hc] at h1
        rcases List.mem_cons.1 h1 with rfl | h1
        · exact .inr (.inr hj)
        · exact .inl h1
      · exact .inr (.inl h1)
/-- The top's row is empty: it is shut. -/
theorem Df.pop {XS RS : List (List Ed)} {m : List Int} {sh : List Nat} {t : Nat} {r : List Nat} (h : Df XS RS m sh (t :: r)) (ht : m[t]? = some (1 : Int)) (hc : RS.getD t [] = []) : Df XS RS (m.set t 2) (sh ++ [t]) r := by
  have htl : t < m.length := (List.getElem?_eq_some_iff.1 ht).1
  obtain ⟨htop, hch⟩ := h.top t r rfl
  have hnr : t ∉ r := (List.nodup_cons.1 h.nd).1
  have hs : ∀ (q : Nat) (x : Int), (m.set t 2)[q]? = some x ↔ (q = t ∧ x = 2) ∨ (q ≠ t ∧ m[q]? = some x) := by
    intro q x
    by_cases hq : t = q
    · subst hq; rw [List.getElem?_set_self htl]; simp; exact eq_comm
    · rw [List.getElem?_set_ne hq]
      have : q ≠ t := fun e => hq e.symm
      simp [this]
  have h2' : ∀ q : Nat, m[q]? = some (2 : Int) → (m.set t 2)[q]? = some (2 : Int) := fun q hq => (hs q 2).2 (.inr ⟨fun e => (by rw [e, ht] at hq; cases hq), hq⟩)
  have hsh : t ∉ sh := fun e => by have := (h.shut t).2 e; rw [ht] at this; cases this
  refine ⟨by rw [List.length_set]; exact h.len, h.lenR, ?_, ?_, .snoc sh t h.ord ?_ hsh, ?_, h.sub, ?_, (List.nodup_cons.1 h.nd).2, fun p hp => h.inr p (by simp [hp]), ?_⟩
  · intro p x hx
    rcases (hs p x).1 hx with ⟨_, rfl⟩ | ⟨_, hx⟩
    · simp
    · exact h.val p x hx
  · intro p
    constructor
    · intro hp
      rcases (hs p 2).1 hp with ⟨e, _⟩ | ⟨_, hp⟩
      · simp [e]
      · have := (h.shut p).1 hp; simp [this]
    · intro hp
      rcases List.mem_append.1 hp with hp | hp
      · exact h2' p ((h.shut p).2 hp)
      · rw [List.mem_singleton] at hp
        exact (hs p 2).2 (.inl ⟨hp, rfl⟩)
  · intro e he
    rcases htop with h0 | ⟨_, h1⟩
    · rw [ht] at h0; cases h0
    · rcases h1 e he with h1 | h1
      · rw [hc] at h1; cases h1
      · exact (h.shut _).1 h1
  · intro p hp
    rcases (hs p 0).1 hp with ⟨_, e⟩ | ⟨_, hp⟩
    · cases e
    · exact h.new p hp
  · intro p hp
    rcases (hs p 1).1 hp with ⟨_, e⟩ | ⟨hpt, hp⟩
    · cases e
    · rcases List.mem_cons.1 (h.one p hp) with e | e
      · exact absurd e hpt
      · exact e
  · intro t' r' e'
    subst e'
    have hm1 : ∀ p ∈ t' :: r', (m.set t 2)[p]? = some (1 : Int) := fun p hp => (hs p 1).2 (.inr ⟨fun e => hnr (e ▸ hp), hch.ones p hp⟩)
    refine ⟨.inr ⟨hm1 t' (by simp), fun e he => ?_⟩, hch.2.2.2.keep (fun p hp => hm1 p (by simp [hp])) h2' (fun _ _ => rfl)⟩
    rcases hch.2.2.1 e he with h1 | h1 | h1
    · exact .inl h1
    · exact .inr (h2' _ h1)
    · right
      rw [h1]
      have := (hs t 2).2 (.inl ⟨rfl, rfl⟩)
      simpa using this
/-- A point that has not been met is gone to. -/
theorem Df.open_ {XS RS : List (List Ed)} {m : List Int} {sh : List Nat} {j : Nat} (h : Df XS RS m sh []) (h0 : m[j]? = some (0 : Int)) : Df XS RS m sh [j] :=
  ⟨h.len, h.lenR, h.val, h.shut, h.ord, h.new, h.sub, fun p hp => (by cases h.one p hp), List.nodup_cons.2 ⟨by simp, List.nodup_nil⟩, fun p hp => by
    rw [List.mem_singleton] at hp
    rw [hp, ← h.len]; exact (List.getElem?_eq_some_iff.1 h0).1, fun t r e => by
    injection e with e1 e2
    subst e1; subst e2
    exact ⟨.inl h0, trivial⟩⟩
theorem Df.start (XS : List (List Ed)) : Df XS XS (List.replicate XS.length 0) [] [] := by
  have hv : ∀ (p : Nat) (x : Int), (List.replicate XS.length (0 : Int))[p]? = some x → x = 0 := by
    intro p x hx
    rw [List.getElem?_replicate] at hx
    split at hx
    · injection hx with hx; exact hx.symm
    · cases hx
  exact ⟨by simp, rfl, fun p x hx => .inl (hv p x hx), fun p => ⟨fun h => (by have := hv p 2 h; omega), fun h => (by cases h)⟩, .nil, fun _ _ => rfl, fun _ _ h => h, fun p hp => (by have := hv p 1 hp; omega), List.nodup_nil, fun p hp => (by cases hp), fun t r e => (by cases e)⟩
/-- All is shut: there is no circle. -/
theorem Df.none {XS RS : List (List Ed)} (hE : InE XS) {m : List Int} {sh : List Nat} (h : Df XS RS m sh []) (ha : ∀ p, p < XS.length → m[p]? ≠ some (0 : Int)) : ¬ Circ XS := by
  rintro ⟨p, e, he, hr⟩
  have hp : p < XS.length := by
    apply Nat.lt_of_not_le
    intro hle
    rw [List.getD_eq_getElem?_getD, List.getElem?_eq_none hle] at he
    cases he
  obtain ⟨x, hx⟩ : ∃ x, m[p]? = some x := ⟨_, List.getElem?_eq_getElem (by rw [h.len]; exact hp)⟩
  have hsh : p ∈ sh := by
    rcases h.val p x hx with rfl | rfl | rfl
    · exact absurd hx (ha p hp)
    · cases h.one p hx
    · exact (h.shut p).1 hx
  exact (h.ord.no hE).2 p hsh e he hr
end Go.Proofs.YtnkimfbdcghgpaaDoor
