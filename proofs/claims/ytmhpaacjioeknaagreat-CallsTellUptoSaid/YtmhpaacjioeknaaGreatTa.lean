/-
  DERIVED. Plain: the search for rounds (each call as deep as it leads), as the program does it, and what holds while it goes on.
-/
import Derived.Test.YtmhpaacjioeknaaGreatP14
namespace Go.Proofs.YtmhpaacjioeknaaGreat
namespace Tj

/-- The rank of those that are closed. -/
def top : Int := 9223372036854775807
structure St where
  met : Nat
  rank : List Int
  low : List Int
  done : List Int
  path : List Nat
  opn : List Nat
  first : Nat
def St.rk (s : St) (v : Nat) : Int := s.rank.getD v 0
def St.lw (s : St) (v : Nat) : Int := s.low.getD v 0
def St.dn (s : St) (v : Nat) : Int := s.done.getD v 0
def meet (s : St) (i : Nat) : St := { s with met := s.met + 1, rank := s.rank.set i ((s.met : Int) + 1), low := s.low.set i ((s.met : Int) + 1), path := s.path ++ [i], opn := s.opn ++ [i] }
def bump (s : St) (a : Nat) : St := { s with done := s.done.set a (s.dn a + 1) }
def lower (s : St) (a : Nat) (m : Int) : St := { s with low := s.low.set a (min (s.lw a) m) }

theorem gs (l : List Int) (i v : Nat) (x : Int) (h : i < l.length) : (l.set i x).getD v 0 = if v = i then x else l.getD v 0 := by
  rw [List.getD_eq_getElem?_getD, List.getElem?_set, List.getD_eq_getElem?_getD]
  by_cases e : i = v
  · subst e; simp [h]
  · rw [if_neg e, if_neg (fun q => e q.symm)]
/-- The nodes to which one comes by no call or more. -/
def Rs (XS : List (List Int)) (a b : Nat) : Prop := a = b ∨ Rt XS a b
theorem Rs.refl {XS : List (List Int)} (a : Nat) : Rs XS a a := .inl rfl
theorem rtt {XS : List (List Int)} {a b c : Nat} (h1 : Rt XS a b) (h2 : Rt XS b c) : Rt XS a c := by
  induction h2 with
  | one c hc => exact .step b c h1 hc
  | step c d _ hd ih => exact .step c d ih hd
theorem Rs.trans {XS : List (List Int)} {a b c : Nat} (h : Rs XS a b) (k : Rs XS b c) : Rs XS a c := by
  rcases h with rfl | h
  · exact k
  · rcases k with rfl | k
    · exact .inr h
    · exact .inr (rtt h k)
/-- a calls b. -/
def E (XS : List (List Int)) (a b : Nat) : Prop := (b : Int) ∈ XS.getD a []
theorem E.rs {XS : List (List Int)} {a b : Nat} (h : E XS a b) : Rs XS a b := .inr (.one b h)

structure Inv (XS : List (List Int)) (s : St) : Prop where
  inr : InR XS
  big : XS.length ≤ 1000
  lr : s.rank.length = XS.length
  ll : s.low.length = XS.length
  ld : s.done.length = XS.length
  opn : ∀ v ∈ s.opn, v < XS.length ∧ 1 ≤ s.rk v ∧ s.rk v ≤ s.met
  srt : s.opn.Pairwise (fun a b => s.rk a < s.rk b)
  sta : ∀ v, v < XS.length → v ∈ s.opn ∨ s.rk v = 0 ∨ s.rk v = top
  pth : ∀ p ∈ s.path, p ∈ s.opn
  psr : s.path.Pairwise (fun a b => s.rk a < s.rk b)
  con : s.path.Pairwise (Rs XS)
  low : ∀ p ∈ s.path, s.lw p ≤ s.rk p ∧ ∃ w ∈ s.opn, Rs XS p w ∧ s.rk w = s.lw p
  anc : ∀ u ∈ s.opn, ∃ p ∈ s.path, s.rk p ≤ s.rk u ∧ (∀ q ∈ s.path, s.rk q ≤ s.rk u → s.rk q ≤ s.rk p) ∧ Rs XS p u ∧ Rs XS u p ∧ ∀ i : Nat, (i : Int) < s.dn u → ∀ x : Nat, (XS.getD u [])[i]? = some (x : Int) → x ∈ s.opn → s.lw p ≤ s.rk x
  fin : ∀ u ∈ s.opn, u ∉ s.path → s.dn u = (XS.getD u []).length
  seen : ∀ u, u < XS.length → ∀ i : Nat, (i : Int) < s.dn u → ∀ x : Nat, (XS.getD u [])[i]? = some (x : Int) → s.rk x ≠ 0
  dle : ∀ u, u < XS.length → 0 ≤ s.dn u ∧ s.dn u ≤ (XS.getD u []).length
  new : ∀ u, u < XS.length → s.rk u = 0 → s.dn u = 0
  clo : ∀ u, u < XS.length → s.rk u = top → ∀ x : Nat, E XS u x → s.rk x = top
  fst : s.first ≤ XS.length ∧ (s.first < XS.length → Rt XS s.first s.first) ∧ ∀ u, u < XS.length → s.rk u = top → Rt XS u u → s.first ≤ u
  cnt : s.met + s.rank.countP (fun x => x == 0) = XS.length

theorem Inv.lt {XS : List (List Int)} {s : St} (h : Inv XS s) {v x : Nat} (he : E XS v x) : x < XS.length := by
  have := inr_at h.inr he; omega
theorem Inv.ne_top {XS : List (List Int)} {s : St} (h : Inv XS s) {v : Nat} (hv : v ∈ s.opn) : s.rk v ≠ top ∧ s.rk v ≠ 0 := by
  have h1 := h.opn v hv
  have h2 := h.cnt
  have h3 := h.big
  unfold top
  constructor <;> omega
theorem Inv.notin {XS : List (List Int)} {s : St} (h : Inv XS s) {v : Nat} (hv : s.rk v = 0) : v ∉ s.opn := fun hm => (h.ne_top hm).2 hv
/-- In a list that rises by rank the same rank is the same place. -/
theorem Inv.inj {XS : List (List Int)} {s : St} (h : Inv XS s) {a b : Nat} (ha : a ∈ s.opn) (hb : b ∈ s.opn) (he : s.rk a = s.rk b) : a = b := by
  have hs := h.srt
  revert ha hb hs
  generalize s.opn = l
  induction l with
  | nil => intro ha; cases ha
  | cons c r ih =>
    intro ha hb hs
    rw [List.pairwise_cons] at hs
    rcases List.mem_cons.1 ha with ea | ha'
    · rcases List.mem_cons.1 hb with eb | hb'
      · rw [ea, eb]
      · have := hs.1 b hb'; rw [ea] at he; omega
    · rcases List.mem_cons.1 hb with eb | hb'
      · have := hs.1 a ha'; rw [eb] at he; omega
      · exact ih ha' hb' hs.2
theorem pair_last {R : Nat → Nat → Prop} {l : List Nat} {a : Nat} (h : (l ++ [a]).Pairwise R) : ∀ b ∈ l, R b a := by
  intro b hb
  rw [List.pairwise_append] at h
  exact h.2.2 b hb a (by simp)
/-- The path's last one has the greatest rank on it. -/
theorem Inv.last {XS : List (List Int)} {s : St} (h : Inv XS s) {l : List Nat} {a : Nat} (hp : s.path = l ++ [a]) : ∀ q ∈ l, s.rk q < s.rk a := by
  have h1 := h.psr
  rw [hp] at h1
  exact pair_last h1
theorem Inv.start (XS : List (List Int)) (hr : InR XS) (hb : XS.length ≤ 1000) : Inv XS ⟨0, List.replicate XS.length 0, List.replicate XS.length 0, List.replicate XS.length 0, [], [], XS.length⟩ := by
  have h0 : ∀ v, (List.replicate XS.length (0 : Int)).getD v 0 = 0 := by
    intro v
    rw [List.getD_eq_getElem?_getD, List.getElem?_replicate]
    split <;> rfl
  have ht : (0 : Int) ≠ top := by decide
  constructor
  · exact hr
  · exact hb
  · simp
  · simp
  · simp
  · intro v hv; cases hv
  · exact List.Pairwise.nil
  · intro v _; exact .inr (.inl (h0 v))
  · intro p hp; cases hp
  · exact List.Pairwise.nil
  · exact List.Pairwise.nil
  · intro p hp; cases hp
  · intro u hu; cases hu
  · intro u hu; cases hu
  · intro u _ i hi; have := h0 u; simp only [St.dn] at hi; omega
  · intro u _; simp only [St.dn]; rw [h0]; omega
  · intro u _ _; exact h0 u
  · intro u _ hu; simp only [St.rk] at hu; rw [h0] at hu; exact absurd hu ht
  · refine ⟨Nat.le_refl _, fun h => absurd h (Nat.lt_irrefl _), fun u _ hu => ?_⟩
    simp only [St.rk] at hu; rw [h0] at hu; exact absurd hu ht
  · simp [List.countP_replicate]
end Tj
end Go.Proofs.YtmhpaacjioeknaaGreat
