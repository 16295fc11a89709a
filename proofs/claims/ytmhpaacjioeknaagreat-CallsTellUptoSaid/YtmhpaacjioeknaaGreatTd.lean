/-
  DERIVED. Plain: the search: a round is closed; the start at one more; the end: the first one that comes to itself.
-/
import Derived.Test.YtmhpaacjioeknaaGreatTc
namespace Go.Proofs.YtmhpaacjioeknaaGreat
namespace Tj

/-- All these are closed. -/
def shut (r : List Int) : List Nat → List Int
  | [] => r
  | v :: vs => shut (r.set v top) vs
theorem shut_len : ∀ (vs : List Nat) (r : List Int), (shut r vs).length = r.length
  | [], _ => rfl
  | v :: vs, r => by rw [shut, shut_len vs, List.length_set]
theorem shut_get : ∀ (vs : List Nat) (r : List Int), (∀ v ∈ vs, v < r.length) → ∀ u, (shut r vs).getD u 0 = if u ∈ vs then top else r.getD u 0
  | [], r, _, u => by simp [shut]
  | v :: vs, r, h, u => by
    rw [shut, shut_get vs _ (fun x hx => by rw [List.length_set]; exact h x (by simp [hx])), gs _ _ _ _ (h v (by simp))]
    by_cases h1 : u ∈ vs
    · simp [h1]
    · by_cases h2 : u = v
      · simp [h2]
      · simp [h1, h2]
theorem count_keep : ∀ (l : List Int) (i : Nat) (x : Int), l.getD i 0 ≠ 0 → x ≠ 0 → (l.set i x).countP (fun y => y == 0) = l.countP (fun y => y == 0)
  | [], i, x, h, _ => by simp
  | y :: r, 0, x, h, hx => by
    have hy : y ≠ 0 := by simpa using h
    simp [hx, hy]
  | y :: r, i + 1, x, h, hx => by
    have ih := count_keep r i x (by simpa using h) hx
    rw [List.set_cons_succ, List.countP_cons, List.countP_cons, ih]
theorem shut_count : ∀ (vs : List Nat) (r : List Int), (∀ v ∈ vs, v < r.length ∧ r.getD v 0 ≠ 0) → (shut r vs).countP (fun y => y == 0) = r.countP (fun y => y == 0)
  | [], _, _ => rfl
  | v :: vs, r, h => by
    have hv := h v (by simp)
    rw [shut, shut_count vs _ (fun x hx => by
      have h1 := h x (by simp [hx])
      refine ⟨by rw [List.length_set]; exact h1.1, ?_⟩
      rw [gs _ _ _ _ hv.1]
      split
      · decide
      · exact h1.2)]
    exact count_keep r v top hv.2 (by decide)
/-- The first step of a way. -/
theorem rt_first {XS : List (List Int)} {a b : Nat} (h : Rt XS a b) : ∃ c, E XS a c ∧ Rs XS c b := by
  induction h with
  | one c hc => exact ⟨c, hc, Rs.refl _⟩
  | step c d _ hd ih =>
    obtain ⟨e, h1, h2⟩ := ih
    exact ⟨e, h1, h2.trans (E.rs hd)⟩
theorem Inv.rt_lt {XS : List (List Int)} {s : St} (h : Inv XS s) {a b : Nat} (hr : Rt XS a b) : b < XS.length := by
  cases hr with
  | one c hc => exact h.lt hc
  | step c d _ hd => exact h.lt hd
/-- From a closed one one comes to closed ones alone. -/
theorem Inv.clo_rs {XS : List (List Int)} {s : St} (h : Inv XS s) {a b : Nat} (ha : a < XS.length) (ht : s.rk a = top) (hr : Rs XS a b) : s.rk b = top := by
  rcases hr with rfl | hr
  · exact ht
  · have : s.rk b = top ∧ b < XS.length := by
      induction hr with
      | one c hc => exact ⟨h.clo a ha ht c hc, h.lt hc⟩
      | step c d hcd hd ih => exact ⟨h.clo c ih.2 ih.1 d hd, h.lt hd⟩
    exact this.1
theorem rs_rt {XS : List (List Int)} {a b : Nat} (h : Rs XS a b) (hne : a ≠ b) : Rt XS a b := by
  rcases h with h | h
  · exact absurd h hne
  · exact h
theorem rt_rs {XS : List (List Int)} {a b c : Nat} (h : Rt XS a b) (k : Rs XS b c) : Rt XS a c := by
  rcases k with rfl | k
  · exact h
  · exact rtt h k
/-- What close leaves. -/
def close (s : St) (pre round : List Nat) (f : Nat) : St := { s with opn := pre, rank := shut s.rank round, first := f }
theorem Inv.close {XS : List (List Int)} {s : St} (h : Inv XS s) {l : List Nat} {a : Nat} (hp : s.path = l ++ [a]) (hd : s.dn a = (XS.getD a []).length) (hl : s.lw a = s.rk a)
    {pre post : List Nat} (ho : s.opn = pre ++ a :: post) {f m : Nat} (hm : m ∈ a :: post) (hmin : ∀ u ∈ a :: post, m ≤ u) (hf : (post ≠ [] ∨ E XS a a → f = min s.first m) ∧ (¬ (post ≠ [] ∨ E XS a a) → f = s.first)) : Inv XS (close (pop s l a) pre (a :: post) f) := by
  have hap : a ∈ s.path := by rw [hp]; simp
  have hao := h.pmem hap
  have lin : ∀ r ∈ l, r ∈ s.path := fun r hr => by rw [hp]; simp [hr]
  have hlr := h.last hp
  have lof : ∀ r ∈ s.path, r ≠ a → r ∈ l := fun r hr hne => by
    rw [hp] at hr
    rcases List.mem_append.1 hr with hr | hr
    · exact hr
    · rw [List.mem_singleton] at hr; exact absurd hr hne
  have hsr := h.srt
  rw [ho, List.pairwise_append, List.pairwise_cons] at hsr
  obtain ⟨sr1, ⟨sr2, _⟩, sr3⟩ := hsr
  have hpre : ∀ v ∈ pre, v ∈ s.opn ∧ s.rk v < s.rk a := fun v hv => ⟨by rw [ho]; simp [hv], sr3 v hv a (by simp)⟩
  have hS : ∀ v ∈ a :: post, v ∈ s.opn ∧ s.rk a ≤ s.rk v := fun v hv => by
    refine ⟨by rw [ho]; simp only [List.mem_append]; exact .inr hv, ?_⟩
    rcases List.mem_cons.1 hv with e | e
    · rw [e]; exact Int.le_refl _
    · have := sr2 v e; omega
  have opre : ∀ v ∈ s.opn, s.rk v < s.rk a → v ∈ pre := fun v hv hlt => by
    rw [ho] at hv
    rcases List.mem_append.1 hv with e | e
    · exact e
    · have := (hS v e).2; omega
  have oS : ∀ v ∈ s.opn, s.rk a ≤ s.rk v → v ∈ a :: post := fun v hv hle => by
    rw [ho] at hv
    rcases List.mem_append.1 hv with e | e
    · have := (hpre v e).2; omega
    · exact e
  have nS : ∀ v ∈ pre, v ∉ a :: post := fun v hv hm => by have := (hpre v hv).2; have := (hS v hm).2; omega
  have lpre : ∀ r ∈ l, r ∈ pre := fun r hr => opre r (h.pmem (lin r hr)) (hlr r hr)
  -- each of the round comes to a and a to it, and all that it calls is of the round, or closed
  have hrd : ∀ u ∈ a :: post, Rs XS a u ∧ Rs XS u a ∧ ∀ y, E XS u y → y ∈ a :: post ∨ s.rk y = top := by
    intro u hu
    have huo := (hS u hu).1
    have hun := (h.opn u huo).1
    obtain ⟨p, q1, q2, q3, q4, q5, q6⟩ := h.anc u huo
    have hpa : p = a := by
      by_cases e : p = a
      · exact e
      · have h1 := hlr p (lof p q1 e)
        have h2 := q3 a hap (hS u hu).2
        omega
    subst hpa
    refine ⟨q4, q5, fun y hy => ?_⟩
    have hdn : s.dn u = (XS.getD u []).length := by
      by_cases e : u = p
      · rw [e]; exact hd
      · refine h.fin u huo (fun hup => ?_)
        have h1 := hlr u (lof u hup e)
        have h2 := (hS u hu).2
        omega
    obtain ⟨i, hi, hiy⟩ := List.mem_iff_getElem.1 hy
    have hg : (XS.getD u [])[i]? = some (y : Int) := by rw [List.getElem?_eq_getElem hi, hiy]
    have hidn : (i : Int) < s.dn u := by rw [hdn]; omega
    have hne := h.seen u hun i hidn y hg
    rcases h.sta y (h.lt hy) with e | e | e
    · left
      have := q6 i hidn y hg e
      exact oS y e (by omega)
    · exact absurd e hne
    · exact .inr e
  have hbd : ∀ v ∈ a :: post, v < s.rank.length := fun v hv => by rw [h.lr]; exact (h.opn v (hS v hv).1).1
  have rk' : ∀ v, (Tj.close (pop s l a) pre (a :: post) f).rk v = if v ∈ a :: post then top else s.rk v := fun v => shut_get (a :: post) s.rank hbd v
  have rkp : ∀ v ∈ pre, (Tj.close (pop s l a) pre (a :: post) f).rk v = s.rk v := fun v hv => by rw [rk', if_neg (nS v hv)]
  have lw' : ∀ v ∈ l, (Tj.close (pop s l a) pre (a :: post) f).lw v = s.lw v := by
    intro v hv
    show (match l.getLast? with | some q => s.low.set q (min (s.lw q) (s.lw a)) | none => s.low).getD v 0 = s.low.getD v 0
    split
    · rename_i q hq
      have hql : q ∈ l := List.mem_of_getLast? hq
      have hqo := h.pmem (lin q hql)
      rw [gs _ _ _ _ (by rw [h.ll]; exact (h.opn q hqo).1)]
      split
      · rename_i e
        rw [e]
        have h1 := (h.low q (lin q hql)).1
        have h2 := hlr q hql
        show min (s.lw q) (s.lw a) = s.lw q
        omega
      · rfl
    · rfl
  have hlow : (Tj.close (pop s l a) pre (a :: post) f).low.length = XS.length := by
    show (match l.getLast? with | some q => s.low.set q (min (s.lw q) (s.lw a)) | none => s.low).length = _
    split
    · rw [List.length_set]; exact h.ll
    · exact h.ll
  have hcyc : ∀ u ∈ a :: post, Rt XS u u → (post ≠ [] ∨ E XS a a) := by
    intro u hu hr
    by_cases e : post = []
    · right
      subst e
      have hua : u = a := by simpa using hu
      subst hua
      obtain ⟨c, h1, h2⟩ := rt_first hr
      rcases (hrd u hu).2.2 c h1 with e | e
      · have : c = u := by simpa using e
        rw [this] at h1; exact h1
      · have := h.clo_rs (h.lt h1) e h2
        exact absurd this (h.ne_top hao).1
    · exact .inl e
  have hself : (post ≠ [] ∨ E XS a a) → Rt XS m m := by
    intro hc
    by_cases e : post = []
    · have hma : m = a := by rw [e] at hm; simpa using hm
      rcases hc with hc | hc
      · exact absurd e hc
      · rw [hma]; exact .one a hc
    · obtain ⟨v, hv, hne⟩ : ∃ v ∈ a :: post, v ≠ m := by
        by_cases e2 : m = a
        · obtain ⟨v, r, hvr⟩ := List.exists_cons_of_ne_nil e
          have hv : v ∈ post := by rw [hvr]; simp
          refine ⟨v, by simp [hv], fun e3 => ?_⟩
          have := sr2 v hv
          rw [e3, e2] at this; omega
        · exact ⟨a, by simp, fun e3 => e2 e3.symm⟩
      have h1 : Rs XS m v := (hrd m hm).2.1.trans (hrd v hv).1
      have h2 : Rs XS v m := (hrd v hv).2.1.trans (hrd m hm).1
      exact rtt (rs_rt h1 (fun e => hne e.symm)) (rs_rt h2 hne)
  refine ⟨h.inr, h.big, by show (shut s.rank _).length = _; rw [shut_len]; exact h.lr, hlow, h.ld, ?_, ?_, ?_, lpre, ?_, ?_, ?_, ?_, ?_, ?_, h.dle, ?_, ?_, ?_, ?_⟩
  · intro v hv
    have h1 := h.opn v (hpre v hv).1
    rw [rkp v hv]; exact h1
  · exact sr1.imp_of_mem fun hv hu hlt => by rw [rkp _ hv, rkp _ hu]; exact hlt
  · intro v hv
    by_cases e : v ∈ a :: post
    · right; right; rw [rk', if_pos e]
    · rw [rk', if_neg e]
      rcases h.sta v hv with q | q
      · left
        show v ∈ pre
        rw [ho] at q
        rcases List.mem_append.1 q with q | q
        · exact q
        · exact absurd q e
      · exact .inr q
  · have := h.psr
    rw [hp, List.pairwise_append] at this
    exact this.1.imp_of_mem fun hv hu hlt => by rw [rkp _ (lpre _ hv), rkp _ (lpre _ hu)]; exact hlt
  · have := h.con
    rw [hp, List.pairwise_append] at this
    exact this.1
  · intro p hpp
    obtain ⟨h1, w, hw, h2, h3⟩ := h.low p (lin p hpp)
    have h4 := hlr p hpp
    rw [lw' p hpp, rkp p (lpre p hpp)]
    have hwp : w ∈ pre := opre w hw (by omega)
    exact ⟨h1, w, hwp, h2, by rw [rkp w hwp]; exact h3⟩
  · intro u hu
    obtain ⟨p, q1, q2, q3, q4, q5, q6⟩ := h.anc u (hpre u hu).1
    have hpl : p ∈ l := lof p q1 (fun e => by rw [e] at q2; have := (hpre u hu).2; omega)
    refine ⟨p, hpl, by rw [rkp p (lpre p hpl), rkp u hu]; exact q2, fun r hr hle => ?_, q4, q5, fun i hi y hy hyo => ?_⟩
    · rw [rkp r (lpre r hr), rkp u hu] at hle
      rw [rkp r (lpre r hr), rkp p (lpre p hpl)]
      exact q3 r (lin r hr) hle
    · rw [lw' p hpl, rkp y hyo]
      exact q6 i hi y hy (hpre y hyo).1
  · intro u hu hn
    refine h.fin u (hpre u hu).1 (fun e => hn (lof u e (fun e2 => ?_)))
    have := (hpre u hu).2
    rw [e2] at this; omega
  · intro u hu i hi y hy
    rw [rk']
    split
    · decide
    · exact h.seen u hu i hi y hy
  · intro u hu hz
    rw [rk'] at hz
    split at hz
    · exact absurd hz (by decide)
    · exact h.new u hu hz
  · intro u hu ht y hy
    rw [rk'] at ht ⊢
    split at ht
    · rename_i e
      rcases (hrd u e).2.2 y hy with q | q
      · rw [if_pos q]
      · split
        · rfl
        · exact q
    · have := h.clo u hu ht y hy
      split
      · rfl
      · exact this
  · refine ⟨?_, ?_, ?_⟩
    · show f ≤ _
      have h1 := h.fst.1
      by_cases hc : post ≠ [] ∨ E XS a a
      · rw [hf.1 hc]; omega
      · rw [hf.2 hc]; exact h1
    · intro hlt
      show Rt XS f f
      have hlt' : f < XS.length := hlt
      by_cases hc : post ≠ [] ∨ E XS a a
      · rw [hf.1 hc] at hlt' ⊢
        by_cases e : s.first ≤ m
        · rw [Nat.min_eq_left e] at hlt' ⊢; exact h.fst.2.1 hlt'
        · rw [Nat.min_eq_right (by omega)]; exact hself hc
      · rw [hf.2 hc] at hlt' ⊢; exact h.fst.2.1 hlt'
    · intro u hu ht hr
      show f ≤ u
      rw [rk'] at ht
      split at ht
      · rename_i e
        have hc := hcyc u e hr
        have := hmin u e
        rw [hf.1 hc]; omega
      · have h1 := h.fst.2.2 u hu ht hr
        by_cases hc : post ≠ [] ∨ E XS a a
        · rw [hf.1 hc]; omega
        · rw [hf.2 hc]; exact h1
  · show s.met + (shut s.rank (a :: post)).countP _ = _
    rw [shut_count (a :: post) s.rank (fun v hv => ⟨hbd v hv, (h.ne_top (hS v hv).1).2⟩)]
    exact h.cnt
/-- The search begins at one more. -/
theorem Inv.meet0 {XS : List (List Int)} {s : St} (h : Inv XS s) {x : Nat} (hp : s.path = []) (hxn : x < XS.length) (hx : s.rk x = 0) : Inv XS (meet s x) := by
  have hoe : s.opn = [] := by
    cases e : s.opn with
    | nil => rfl
    | cons v r =>
      obtain ⟨p, q1, _⟩ := h.anc v (by rw [e]; simp)
      rw [hp] at q1; cases q1
  have rk' : ∀ v, (meet s x).rk v = if v = x then (s.met : Int) + 1 else s.rk v := fun v => gs s.rank x v _ (by rw [h.lr]; exact hxn)
  have lwx : (meet s x).lw x = (s.met : Int) + 1 := by
    have := gs s.low x x ((s.met : Int) + 1) (by rw [h.ll]; exact hxn)
    rw [if_pos rfl] at this
    exact this
  have hcnt : (s.rank.set x ((s.met : Int) + 1)).countP (fun y => y == 0) + 1 = s.rank.countP (fun y => y == 0) := count_set _ _ _ (get_of (by rw [h.lr]; exact hxn) hx) (by omega)
  have hmt : (s.met : Int) + 1 ≠ top := by have := h.cnt; have := h.big; unfold top; omega
  have rkx : (meet s x).rk x = (s.met : Int) + 1 := by rw [rk', if_pos rfl]
  have ho : (meet s x).opn = [x] := by show s.opn ++ [x] = _; rw [hoe]; rfl
  have hpa : (meet s x).path = [x] := by show s.path ++ [x] = _; rw [hp]; rfl
  refine ⟨h.inr, h.big, by show (s.rank.set x _).length = _; rw [List.length_set]; exact h.lr, by show (s.low.set x _).length = _; rw [List.length_set]; exact h.ll, h.ld, ?_, ?_, ?_, ?_, ?_, ?_, ?_, ?_, ?_, ?_, h.dle, ?_, ?_, ?_, ?_⟩
  · intro v hv
    rw [ho, List.mem_singleton] at hv
    subst hv
    rw [rkx]
    show _ ∧ _ ∧ _ ≤ ((s.met + 1 : Nat) : Int)
    omega
  · rw [ho]; exact List.pairwise_singleton ..
  · intro v hv
    by_cases e : v = x
    · left; rw [ho, e]; simp
    · rw [rk', if_neg e]
      rcases h.sta v hv with q | q
      · rw [hoe] at q; cases q
      · exact .inr q
  · intro p hpp; rw [hpa] at hpp; rw [ho]; exact hpp
  · rw [hpa]; exact List.pairwise_singleton ..
  · rw [hpa]; exact List.pairwise_singleton ..
  · intro p hpp
    rw [hpa, List.mem_singleton] at hpp
    subst hpp
    rw [rkx, lwx]
    exact ⟨Int.le_refl _, p, by rw [ho]; simp, Rs.refl _, rkx⟩
  · intro u hu
    rw [ho, List.mem_singleton] at hu
    subst hu
    refine ⟨u, by rw [hpa]; simp, Int.le_refl _, fun _ _ hle => hle, Rs.refl _, Rs.refl _, fun i hi => ?_⟩
    have : (meet s u).dn u = 0 := h.new u hxn hx
    omega
  · intro u hu hn
    rw [ho] at hu; rw [hpa] at hn; exact absurd hu hn
  · intro u hu i hi y hy
    rw [rk']
    split
    · omega
    · exact h.seen u hu i hi y hy
  · intro u hu hz
    rw [rk'] at hz
    split at hz
    · omega
    · exact h.new u hu hz
  · intro u hu ht y hy
    rw [rk'] at ht ⊢
    split at ht
    · exact absurd ht hmt
    · have h1 := h.clo u hu ht y hy
      rw [if_neg (fun e => by rw [e, hx] at h1; exact absurd h1 (by decide))]
      exact h1
  · refine ⟨h.fst.1, h.fst.2.1, fun u hu ht hr => ?_⟩
    rw [rk'] at ht
    split at ht
    · exact absurd ht hmt
    · exact h.fst.2.2 u hu ht hr
  · show s.met + 1 + (s.rank.set x ((s.met : Int) + 1)).countP (fun y => y == 0) = _
    have := h.cnt
    omega
/-- Where all are met and nothing is under way, first is the least one that comes to itself. -/
theorem Inv.end_ {XS : List (List Int)} {s : St} (h : Inv XS s) (hp : s.path = []) (hall : ∀ v, v < XS.length → s.rk v ≠ 0) :
    (s.first < XS.length → Rt XS s.first s.first) ∧ (∀ u, u < XS.length → Rt XS u u → s.first ≤ u) := by
  refine ⟨h.fst.2.1, fun u hu hr => h.fst.2.2 u hu ?_ hr⟩
  rcases h.sta u hu with q | q | q
  · obtain ⟨p, q1, _⟩ := h.anc u q
    rw [hp] at q1; cases q1
  · exact absurd q (hall u hu)
  · exact q
end Tj
end Go.Proofs.YtmhpaacjioeknaaGreat
