/-
  DERIVED. Plain: the search goes on: one more is met, a known one is looked at.
-/
import Derived.Test.YtmhpaacjioeknaaGreatTa
namespace Go.Proofs.YtmhpaacjioeknaaGreat
namespace Tj

theorem count_set : ∀ (l : List Int) (i : Nat) (x : Int), l[i]? = some 0 → x ≠ 0 → (l.set i x).countP (fun y => y == 0) + 1 = l.countP (fun y => y == 0)
  | [], i, x, h, _ => by simp at h
  | y :: r, 0, x, h, hx => by
    simp at h
    subst h
    simp [hx]
  | y :: r, i + 1, x, h, hx => by
    rw [List.getElem?_cons_succ] at h
    have ih := count_set r i x h hx
    rw [List.set_cons_succ, List.countP_cons, List.countP_cons]
    omega
theorem get_of {l : List Int} {i : Nat} (h : i < l.length) (h0 : l.getD i 0 = 0) : l[i]? = some 0 := by
  rw [List.getD_eq_getElem?_getD, List.getElem?_eq_getElem h] at h0
  rw [List.getElem?_eq_getElem h]
  simpa using h0
theorem Inv.pmem {XS : List (List Int)} {s : St} (h : Inv XS s) {p : Nat} (hp : p ∈ s.path) : p ∈ s.opn := h.pth p hp
theorem Inv.adv_meet {XS : List (List Int)} {s : St} (h : Inv XS s) {l : List Nat} {a x : Nat} (hp : s.path = l ++ [a]) (hd : ∃ i : Nat, s.dn a = i ∧ (XS.getD a [])[i]? = some (x : Int)) (hx : s.rk x = 0) : Inv XS (meet (bump s a) x) := by
  obtain ⟨i0, hi0, hc0⟩ := hd
  have hap : a ∈ s.path := by rw [hp]; simp
  have hao := h.pmem hap
  have hE : E XS a x := by unfold E; exact List.mem_of_getElem? hc0
  have hxn := h.lt hE
  have han := (h.opn a hao).1
  have hxo := h.notin hx
  have hax : a ≠ x := fun e => hxo (e ▸ hao)
  have hlen : i0 < (XS.getD a []).length := (List.getElem?_eq_some_iff.1 hc0).1
  have rk' : ∀ v, (meet (bump s a) x).rk v = if v = x then (s.met : Int) + 1 else s.rk v := fun v => gs s.rank x v _ (by rw [h.lr]; exact hxn)
  have lw' : ∀ v, (meet (bump s a) x).lw v = if v = x then (s.met : Int) + 1 else s.lw v := fun v => gs s.low x v _ (by rw [h.ll]; exact hxn)
  have dn' : ∀ v, (meet (bump s a) x).dn v = if v = a then s.dn a + 1 else s.dn v := fun v => gs s.done a v _ (by rw [h.ld]; exact han)
  have ho : (meet (bump s a) x).opn = s.opn ++ [x] := rfl
  have hpa : (meet (bump s a) x).path = s.path ++ [x] := rfl
  have hm : (meet (bump s a) x).met = s.met + 1 := rfl
  have hcnt : (s.rank.set x ((s.met : Int) + 1)).countP (fun y => y == 0) + 1 = s.rank.countP (fun y => y == 0) := count_set _ _ _ (get_of (by rw [h.lr]; exact hxn) hx) (by omega)
  have hmt : (s.met : Int) + 1 ≠ top := by have := h.cnt; have := h.big; unfold top; omega
  have old : ∀ v ∈ s.opn, v ≠ x := fun v hv e => hxo (e ▸ hv)
  have rko : ∀ v ∈ s.opn, (meet (bump s a) x).rk v = s.rk v := fun v hv => by rw [rk', if_neg (old v hv)]
  have lwo : ∀ v ∈ s.opn, (meet (bump s a) x).lw v = s.lw v := fun v hv => by rw [lw', if_neg (old v hv)]
  have rkx : (meet (bump s a) x).rk x = (s.met : Int) + 1 := by rw [rk', if_pos rfl]
  have lwx : (meet (bump s a) x).lw x = (s.met : Int) + 1 := by rw [lw', if_pos rfl]
  refine ⟨h.inr, h.big, by show (s.rank.set x _).length = _; rw [List.length_set]; exact h.lr, by show (s.low.set x _).length = _; rw [List.length_set]; exact h.ll, by show (s.done.set a _).length = _; rw [List.length_set]; exact h.ld, ?_, ?_, ?_, ?_, ?_, ?_, ?_, ?_, ?_, ?_, ?_, ?_, ?_, ?_, ?_⟩
  · intro v hv
    rw [ho] at hv
    rw [hm]
    rcases List.mem_append.1 hv with hv | hv
    · have := h.opn v hv
      rw [rko v hv]; omega
    · rw [List.mem_singleton] at hv
      subst hv
      rw [rkx]; omega
  · rw [ho, List.pairwise_append]
    refine ⟨h.srt.imp_of_mem fun hv hu hlt => by rw [rko _ hv, rko _ hu]; exact hlt, List.pairwise_singleton .., ?_⟩
    intro v hv u hu
    rw [List.mem_singleton] at hu
    subst hu
    rw [rko v hv, rkx]
    have := h.opn v hv; omega
  · intro v hv
    by_cases e : v = x
    · left; rw [ho]; simp [e]
    · rw [rk', if_neg e]
      rcases h.sta v hv with h1 | h1
      · left; rw [ho]; simp [h1]
      · exact .inr h1
  · intro p hpp
    rw [hpa] at hpp
    rw [ho]
    rcases List.mem_append.1 hpp with hpp | hpp
    · simp [h.pmem hpp]
    · rw [List.mem_singleton] at hpp; simp [hpp]
  · rw [hpa, List.pairwise_append]
    refine ⟨h.psr.imp_of_mem fun hv hu hlt => by rw [rko _ (h.pmem hv), rko _ (h.pmem hu)]; exact hlt, List.pairwise_singleton .., ?_⟩
    intro v hv u hu
    rw [List.mem_singleton] at hu
    subst hu
    rw [rko v (h.pmem hv), rkx]
    have := h.opn v (h.pmem hv); omega
  · rw [hpa, List.pairwise_append]
    refine ⟨h.con, List.pairwise_singleton .., ?_⟩
    intro q hq u hu
    rw [List.mem_singleton] at hu
    subst hu
    rw [hp] at hq
    rcases List.mem_append.1 hq with hq | hq
    · have := h.con
      rw [hp] at this
      exact (pair_last this q hq).trans hE.rs
    · rw [List.mem_singleton] at hq
      subst hq
      exact hE.rs
  · intro p hpp
    rw [hpa] at hpp
    rcases List.mem_append.1 hpp with hpp | hpp
    · have h1 := h.low p hpp
      have h2 := h.pmem hpp
      rw [rko p h2, lwo p h2]
      obtain ⟨h3, w, hw, h4, h5⟩ := h1
      exact ⟨h3, w, by rw [ho]; simp [hw], h4, by rw [rko w hw]; exact h5⟩
    · rw [List.mem_singleton] at hpp
      subst hpp
      rw [rkx, lwx]
      exact ⟨Int.le_refl _, p, by rw [ho]; simp, Rs.refl _, rkx⟩
  · intro u hu
    rw [ho] at hu
    rcases List.mem_append.1 hu with hu1 | hu1
    · obtain ⟨p, q1, q2, q3, q4, q5, q6⟩ := h.anc u hu1
      have qp := h.pmem q1
      refine ⟨p, by rw [hpa]; simp [q1], by rw [rko p qp, rko u hu1]; exact q2, ?_, q4, q5, ?_⟩
      · intro r hr hle
        rw [hpa] at hr
        rcases List.mem_append.1 hr with hr | hr
        · rw [rko r (h.pmem hr), rko u hu1] at hle
          rw [rko r (h.pmem hr), rko p qp]
          exact q3 r hr hle
        · rw [List.mem_singleton] at hr
          subst hr
          rw [rkx, rko u hu1] at hle
          have := h.opn u hu1; omega
      · intro i hi y hy hyo
        rw [lwo p qp]
        rw [ho] at hyo
        by_cases hyx : y = x
        · subst hyx
          rw [rkx]
          have h7 := (h.low p q1).1
          have h8 := h.opn p qp
          omega
        · have hyo' : y ∈ s.opn := by simpa [hyx] using hyo
          rw [rko y hyo']
          rw [dn'] at hi
          by_cases hua : u = a
          · subst hua
            rw [if_pos rfl, hi0] at hi
            by_cases hii : i = i0
            · subst hii
              rw [hc0] at hy
              injection hy with hy
              exact absurd (by omega) hyx
            · exact q6 i (by rw [hi0]; omega) y hy hyo'
          · rw [if_neg hua] at hi
            exact q6 i hi y hy hyo'
    · rw [List.mem_singleton] at hu1
      subst hu1
      refine ⟨u, by rw [hpa]; simp, Int.le_refl _, fun _ _ hle => hle, Rs.refl _, Rs.refl _, ?_⟩
      intro i hi
      rw [dn', if_neg (fun e => hax e.symm), h.new u hxn hx] at hi
      omega
  · intro u hu hn
    rw [ho] at hu
    rw [hpa] at hn
    have hux : u ≠ x := fun e => hn (by simp [e])
    have hu' : u ∈ s.opn := by simpa [hux] using hu
    have hn' : u ∉ s.path := fun e => hn (by simp [e])
    rw [dn', if_neg (show ¬ u = a from fun e => hn' (by rw [e]; exact hap))]
    exact h.fin u hu' hn'
  · intro u hu i hi y hy
    rw [dn'] at hi
    rw [rk']
    split
    · omega
    · rename_i hyx
      by_cases hua : u = a
      · subst hua
        rw [if_pos rfl, hi0] at hi
        by_cases hii : i = i0
        · subst hii
          rw [hc0] at hy
          injection hy with hy
          exact absurd (by omega) hyx
        · exact h.seen u hu i (by rw [hi0]; omega) y hy
      · rw [if_neg hua] at hi
        exact h.seen u hu i hi y hy
  · intro u hu
    rw [dn']
    split
    · rename_i e
      subst e
      rw [hi0]; omega
    · exact h.dle u hu
  · intro u hu hz
    rw [rk'] at hz
    split at hz
    · omega
    · rw [dn', if_neg (fun e => by
        have := (h.opn a hao).2.1
        rw [e] at hz; omega)]
      exact h.new u hu hz
  · intro u hu ht y hy
    rw [rk'] at ht ⊢
    split at ht
    · exact absurd ht hmt
    · have h1 := h.clo u hu ht y hy
      rw [if_neg (fun e => by rw [e, hx] at h1; exact absurd h1 (by decide))]
      exact h1
  · refine ⟨h.fst.1, h.fst.2.1, fun u hu ht hr => ?_⟩
    rw [rk'] at ht
    split at ht
    · exact absurd ht hmt
    · exact h.fst.2.2 u hu ht hr
  · show s.met + 1 + (s.rank.set x ((s.met : Int) + 1)).countP (fun y => y == 0) = _
    have := h.cnt
    omega
end Tj
end Go.Proofs.YtmhpaacjioeknaaGreat
