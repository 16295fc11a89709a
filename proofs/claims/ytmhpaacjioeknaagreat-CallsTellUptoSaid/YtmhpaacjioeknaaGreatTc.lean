/-
  DERIVED. Plain: the search goes on: a known one is looked at; the last one of the path is left.
-/
import Derived.Test.YtmhpaacjioeknaaGreatTb
namespace Go.Proofs.YtmhpaacjioeknaaGreat
namespace Tj

theorem Inv.adv_low {XS : List (List Int)} {s : St} (h : Inv XS s) {l : List Nat} {a x : Nat} (hp : s.path = l ++ [a]) (hd : ∃ i : Nat, s.dn a = i ∧ (XS.getD a [])[i]? = some (x : Int)) (hx : s.rk x ≠ 0) : Inv XS (lower (bump s a) a (s.rk x)) := by
  obtain ⟨i0, hi0, hc0⟩ := hd
  have hap : a ∈ s.path := by rw [hp]; simp
  have hao := h.pmem hap
  have hE : E XS a x := by unfold E; exact List.mem_of_getElem? hc0
  have hxn := h.lt hE
  have han := (h.opn a hao).1
  have hlen : i0 < (XS.getD a []).length := (List.getElem?_eq_some_iff.1 hc0).1
  have lw' : ∀ v, (lower (bump s a) a (s.rk x)).lw v = if v = a then min (s.lw a) (s.rk x) else s.lw v := fun v => gs s.low a v _ (by rw [h.ll]; exact han)
  have dn' : ∀ v, (lower (bump s a) a (s.rk x)).dn v = if v = a then s.dn a + 1 else s.dn v := fun v => gs s.done a v _ (by rw [h.ld]; exact han)
  have lle : ∀ v, (lower (bump s a) a (s.rk x)).lw v ≤ s.lw v := by
    intro v; rw [lw']; split
    · rename_i e; rw [e]; omega
    · exact Int.le_refl _
  refine ⟨h.inr, h.big, h.lr, by show (s.low.set a _).length = _; rw [List.length_set]; exact h.ll, by show (s.done.set a _).length = _; rw [List.length_set]; exact h.ld, h.opn, h.srt, h.sta, h.pth, h.psr, h.con, ?_, ?_, ?_, ?_, ?_, ?_, h.clo, h.fst, h.cnt⟩
  · intro p hpp
    obtain ⟨h1, w, hw, h2, h3⟩ := h.low p hpp
    refine ⟨Int.le_trans (lle p) h1, ?_⟩
    rw [lw']
    split
    · rename_i e
      subst e
      by_cases hle : s.lw p ≤ s.rk x
      · exact ⟨w, hw, h2, by show s.rk w = _; omega⟩
      · have hxo : x ∈ s.opn := by
          rcases h.sta x hxn with q | q | q
          · exact q
          · exact absurd q hx
          · have := h.opn p hao
            have h4 := h.cnt
            have h5 := h.big
            rw [q] at hle
            unfold top at hle
            omega
        exact ⟨x, hxo, hE.rs, by show s.rk x = _; omega⟩
    · exact ⟨w, hw, h2, h3⟩
  · intro u hu
    obtain ⟨p, q1, q2, q3, q4, q5, q6⟩ := h.anc u hu
    refine ⟨p, q1, q2, q3, q4, q5, ?_⟩
    intro i hi y hy hyo
    rw [dn'] at hi
    by_cases hua : u = a
    · subst hua
      rw [if_pos rfl, hi0] at hi
      by_cases hii : i = i0
      · subst hii
        rw [hc0] at hy
        injection hy with hy
        have hyx : y = x := by omega
        subst hyx
        have hpu : p = u := h.inj (h.pmem q1) hu (by have := q3 u hap (Int.le_refl _); omega)
        rw [lw', if_pos hpu]
        show min _ _ ≤ s.rk y
        omega
      · exact Int.le_trans (lle p) (q6 i (by rw [hi0]; omega) y hy hyo)
    · rw [if_neg hua] at hi
      exact Int.le_trans (lle p) (q6 i hi y hy hyo)
  · intro u hu hn
    rw [dn', if_neg (show ¬ u = a from fun e => hn (by rw [e]; exact hap))]
    exact h.fin u hu hn
  · intro u hu i hi y hy
    rw [dn'] at hi
    by_cases hua : u = a
    · subst hua
      rw [if_pos rfl, hi0] at hi
      by_cases hii : i = i0
      · subst hii
        rw [hc0] at hy
        injection hy with hy
        have hyx : y = x := by omega
        subst hyx
        exact hx
      · exact h.seen u hu i (by rw [hi0]; omega) y hy
    · rw [if_neg hua] at hi
      exact h.seen u hu i hi y hy
  · intro u hu
    rw [dn']
    split
    · rename_i e; subst e; rw [hi0]; omega
    · exact h.dle u hu
  · intro u hu hz
    have hz' : s.rk u = 0 := hz
    rw [dn', if_neg (fun e => by
      have := (h.opn a hao).2.1
      rw [e] at hz'; omega)]
    exact h.new u hu hz'
/-- The path's last one is left. -/
def pop (s : St) (l : List Nat) (a : Nat) : St := { s with path := l, low := match l.getLast? with | some q => s.low.set q (min (s.lw q) (s.lw a)) | none => s.low }
theorem Inv.leave {XS : List (List Int)} {s : St} (h : Inv XS s) {l : List Nat} {a : Nat} (hp : s.path = l ++ [a]) (hd : s.dn a = (XS.getD a []).length) (hl : s.lw a ≠ s.rk a) : Inv XS (pop s l a) := by
  have hap : a ∈ s.path := by rw [hp]; simp
  have hao := h.pmem hap
  have lin : ∀ r ∈ l, r ∈ s.path := fun r hr => by rw [hp]; simp [hr]
  have lof : ∀ r ∈ s.path, r ≠ a → r ∈ l := fun r hr hne => by
    rw [hp] at hr
    rcases List.mem_append.1 hr with hr | hr
    · exact hr
    · rw [List.mem_singleton] at hr; exact absurd hr hne
  obtain ⟨ha1, w, hw, ha2, ha3⟩ := h.low a hap
  have hlt : s.lw a < s.rk a := by omega
  obtain ⟨p2, b1, b2, b3, b4, b5, _⟩ := h.anc w hw
  have hp2 : p2 ∈ l := lof p2 b1 (fun e => by rw [e] at b2; omega)
  obtain ⟨l', q, rfl⟩ : ∃ l' q, l = l' ++ [q] := by
    rcases List.eq_nil_or_concat l with e | ⟨l', q, e⟩
    · rw [e] at hp2; cases hp2
    · exact ⟨l', q, by rw [e]; simp⟩
  have hqp : q ∈ s.path := lin q (by simp)
  have hqo := h.pmem hqp
  have hqn := (h.opn q hqo).1
  have hpq : pop s (l' ++ [q]) a = { s with path := l' ++ [q], low := s.low.set q (min (s.lw q) (s.lw a)) } := by unfold pop; simp
  have hps : (l' ++ [q]).Pairwise (fun a b => s.rk a < s.rk b) := by
    have := h.psr
    rw [hp, List.pairwise_append] at this
    exact this.1
  have hcn : (l' ++ [q]).Pairwise (Rs XS) := by
    have := h.con
    rw [hp, List.pairwise_append] at this
    exact this.1
  have hqa : Rs XS q a := by
    have := h.con
    rw [hp] at this
    exact pair_last this q (by simp)
  have hrqa : s.rk q < s.rk a := h.last hp q (by simp)
  have hp2q : Rs XS p2 q := by
    rcases List.mem_append.1 hp2 with e | e
    · exact pair_last hcn p2 e
    · rw [List.mem_singleton] at e; rw [e]; exact Rs.refl _
  have haq : Rs XS a q := (ha2.trans b5).trans hp2q
  have hql : ∀ r ∈ l' ++ [q], s.rk r ≤ s.rk q := by
    intro r hr
    rcases List.mem_append.1 hr with e | e
    · have := pair_last hps r e; omega
    · rw [List.mem_singleton] at e; rw [e]; exact Int.le_refl _
  rw [hpq]
  have lw' : ∀ v, ({ s with path := l' ++ [q], low := s.low.set q (min (s.lw q) (s.lw a)) } : St).lw v = if v = q then min (s.lw q) (s.lw a) else s.lw v := fun v => gs s.low q v _ (by rw [h.ll]; exact hqn)
  have lle : ∀ v, ({ s with path := l' ++ [q], low := s.low.set q (min (s.lw q) (s.lw a)) } : St).lw v ≤ s.lw v := by
    intro v; rw [lw']; split
    · rename_i e; rw [e]; omega
    · exact Int.le_refl _
  refine ⟨h.inr, h.big, h.lr, by show (s.low.set q _).length = _; rw [List.length_set]; exact h.ll, h.ld, h.opn, h.srt, h.sta, fun p hpp => h.pmem (lin p hpp), hps, hcn, ?_, ?_, ?_, h.seen, h.dle, h.new, h.clo, h.fst, h.cnt⟩
  · intro p hpp
    obtain ⟨h1, w1, hw1, h2, h3⟩ := h.low p (lin p hpp)
    refine ⟨Int.le_trans (lle p) h1, ?_⟩
    rw [lw']
    split
    · rename_i e
      subst e
      by_cases hle : s.lw p ≤ s.lw a
      · exact ⟨w1, hw1, h2, by show s.rk w1 = _; omega⟩
      · exact ⟨w, hw, hqa.trans ha2, by show s.rk w = _; omega⟩
    · exact ⟨w1, hw1, h2, h3⟩
  · intro u hu
    obtain ⟨p, q1, q2, q3, q4, q5, q6⟩ := h.anc u hu
    by_cases hpa : p = a
    · subst hpa
      refine ⟨q, by simp, by show s.rk q ≤ s.rk u; omega, fun r hr _ => hql r hr, hqa.trans q4, q5.trans haq, ?_⟩
      intro i hi y hy hyo
      have := q6 i hi y hy hyo
      rw [lw', if_pos rfl]
      show min _ _ ≤ s.rk y
      omega
    · exact ⟨p, lof p q1 hpa, q2, fun r hr hle => q3 r (lin r hr) hle, q4, q5, fun i hi y hy hyo => Int.le_trans (lle p) (q6 i hi y hy hyo)⟩
  · intro u hu hn
    by_cases hua : u = a
    · rw [hua]; exact hd
    · exact h.fin u hu (fun e => hn (lof u e hua))
end Tj
end Go.Proofs.YtmhpaacjioeknaaGreat
