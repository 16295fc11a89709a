/-
  DERIVED. Plain: how the plain parser moves on.
-/
import Derived.Test.YtlpnkllhpienhaaDoorPr
namespace Go.Proofs.YtlpnkllhpienhaaDoor
open Go.RowKit Go.Sort
namespace Pr

theorem th_ok {α β : Type} {r : Res α} {f : α → St → Res β} {b : β} {v : St} (h : th r f = .ok (b, v)) : ∃ a u, r = .ok (a, u) ∧ f a u = .ok (b, v) := by
  unfold th at h
  split at h
  · cases h
  · rename_i x u; exact ⟨x, u, rfl, h⟩
/-- A part of the parser goes n signs on at least, and leaves the counts as they are. -/
def Fwd (n : Nat) (u v : St) : Prop := u.i + n ≤ v.i ∧ v.o = u.o ∧ v.b = u.b
theorem Fwd.tr {n m : Nat} {u v w : St} (h : Fwd n u v) (k : Fwd m v w) : Fwd (n + m) u w := ⟨by have := h.1; have := k.1; omega, k.2.1.trans h.2.1, k.2.2.trans h.2.2⟩
theorem Fwd.le {n m : Nat} {u v : St} (h : Fwd n u v) (hm : m ≤ n) : Fwd m u v := ⟨by have := h.1; omega, h.2⟩
theorem Fwd.go (u : St) : Fwd 1 u u.go := ⟨Nat.le_refl _, rfl, rfl⟩
theorem Fwd.refl (u : St) : Fwd 0 u u := ⟨Nat.le_refl _, rfl, rfl⟩
section
variable {t : List Tk}
theorem must_fwd {s : ByteArray} {u v : St} {x : Tk} (h : must t s u = .ok (x, v)) : Fwd 1 u v := by
  unfold must at h
  split at h
  · injection h with h; injection h with _ h; subst h; exact Fwd.go u
  · cases h
theorem name_fwd {u v : St} {x : Tk} (h : name t u = .ok (x, v)) : Fwd 1 u v := by
  unfold name at h
  split at h
  · injection h with h; injection h with _ h; subst h; exact Fwd.go u
  · cases h
theorem hops_fwd : ∀ (n : Nat) (acc : List Hp) (u : St) {l : List Hp} {v : St}, hops t n acc u = .ok (l, v) → Fwd 0 u v
  | 0, acc, u, l, v, h => by
    unfold hops at h
    split at h
    · cases h
    · injection h with h; injection h with _ h; subst h; exact Fwd.refl u
  | n + 1, acc, u, l, v, h => by
    unfold hops at h
    split at h
    · obtain ⟨x, w, h1, h2⟩ := th_ok h
      exact (((Fwd.go u).tr (name_fwd h1)).tr (hops_fwd n _ w h2)).le (Nat.zero_le _)
    · injection h with h; injection h with _ h; subst h; exact Fwd.refl u
theorem path_fwd {u v : St} {x : Pth} (h : path t u = .ok (x, v)) : Fwd 1 u v := by
  obtain ⟨a, u1, h1, h⟩ := th_ok h
  obtain ⟨b, u2, h2, h⟩ := th_ok h
  injection h with h; injection h with _ h; subst h
  exact (name_fwd h1).tr (hops_fwd _ _ _ h2)
theorem term_fwd {u v : St} {x : Tm} (h : term t u = .ok (x, v)) : Fwd 1 u v := by
  unfold term at h
  split at h
  · injection h with h; injection h with _ h; subst h; exact Fwd.go u
  · obtain ⟨a, u1, h1, h⟩ := th_ok h
    injection h with h; injection h with _ h; subst h
    exact name_fwd h1
theorem side_fwd {u v : St} {x : Vl} (h : side t u = .ok (x, v)) : Fwd 1 u v := by
  unfold side at h
  split at h
  · injection h with h; injection h with _ h; subst h; exact Fwd.go u
  · split at h
    · obtain ⟨a, u1, h1, h⟩ := th_ok h
      injection h with h; injection h with _ h; subst h
      exact term_fwd h1
    · obtain ⟨a, u1, h1, h⟩ := th_ok h
      injection h with h; injection h with _ h; subst h
      exact path_fwd h1
theorem sum_fwd {u v : St} {x : Vl} (h : sum t u = .ok (x, v)) : Fwd 1 u v := by
  obtain ⟨a, u1, h1, h⟩ := th_ok h
  obtain ⟨b, u2, h2, h⟩ := th_ok h
  injection h with h; injection h with _ h; subst h
  exact (((term_fwd h1).tr (Fwd.go u1)).tr (term_fwd h2)).le (by omega)
theorem value_fwd {u v : St} {x : Vl} (h : value t u = .ok (x, v)) : Fwd 1 u v := by
  unfold value at h
  split at h
  · obtain ⟨a, u1, h1, h⟩ := th_ok h
    injection h with h; injection h with _ h; subst h
    exact ((Fwd.go u).tr (name_fwd h1)).le (by omega)
  · split at h
    · injection h with h; injection h with _ h; subst h; exact Fwd.go u
    · split at h
      · exact sum_fwd h
      · exact side_fwd h
theorem relation_fwd {u v : St} {x : Int} (h : relation t u = .ok (x, v)) : Fwd 1 u v := by
  unfold relation at h
  split at h
  · injection h with h; injection h with _ h; subst h; exact Fwd.go u
  · split at h
    · injection h with h; injection h with _ h; subst h; exact Fwd.go u
    · split at h
      · injection h with h; injection h with _ h; subst h; exact Fwd.go u
      · obtain ⟨a, u1, h1, h⟩ := th_ok h
        injection h with h; injection h with _ h; subst h
        exact must_fwd h1
theorem cond_fwd {u v : St} {x : Cd} (h : cond t u = .ok (x, v)) : Fwd 1 u v := by
  unfold cond at h
  split at h
  · injection h with h; injection h with _ h; subst h; exact Fwd.go u
  · obtain ⟨a, u1, h1, h⟩ := th_ok h
    obtain ⟨b, u2, h2, h⟩ := th_ok h
    obtain ⟨c, u3, h3, h⟩ := th_ok h
    injection h with h; injection h with _ h; subst h
    exact (((side_fwd h1).tr (relation_fwd h2)).tr (side_fwd h3)).le (by omega)
theorem held_fwd {u v : St} {x : Cd} (h : held t u = .ok (x, v)) : Fwd 1 u v := by
  obtain ⟨a, u1, h1, h⟩ := th_ok h
  obtain ⟨b, u2, h2, h⟩ := th_ok h
  obtain ⟨c, u3, h3, h⟩ := th_ok h
  injection h with h; injection h with _ h; subst h
  exact (((must_fwd h1).tr (cond_fwd h2)).tr (must_fwd h3)).le (by omega)
theorem more_fwd {α : Type} {item : St → Res α} (hi : ∀ u x v, item u = .ok (x, v) → Fwd 1 u v) : ∀ (n : Nat) (acc : List α) (u : St) {l : List α} {v : St}, more t item n acc u = .ok (l, v) → Fwd 1 u v
  | 0, acc, u, l, v, h => by cases h
  | n + 1, acc, u, l, v, h => by
    unfold more at h
    split at h
    · obtain ⟨x, w, h1, h2⟩ := th_ok h
      exact (((Fwd.go u).tr (hi _ _ _ h1)).tr (more_fwd hi n _ w h2)).le (by omega)
    · obtain ⟨a, u1, h1, h⟩ := th_ok h
      injection h with h; injection h with _ h; subst h
      exact must_fwd h1
theorem listed_fwd {α : Type} {item : St → Res α} (hi : ∀ u x v, item u = .ok (x, v) → Fwd 1 u v) {u v : St} {l : List α} (h : listed t item u = .ok (l, v)) : Fwd 1 u v := by
  obtain ⟨a, u1, h1, h⟩ := th_ok h
  split at h
  · injection h with h; injection h with _ h; subst h
    exact ((must_fwd h1).tr (Fwd.go u1)).le (by omega)
  · obtain ⟨b, u2, h2, h⟩ := th_ok h
    exact (((must_fwd h1).tr (hi _ _ _ h2)).tr (more_fwd hi _ _ _ h)).le (by omega)
theorem pointer_fwd {u v : St} {x : Dc} (h : pointer t u = .ok (x, v)) : Fwd 1 u v := by
  obtain ⟨a, u1, h1, h⟩ := th_ok h
  obtain ⟨b, u2, h2, h⟩ := th_ok h
  obtain ⟨c, u3, h3, h⟩ := th_ok h
  injection h with h; injection h with _ h; subst h
  exact (((name_fwd h1).tr (must_fwd h2)).tr (name_fwd h3)).le (by omega)
theorem variable_fwd {u v : St} {x : Dc} (h : variable_ t u = .ok (x, v)) : Fwd 1 u v := by
  unfold variable_ at h
  split at h
  · obtain ⟨a, u1, h1, h⟩ := th_ok h
    injection h with h; injection h with _ h; subst h
    exact ((Fwd.go u).tr (name_fwd h1)).le (by omega)
  · exact pointer_fwd h
theorem decl_fwd {u v : St} {x : Dc} (h : decl t u = .ok (x, v)) : Fwd 1 u v := by
  obtain ⟨a, u1, h1, h⟩ := th_ok h
  obtain ⟨b, u2, h2, h⟩ := th_ok h
  injection h with h; injection h with _ h; subst h
  exact ((variable_fwd h1).tr (must_fwd h2)).le (by omega)

/-- The counts within their bounds. -/
def Inv (u : St) : Prop := 0 ≤ u.o ∧ u.o ≤ 20 ∧ 0 ≤ u.b ∧ u.b ≤ 400
/-- Statements go n signs on at least, leave as many braces open, and the counts within their bounds. -/
def Stp (n : Nat) (u v : St) : Prop := u.i + n ≤ v.i ∧ v.o = u.o ∧ (Inv u → Inv v)
theorem Fwd.stp {n : Nat} {u v : St} (h : Fwd n u v) : Stp n u v := ⟨h.1, h.2.1, fun hi => ⟨by rw [h.2.1]; exact hi.1, by rw [h.2.1]; exact hi.2.1, by rw [h.2.2]; exact hi.2.2.1, by rw [h.2.2]; exact hi.2.2.2⟩⟩
theorem Fwd.inv {n : Nat} {u v : St} (h : Fwd n u v) (hi : Inv u) : Inv v := h.stp.2.2 hi
theorem Stp.tr {n m : Nat} {u v w : St} (h : Stp n u v) (k : Stp m v w) : Stp (n + m) u w := ⟨by have := h.1; have := k.1; omega, k.2.1.trans h.2.1, fun hi => k.2.2 (h.2.2 hi)⟩
theorem Stp.le {n m : Nat} {u v : St} (h : Stp n u v) (hm : m ≤ n) : Stp m u v := ⟨by have := h.1; omega, h.2⟩
theorem mustHold_ok {u v : St} {x : Unit} (h : mustHold t u = .ok (x, v)) : v = u ∧ (is t u.i ⟨#[123]⟩ = true → u.o ≠ 20) := by
  unfold mustHold at h
  split at h
  · cases h
  · rename_i hn
    injection h with h; injection h with _ h; subst h
    exact ⟨rfl, fun h1 h2 => hn (by rw [h1, h2]; rfl)⟩
theorem count_ok {u v : St} {x : Unit} (h : count t u = .ok (x, v)) : v = ⟨u.i, u.o, u.b + 1⟩ ∧ u.b ≠ 400 := by
  obtain ⟨a, u1, h1, h2⟩ := th_ok h
  clear h
  obtain ⟨rfl, _⟩ := mustHold_ok h1
  split at h2
  · cases h2
  · rename_i hn
    injection h2 with h2; injection h2 with _ h2; subst h2
    exact ⟨rfl, hn⟩
theorem must_is {s : ByteArray} {u v : St} {x : Tk} (h : must t s u = .ok (x, v)) : is t u.i s = true ∧ v = u.go := by
  unfold must at h
  split at h
  · rename_i hn; injection h with h; injection h with _ h; subst h; exact ⟨hn, rfl⟩
  · cases h
theorem block_stp {rec : St → Res SL} (hr : ∀ u l v, rec u = .ok (l, v) → Stp 0 u v) {u v : St} {l : SL} (h : block t rec u = .ok (l, v)) : Stp 1 u v := by
  obtain ⟨a, u1, h1, h⟩ := th_ok h
  obtain ⟨b, u2, h2, h⟩ := th_ok h
  obtain ⟨c, u3, h3, h⟩ := th_ok h
  obtain ⟨d, u4, h4, h⟩ := th_ok h
  injection h with h; injection h with _ h; subst h
  obtain ⟨rfl, ho⟩ := mustHold_ok h1
  obtain ⟨hs, rfl⟩ := must_is h2
  have hS := hr _ _ _ h3
  have hF := must_fwd h4
  have ho20 := ho hs
  refine ⟨?_, ?_, fun hi => ?_⟩
  · have := hS.1; have := hF.1; simp only [St.go] at *; omega
  · have := hS.2.1; have := hF.2.1; simp only [St.go] at *; omega
  · have hi2 : Inv ⟨u1.go.i, u1.go.o + 1, u1.go.b⟩ := ⟨by have := hi.1; simp only [St.go]; omega, by have := hi.2.1; simp only [St.go]; omega, hi.2.2⟩
    have hi3 := hF.inv (hS.2.2 hi2)
    have h5 := hF.2.1; have h6 := hS.2.1
    simp only [St.go] at h5 h6
    exact ⟨by have := hi.1; simp only; omega, by have := hi.2.1; simp only; omega, hi3.2.2⟩
theorem free_fwd {u v : St} {x : Hd} (h : free t u = .ok (x, v)) : Fwd 1 u v := by
  obtain ⟨a, u1, h1, h⟩ := th_ok h
  obtain ⟨b, u2, h2, h⟩ := th_ok h
  obtain ⟨c, u3, h3, h⟩ := th_ok h
  obtain ⟨d, u4, h4, h⟩ := th_ok h
  obtain ⟨e, u5, h5, h⟩ := th_ok h
  injection h with h; injection h with _ h; subst h
  exact (((((must_fwd h1).tr (must_fwd h2)).tr (path_fwd h3)).tr (must_fwd h4)).tr (must_fwd h5)).le (by omega)
theorem named_fwd {u v : St} {x : Hd} (h : named t u = .ok (x, v)) : Fwd 1 u v := by
  unfold named at h
  split at h
  · obtain ⟨a, u1, h1, h⟩ := th_ok h
    obtain ⟨b, u2, h2, h⟩ := th_ok h
    obtain ⟨c, u3, h3, h⟩ := th_ok h
    injection h with h; injection h with _ h; subst h
    exact (((name_fwd h1).tr (listed_fwd (fun _ _ _ h => side_fwd h) h2)).tr (must_fwd h3)).le (by omega)
  · obtain ⟨a, u1, h1, h⟩ := th_ok h
    obtain ⟨b, u2, h2, h⟩ := th_ok h
    obtain ⟨c, u3, h3, h⟩ := th_ok h
    obtain ⟨d, u4, h4, h⟩ := th_ok h
    injection h with h; injection h with _ h; subst h
    exact ((((path_fwd h1).tr (must_fwd h2)).tr (value_fwd h3)).tr (must_fwd h4)).le (by omega)
theorem branch_stp {rec : St → Res SL} (hr : ∀ u l v, rec u = .ok (l, v) → Stp 0 u v) {u v : St} {x : Hd × SL × SL} (h : branch t rec u = .ok (x, v)) : Stp 1 u v := by
  obtain ⟨a, u1, h1, h⟩ := th_ok h
  obtain ⟨b, u2, h2, h⟩ := th_ok h
  obtain ⟨c, u3, h3, h⟩ := th_ok h
  have hs := (((must_fwd h1).tr (held_fwd h2)).stp).tr (block_stp hr h3)
  split at h
  · obtain ⟨d, u4, h4, h⟩ := th_ok h
    injection h with h; injection h with _ h; subst h
    exact ((hs.tr (Fwd.go u3).stp).tr (block_stp hr h4)).le (by omega)
  · injection h with h; injection h with _ h; subst h
    exact hs.le (by omega)
theorem loop_stp {rec : St → Res SL} (hr : ∀ u l v, rec u = .ok (l, v) → Stp 0 u v) {u v : St} {x : Hd × SL × SL} (h : loop t rec u = .ok (x, v)) : Stp 1 u v := by
  obtain ⟨a, u1, h1, h⟩ := th_ok h
  obtain ⟨b, u2, h2, h⟩ := th_ok h
  obtain ⟨c, u3, h3, h⟩ := th_ok h
  injection h with h; injection h with _ h; subst h
  exact ((((must_fwd h1).tr (held_fwd h2)).stp).tr (block_stp hr h3)).le (by omega)
theorem count_stp {u v : St} {x : Unit} (h : count t u = .ok (x, v)) : Stp 0 u v := by
  obtain ⟨rfl, hn⟩ := count_ok h
  exact ⟨Nat.le_refl _, rfl, fun hi => ⟨hi.1, hi.2.1, by have := hi.2.2.1; simp only; omega, by have := hi.2.2.2; simp only; omega⟩⟩
theorem stmt_stp {rec : St → Res SL} (hr : ∀ u l v, rec u = .ok (l, v) → Stp 0 u v) {u v : St} {x : Hd × SL × SL} (h : stmt t rec u = .ok (x, v)) : Stp 1 u v := by
  obtain ⟨a, u1, h1, h⟩ := th_ok h
  have hc := count_stp h1
  have key : Stp 1 u1 v := by
    split at h
    · injection h with h; injection h with _ h; subst h; exact (Fwd.go u1).stp
    · split at h
      · obtain ⟨b, u2, h2, h⟩ := th_ok h
        injection h with h; injection h with _ h; subst h; exact block_stp hr h2
      · split at h
        · obtain ⟨b, u2, h2, h⟩ := th_ok h
          injection h with h; injection h with _ h; subst h; exact (free_fwd h2).stp
        · split at h
          · exact branch_stp hr h
          · split at h
            · exact loop_stp hr h
            · obtain ⟨b, u2, h2, h⟩ := th_ok h
              injection h with h; injection h with _ h; subst h; exact (named_fwd h2).stp
  exact (hc.tr key).le (by omega)
theorem stmts_stp : ∀ (n : Nat) (u : St) (l : SL) (v : St), stmts t n u = .ok (l, v) → Stp 0 u v
  | 0, u, l, v, h => by cases h
  | n + 1, u, l, v, h => by
    unfold stmts at h
    split at h
    · obtain ⟨⟨hd, a, e⟩, u1, h1, h⟩ := th_ok h
      obtain ⟨r, u2, h2, h⟩ := th_ok h
      injection h with h; injection h with _ h; subst h
      exact ((stmt_stp (fun u l v h => stmts_stp n u l v h) h1).tr (stmts_stp n _ _ _ h2)).le (by omega)
    · injection h with h; injection h with _ h; subst h
      exact (Fwd.refl u).stp
end
end Pr
end Go.Proofs.YtlpnkllhpienhaaDoor
