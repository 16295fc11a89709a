/-
  DERIVED. Plain: what the document's reader reads is what the parser reads; no part of it is huge.
-/
import Derived.Test.YtmhpaacjioeknaaUa
namespace Go.Proofs.Ytmhpaacjioeknaa
open Go.RowKit Go.Sort
namespace Pa
open Pr (St Res th th_ok)
variable {l : List Tx.Sg}
theorem must_yes {s : ByteArray} {u : St} (hv : Pr.is (ts l) u.i s = true) : Pr.must (ts l) s u = .ok (Pr.sg (ts l) u.i, u.go) := by
  unfold Pr.must; rw [if_pos hv]
theorem rproc_eqo {N : Nat} (C : RC l N) {u : St} (hv : Pr.is (ts l) u.i ⟨#[118, 111, 105, 100]⟩ = true) : Eqo (rproc l ((ts l).length + 1) u.go) (proc l u) := by
  unfold proc rproc
  rw [must_yes hv]
  show Eqo _ (th (name l u.go) _)
  refine Eqo.th (Eqo.rfl' _) fun _ u => Eqo.th (Eqo.rfl' _) fun _ u => Eqo.th (Eqo.rfl' _) fun _ u => Eqo.th (Eqo.rfl' _) fun _ u => ?_
  intro x
  rcases q1 : rstmts l (rstmt l) ((ts l).length + 1) u with n | ⟨a, v⟩
  · rcases q2 : stmts l ((ts l).length + 1) u with m | ⟨b, v⟩
    · exact ⟨(fun e => by cases e), (fun e => by cases e)⟩
    · have hn : ¬ fin l v := fun hf => by
        have := (rstmts_iff C _ u (b, v)).2 ⟨q2, hf⟩
        rw [q1] at this; cases this
      have hm : Pr.is (ts l) v.i ⟨#[125]⟩ = false := by
        rcases q : Pr.is (ts l) v.i ⟨#[125]⟩ with _ | _
        · rfl
        · exact absurd (.inr q) hn
      constructor
      · intro e; cases e
      · intro e
        change Pr.th (Pr.must (ts l) ⟨#[125]⟩ v) _ = _ at e
        unfold Pr.must at e
        rw [if_neg (by rw [hm]; decide)] at e
        cases e
  · have := ((rstmts_iff C _ u (a, v)).1 q1).1
    rw [this]
theorem rprog_eqo {N : Nat} (C : RC l N) : ∀ (g : Nat) (ss : List Sr) (gs : List Dc) (ps : List Pc) (u : St), Eqo (rprog l ((ts l).length + 1) g ss gs ps u) (program l g ss gs ps u)
  | 0, _, _, _, _ => fun _ => ⟨(fun e => by cases e), (fun e => by cases e)⟩
  | g + 1, ss, gs, ps, u => by
    unfold rprog program
    by_cases h0 : (sg l u.i).kind = 0
    · rw [if_pos h0, if_pos h0]; exact Eqo.rfl' _
    · rw [if_neg h0, if_neg h0]
      by_cases h1 : Pr.is (ts l) u.i ⟨#[115, 116, 114, 117, 99, 116]⟩ = true
      · rw [if_pos h1, if_pos h1]
        have hs : Eqo (strct l u.go) (structure_ l u) := by
          rw [structure_strct, must_yes h1]; exact Eqo.rfl' _
        exact Eqo.th hs fun x v => rprog_eqo C g _ _ _ v
      · rw [if_neg h1, if_neg h1]
        by_cases h2 : Pr.is (ts l) u.i ⟨#[118, 111, 105, 100]⟩ = true
        · rw [if_pos h2, if_pos h2]
          exact Eqo.th (rproc_eqo C h2) fun x v => rprog_eqo C g _ _ _ v
        · rw [if_neg h2, if_neg h2]
          exact Eqo.th (Eqo.rfl' _) fun x v => rprog_eqo C g _ _ _ v
/-- What the document's reader reads is what the parser reads. -/
theorem rprog_pr {N : Nat} (C : RC l N) {P : Pg} {u : St} (h : rprog l (l.length + 1) (l.length + 1) [] [] [] ⟨0, 0, 0⟩ = .ok (P, u)) : Pr.program (ts l) ((ts l).length + 1) [] [] [] ⟨0, 0, 0⟩ = .ok (P.er, u) := by
  have hl : (ts l).length = l.length := by simp [ts]
  have h1 := (rprog_eqo C ((ts l).length + 1) [] [] [] ⟨0, 0, 0⟩ (P, u)).1 (by rw [hl]; exact h)
  have h2 := program_er l ((ts l).length + 1) [] [] [] ⟨0, 0, 0⟩
  rw [h1] at h2
  simp only [List.map_nil] at h2
  rcases q : Pr.program (ts l) ((ts l).length + 1) [] [] [] ⟨0, 0, 0⟩ with n | ⟨a, v⟩
  · rw [q] at h2; exact h2.elim
  · rw [q] at h2
    obtain ⟨rfl, rfl⟩ := h2
    rfl
end Pa
namespace Pr
variable {t : List Tk}
theorem more_len {α : Type} {item : St → Res α} : ∀ (n : Nat) (acc : List α) (u : St) {a : List α} {v : St}, more t item n acc u = .ok (a, v) → a.length ≤ acc.length + n
  | 0, _, _, _, _, h => by cases h
  | n + 1, acc, u, a, v, h => by
    unfold more at h
    split at h
    · obtain ⟨x, w, _, h2⟩ := th_ok h
      have := more_len n _ _ h2
      rw [List.length_append, List.length_singleton] at this
      omega
    · obtain ⟨x, w, _, h2⟩ := th_ok h
      injection h2 with h2; injection h2 with h2 _; subst h2; omega
theorem listed_len {α : Type} {item : St → Res α} {u : St} {a : List α} {v : St} (h : listed t item u = .ok (a, v)) : a.length ≤ t.length + 2 := by
  obtain ⟨x, w, _, h⟩ := th_ok h
  split at h
  · injection h with h; injection h with h _; subst h; exact Nat.zero_le _
  · obtain ⟨y, z, _, h⟩ := th_ok h
    have := more_len _ _ _ h
    rw [List.length_singleton] at this
    omega
theorem fields_len : ∀ (n : Nat) (acc : List Dc) (u : St) {a : List Dc} {v : St}, fields t n acc u = .ok (a, v) → a.length ≤ acc.length + n
  | 0, _, _, _, _, h => by cases h
  | n + 1, acc, u, a, v, h => by
    unfold fields at h
    split at h
    · injection h with h; injection h with h _; subst h; omega
    · obtain ⟨x, w, _, h⟩ := th_ok h
      obtain ⟨y, z, _, h⟩ := th_ok h
      have := fields_len n _ _ h
      rw [List.length_append, List.length_singleton] at this
      omega
theorem locals_len : ∀ (n : Nat) (acc : List Dc) (u : St) {a : List Dc} {v : St}, locals t n acc u = .ok (a, v) → a.length ≤ acc.length + n
  | 0, _, _, _, _, h => by cases h
  | n + 1, acc, u, a, v, h => by
    unfold locals at h
    split at h
    · obtain ⟨x, w, _, h⟩ := th_ok h
      have := locals_len n _ _ h
      rw [List.length_append, List.length_singleton] at this
      omega
    · injection h with h; injection h with h _; subst h; omega
/-- How long the parts of a program are at most. -/
def Parts (M : Nat) (ss : List Sr) (ps : List Pc) : Prop := (∀ r ∈ ss, r.fields.l.length ≤ M) ∧ ∀ q ∈ ps, q.params.l.length ≤ M ∧ q.locals_.l.length ≤ M
theorem parts_s {M : Nat} {ss : List Sr} {ps : List Pc} (h : Parts M ss ps) {x : Sr} (hx : x.fields.l.length ≤ M) : Parts M (ss ++ [x]) ps := ⟨fun r hr => by
  rcases List.mem_append.1 hr with hr | hr
  · exact h.1 r hr
  · rw [List.mem_singleton.1 hr]; exact hx, h.2⟩
theorem parts_p {M : Nat} {ss : List Sr} {ps : List Pc} (h : Parts M ss ps) {x : Pc} (hx : x.params.l.length ≤ M ∧ x.locals_.l.length ≤ M) : Parts M ss (ps ++ [x]) := ⟨h.1, fun r hr => by
  rcases List.mem_append.1 hr with hr | hr
  · exact h.2 r hr
  · rw [List.mem_singleton.1 hr]; exact hx⟩
theorem struct_len {u v : St} {x : Sr} (h : structure_ t u = .ok (x, v)) : x.fields.l.length ≤ t.length + 2 := by
  obtain ⟨_, _, _, h⟩ := th_ok h
  obtain ⟨_, _, _, h⟩ := th_ok h
  obtain ⟨_, _, _, h⟩ := th_ok h
  obtain ⟨_, _, h4, h⟩ := th_ok h
  injection h with h; injection h with h _; subst h
  have := fields_len _ _ _ h4
  simp only [List.length_nil] at this
  simp only
  omega
theorem proc_len {u v : St} {x : Pc} (h : proc t u = .ok (x, v)) : x.params.l.length ≤ t.length + 2 ∧ x.locals_.l.length ≤ t.length + 2 := by
  obtain ⟨_, _, _, h⟩ := th_ok h
  obtain ⟨_, _, _, h⟩ := th_ok h
  obtain ⟨_, _, h3, h⟩ := th_ok h
  obtain ⟨_, _, _, h⟩ := th_ok h
  obtain ⟨_, _, h5, h⟩ := th_ok h
  obtain ⟨_, _, _, h⟩ := th_ok h
  obtain ⟨_, _, _, h⟩ := th_ok h
  injection h with h; injection h with h _; subst h
  have h6 := listed_len h3
  have h7 := locals_len _ _ _ h5
  simp only [List.length_nil] at h7
  exact ⟨h6, by simp only; omega⟩
theorem program_len : ∀ (n : Nat) (ss : List Sr) (gs : List Dc) (ps : List Pc) (u : St) {p : Pg} {v : St}, program t n ss gs ps u = .ok (p, v) → Parts (t.length + 2) ss ps → p.structs.l.length ≤ ss.length + n ∧ p.globals.l.length ≤ gs.length + n ∧ p.procs.l.length ≤ ps.length + n ∧ Parts (t.length + 2) p.structs.l p.procs.l
  | 0, _, _, _, _, _, _, h, _ => by cases h
  | n + 1, ss, gs, ps, u, p, v, h, hp => by
    unfold program at h
    split at h
    · injection h with h; injection h with h _; subst h
      exact ⟨by show ss.length ≤ _; omega, by show gs.length ≤ _; omega, by show ps.length ≤ _; omega, hp⟩
    · split at h
      · obtain ⟨x, w, h1, h⟩ := th_ok h
        have := program_len n _ _ _ _ h (parts_s hp (struct_len h1))
        rw [List.length_append, List.length_singleton] at this
        exact ⟨by omega, by omega, by omega, this.2.2.2⟩
      · split at h
        · obtain ⟨x, w, h1, h⟩ := th_ok h
          have := program_len n _ _ _ _ h (parts_p hp (proc_len h1))
          rw [List.length_append, List.length_singleton] at this
          exact ⟨by omega, by omega, by omega, this.2.2.2⟩
        · obtain ⟨x, w, h1, h⟩ := th_ok h
          have := program_len n _ _ _ _ h hp
          rw [List.length_append, List.length_singleton] at this
          exact ⟨by omega, by omega, by omega, this.2.2.2⟩
end Pr
theorem okN_size {x : ByteArray} (h : Pn.okN x = true) : x.size ≤ 16 := by
  have := (Pn.okN_word h).1.2.2
  unfold Pn.txt at this
  simpa using this
theorem every_er : ∀ l : SL, l.er.every = l.every
  | .nil => rfl
  | .cons h tp tc t ep ec e r => by
    simp only [SL.er, SL.every]
    rw [every_er t, every_er e, every_er r]; rfl
theorem every_ok : ∀ {l : SL}, Pn.okList l = true → ∀ y ∈ l.every, y.size ≤ 16
  | .nil, _, y, hy => by cases hy
  | .cons h tp tc t ep ec e r, ho, y, hy => by
    simp only [Pn.okList, Bool.and_eq_true] at ho
    simp only [SL.every, List.mem_append] at hy
    rcases hy with ((hy | hy) | hy) | hy
    · by_cases hk : h.kind = 3
      · rw [if_pos hk, List.mem_singleton] at hy
        subst hy
        have h1 := ho.1.1.1
        unfold Pn.okStmt at h1
        rw [if_neg (by omega), if_neg (by omega), if_neg (by omega), if_pos hk] at h1
        simp only [Bool.and_eq_true] at h1
        exact okN_size h1.1.1.1.2
      · rw [if_neg hk] at hy; cases hy
    · exact every_ok ho.1.1.2 y hy
    · exact every_ok ho.1.2 y hy
    · exact every_ok ho.2 y hy
/-- What was read: no part is huge, and no name is long. -/
theorem read_ok (s : ByteArray) (he : (Tx.alls s).2.2 = 0) {x : Pg} {u : Pr.St} (h : Pa.rprog (Tx.alls s).1 ((Tx.alls s).1.length + 1) ((Tx.alls s).1.length + 1) [] [] [] ⟨0, 0, 0⟩ = .ok (pg3 (x.structs.l.map qSr.er) (x.globals.l.map qDc.er) (x.procs.l.map qPc.er), u)) :
    PgBd x ∧ ∀ p ∈ x.procs.l, p.name.size ≤ maxLen ∧ ∀ y ∈ uq [] p.body.every, y.size ≤ maxLen := by
  obtain ⟨C, _, hl⟩ := rc_alls s he
  have h1 := Pa.rprog_pr C h
  have hz : (Pa.ts (Tx.alls s).1).length = (Tx.alls s).1.length := by simp [Pa.ts]
  obtain ⟨b1, b2, b3, b4, b5⟩ := Pr.program_len _ _ _ _ _ h1 ⟨by simp, by simp⟩
  have hr := Pn.program_gt (Pn.alls_gt s he) _ _ _ _ _ h1 (by simp) (by simp) (by simp) rfl rfl (by show (0 : Int) ≤ 400; decide)
  rw [hz] at b1 b2 b3 b4 b5
  unfold Pn.right Pn.okProg at hr
  simp only [Bool.and_eq_true, List.all_eq_true] at hr
  have g1 := hr.1.1.1.1
  have g3 := hr.1.1.2
  simp only [Pg.er, pg3, Sl.er, List.length_map, List.length_nil] at b1 b2 b3
  have hm : (16 : Nat) ≤ maxLen := by unfold maxLen; omega
  have hsr : ∀ r ∈ x.structs.l, (qSr.er r).er ∈ (pg3 (x.structs.l.map qSr.er) (x.globals.l.map qDc.er) (x.procs.l.map qPc.er)).er.structs.l := fun r hr =>
    List.mem_map_of_mem (List.mem_map_of_mem hr)
  have hpc : ∀ r ∈ x.procs.l, (qPc.er r).er ∈ (pg3 (x.structs.l.map qSr.er) (x.globals.l.map qDc.er) (x.procs.l.map qPc.er)).er.procs.l := fun r hr =>
    List.mem_map_of_mem (List.mem_map_of_mem hr)
  have hnp : ∀ p ∈ x.procs.l, p.name.size ≤ 16 ∧ ∀ y ∈ p.body.every, y.size ≤ 16 := fun p hp => by
    have h2 := g3 _ (hpc p hp)
    unfold Pn.okProc at h2
    simp only [Bool.and_eq_true] at h2
    refine ⟨okN_size h2.1.1.1, fun y hy => ?_⟩
    have h3 := every_ok h2.2 y
    have e1 : (qPc.er p).er.body = p.body.pl.er := rfl
    rw [e1, every_er, pl_every] at h3
    exact h3 hy
  refine ⟨⟨by omega, fun r hr => ?_, by omega, by omega, fun p hp => ?_⟩, fun p hp => ⟨Nat.le_trans (hnp p hp).1 hm, fun y hy => ?_⟩⟩
  · have h2 := g1 _ (hsr r hr)
    unfold Pn.okStruct at h2
    simp only [Bool.and_eq_true] at h2
    have h3 := b4 _ (hsr r hr)
    have e1 : (qSr.er r).er.fields.l.length = r.fields.l.length := by
      show ((r.fields.l).map Dc.er).length = _
      rw [List.length_map]
    rw [e1] at h3
    have h4 : r.name.size ≤ 16 := okN_size h2.1
    exact ⟨by omega, by omega⟩
  · have h3 := b5 _ (hpc p hp)
    have e1 : (qPc.er p).er.params.l.length = p.params.l.length := by
      show ((p.params.l).map Dc.er).length = _
      rw [List.length_map]
    have e2 : (qPc.er p).er.locals_.l.length = p.locals_.l.length := by
      show ((p.locals_.l).map Dc.er).length = _
      rw [List.length_map]
    rw [e1, e2] at h3
    exact ⟨by omega, by omega⟩
  · rcases (uq_mem y p.body.every []).1 hy with h2 | h2
    · cases h2
    · exact Nat.le_trans ((hnp p hp).2 y h2) hm
end Go.Proofs.Ytmhpaacjioeknaa
