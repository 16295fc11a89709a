/-
  Plain: how long the printed text of what was read can be. Plain: printed texts, part by part. Plain: how deep and how many statements are, as the document counts them, of what may be. The walk of the document's Right, where a program is right. The walk of the document's lines of statements. The prin
-/
import Derived.Test.YtdlchhimkelinaaGreatDoorK05
import Derived.Test.YtdlchhimkelinaaGreatDoorK07
import Derived.Test.YtdlchhimkelinaaGreatDoorK06
import Derived.Deep.OwnRows
set_option maxHeartbeats 6400000
set_option maxRecDepth 100000
namespace Go.Proofs.YtdlchhimkelinaaGreatDoor
namespace Pn
open Pr (th St Res th_ok)
/-- No call has too many arguments. -/
def tight (M : Nat) : SL → Prop
 | .nil => True
 | .cons h _ _ t _ _ e r => h.args.l.length ≤ M ∧ tight M t ∧ tight M e ∧ tight M r
/-- No list is too long. -/
def tightP (M : Nat) (p : Pg) : Prop :=
 (p.structs.l.length ≤ M ∧ ∀ x ∈ p.structs.l, x.fields.l.length ≤ M) ∧ p.globals.l.length ≤ M ∧ p.procs.l.length ≤ M ∧ ∀ x ∈ p.procs.l, x.params.l.length ≤ M ∧ x.locals_.l.length ≤ M ∧ tight M x.body
section
variable {t : List Pr.Tk}
theorem more_len {α : Type} {item : St → Res α} : ∀ (n : Nat) (acc : List α) (u : St) {l : List α} {v : St}, Pr.more t item n acc u = .ok (l, v) → l.length ≤ acc.length + n
 | 0, acc, u, l, v, h => by cases h
 | n + 1, acc, u, l, v, h => by
  unfold Pr.more at h
  split at h
  ·obtain ⟨x, w, h1, h2⟩ := th_ok h
   have := more_len n _ w h2
   simp at this; omega
  ·obtain ⟨a, u1, h1, h⟩ := th_ok h
   injection h with h; injection h with h _; subst h
   omega
theorem listed_len {α : Type} {item : St → Res α} {u v : St} {l : List α} (h : Pr.listed t item u = .ok (l, v)) : l.length ≤ t.length + 2 := by
 obtain ⟨a, u1, h1, h⟩ := th_ok h
 split at h
 ·injection h with h; injection h with h _; subst h; simp
 ·obtain ⟨b, u2, h2, h⟩ := th_ok h
  have := more_len _ _ _ h
  simp at this; omega
theorem fields_llen : ∀ (n : Nat) (acc : List Dc) (u : St) {l : List Dc} {v : St}, Pr.fields t n acc u = .ok (l, v) → l.length ≤ acc.length + n
 | 0, acc, u, l, v, h => by cases h
 | n + 1, acc, u, l, v, h => by
  unfold Pr.fields at h
  split at h
  ·injection h with h; injection h with hl h; subst hl; omega
  ·obtain ⟨x, u1, h1, h⟩ := th_ok h
   obtain ⟨y, u2, h2, h⟩ := th_ok h
   have := fields_llen n _ u2 h
   simp at this; omega
theorem locals_llen : ∀ (n : Nat) (acc : List Dc) (u : St) {l : List Dc} {v : St}, Pr.locals t n acc u = .ok (l, v) → l.length ≤ acc.length + n
 | 0, acc, u, l, v, h => by cases h
 | n + 1, acc, u, l, v, h => by
  unfold Pr.locals at h
  split at h
  ·obtain ⟨x, u1, h1, h⟩ := th_ok h
   have := locals_llen n _ u1 h
   simp at this; omega
  ·injection h with h; injection h with hl h; subst hl; omega
theorem block_tight {M : Nat} {rec : St → Res SL} (hr : ∀ u l v, rec u = .ok (l, v) → tight M l) {u v : St} {l : SL} (h : Pr.block t rec u = .ok (l, v)) : tight M l := by
 obtain ⟨a, u1, h1, h⟩ := th_ok h
 obtain ⟨b, u2, h2, h⟩ := th_ok h
 obtain ⟨c, u3, h3, h⟩ := th_ok h
 obtain ⟨d, u4, h4, h⟩ := th_ok h
 injection h with h; injection h with hl h; subst h; subst hl
 exact hr _ _ _ h3
theorem free_tight {u v : St} {x : Hd} (h : Pr.free t u = .ok (x, v)) : x.args.l.length ≤ t.length + 2 := by
 obtain ⟨a, u1, h1, h⟩ := th_ok h
 obtain ⟨b, u2, h2, h⟩ := th_ok h
 obtain ⟨c, u3, h3, h⟩ := th_ok h
 obtain ⟨d, u4, h4, h⟩ := th_ok h
 obtain ⟨e, u5, h5, h⟩ := th_ok h
 injection h with h; injection h with h _; subst h
 exact Nat.zero_le _
theorem named_tight {u v : St} {x : Hd} (h : Pr.named t u = .ok (x, v)) : x.args.l.length ≤ t.length + 2 := by
 unfold Pr.named at h
 split at h
 ·obtain ⟨a, u1, h1, h⟩ := th_ok h
  obtain ⟨b, u2, h2, h⟩ := th_ok h
  obtain ⟨c, u3, h3, h⟩ := th_ok h
  injection h with h; injection h with h _; subst h
  exact listed_len h2
 ·obtain ⟨a, u1, h1, h⟩ := th_ok h
  obtain ⟨b, u2, h2, h⟩ := th_ok h
  obtain ⟨c, u3, h3, h⟩ := th_ok h
  obtain ⟨d, u4, h4, h⟩ := th_ok h
  injection h with h; injection h with h _; subst h
  exact Nat.zero_le _
theorem stmt_tight {rec : St → Res SL} (hr : ∀ u l v, rec u = .ok (l, v) → tight (t.length + 2) l) {u v : St} {h : Hd} {T E : SL} (hs : Pr.stmt t rec u = .ok ((h, T, E), v)) :
  h.args.l.length ≤ t.length + 2 ∧ tight (t.length + 2) T ∧ tight (t.length + 2) E := by
 obtain ⟨a, u1, h1, hs⟩ := th_ok hs
 split at hs
 ·injection hs with hs; injection hs with hx hv
  simp only [Prod.mk.injEq] at hx
  obtain ⟨rfl, rfl, rfl⟩ := hx
  exact ⟨Nat.zero_le _, trivial, trivial⟩
 ·split at hs
  ·obtain ⟨b, u2, h2, hs⟩ := th_ok hs
   injection hs with hs; injection hs with hx hv
   simp only [Prod.mk.injEq] at hx
   obtain ⟨rfl, rfl, rfl⟩ := hx
   exact ⟨Nat.zero_le _, block_tight hr h2, trivial⟩
  ·split at hs
   ·obtain ⟨b, u2, h2, hs⟩ := th_ok hs
    injection hs with hs; injection hs with hx hv
    simp only [Prod.mk.injEq] at hx
    obtain ⟨rfl, rfl, rfl⟩ := hx
    exact ⟨free_tight h2, trivial, trivial⟩
   ·split at hs
    ·obtain ⟨b, u2, h2, hs⟩ := th_ok hs
     obtain ⟨c, u3, h3, hs⟩ := th_ok hs
     obtain ⟨d, u4, h4, hs⟩ := th_ok hs
     split at hs
     ·obtain ⟨e, u5, h5, hs⟩ := th_ok hs
      injection hs with hs; injection hs with hx hv
      simp only [Prod.mk.injEq] at hx
      obtain ⟨rfl, rfl, rfl⟩ := hx
      exact ⟨Nat.zero_le _, block_tight hr h4, block_tight hr h5⟩
     ·injection hs with hs; injection hs with hx hv
      simp only [Prod.mk.injEq] at hx
      obtain ⟨rfl, rfl, rfl⟩ := hx
      exact ⟨Nat.zero_le _, block_tight hr h4, trivial⟩
    ·split at hs
     ·obtain ⟨b, u2, h2, hs⟩ := th_ok hs
      obtain ⟨c, u3, h3, hs⟩ := th_ok hs
      obtain ⟨d, u4, h4, hs⟩ := th_ok hs
      injection hs with hs; injection hs with hx hv
      simp only [Prod.mk.injEq] at hx
      obtain ⟨rfl, rfl, rfl⟩ := hx
      exact ⟨Nat.zero_le _, block_tight hr h4, trivial⟩
     ·obtain ⟨b, u2, h2, hs⟩ := th_ok hs
      injection hs with hs; injection hs with hx hv
      simp only [Prod.mk.injEq] at hx
      obtain ⟨rfl, rfl, rfl⟩ := hx
      exact ⟨named_tight h2, trivial, trivial⟩
theorem stmts_tight : ∀ (n : Nat) (u : St) (l : SL) (v : St), Pr.stmts t n u = .ok (l, v) → tight (t.length + 2) l
 | 0, u, l, v, h => by cases h
 | n + 1, u, l, v, h => by
  unfold Pr.stmts at h
  split at h
  ·obtain ⟨⟨hh, a, e⟩, u1, h1, h⟩ := th_ok h
   obtain ⟨r, u2, h2, h⟩ := th_ok h
   injection h with h; injection h with hl h; subst hl
   obtain ⟨g1, g2, g3⟩ := stmt_tight (fun u l v h => stmts_tight n u l v h) h1
   exact ⟨g1, g2, g3, stmts_tight n _ _ _ h2⟩
  ·injection h with h; injection h with hl h; subst hl
   exact trivial
theorem struct_tight {u v : St} {x : Sr} (h : Pr.structure_ t u = .ok (x, v)) : x.fields.l.length ≤ t.length + 2 := by
 obtain ⟨a, u1, h1, h⟩ := th_ok h
 obtain ⟨b, u2, h2, h⟩ := th_ok h
 obtain ⟨c, u3, h3, h⟩ := th_ok h
 obtain ⟨d, u4, h4, h⟩ := th_ok h
 injection h with h; injection h with hl h; subst hl
 have := fields_llen _ _ _ h4
 simp at this
 show d.length ≤ _
 omega
theorem proc_tight {u v : St} {x : Pc} (h : Pr.proc t u = .ok (x, v)) : x.params.l.length ≤ t.length + 2 ∧ x.locals_.l.length ≤ t.length + 2 ∧ tight (t.length + 2) x.body := by
 obtain ⟨a, u1, h1, h⟩ := th_ok h
 obtain ⟨b, u2, h2, h⟩ := th_ok h
 obtain ⟨c, u3, h3, h⟩ := th_ok h
 obtain ⟨d, u4, h4, h⟩ := th_ok h
 obtain ⟨e, u5, h5, h⟩ := th_ok h
 obtain ⟨f, u6, h6, h⟩ := th_ok h
 obtain ⟨k, u7, h7, h⟩ := th_ok h
 injection h with h; injection h with hl h; subst hl
 have := locals_llen _ _ _ h5
 simp at this
 exact ⟨listed_len h3, by show e.length ≤ _; omega, stmts_tight _ _ _ _ h6⟩
theorem program_tight : ∀ (n : Nat) (ss : List Sr) (gs : List Dc) (ps : List Pc) (u : St) {p : Pg} {v : St}, Pr.program t n ss gs ps u = .ok (p, v) → ss.length + n ≤ t.length + 2 → gs.length + n ≤ t.length + 2 → ps.length + n ≤ t.length + 2 →
  (∀ x ∈ ss, x.fields.l.length ≤ t.length + 2) → (∀ x ∈ ps, x.params.l.length ≤ t.length + 2 ∧ x.locals_.l.length ≤ t.length + 2 ∧ tight (t.length + 2) x.body) → tightP (t.length + 2) p
 | 0, ss, gs, ps, u, p, v, h, _, _, _, _, _ => by cases h
 | n + 1, ss, gs, ps, u, p, v, h, h1, h2, h3, h4, h5 => by
  unfold Pr.program at h
  split at h
  ·injection h with h; injection h with hl h; subst hl
   exact ⟨⟨by show ss.length ≤ _; omega, h4⟩, by show gs.length ≤ _; omega, by show ps.length ≤ _; omega, h5⟩
  ·split at h
   ·obtain ⟨x, u1, q1, h⟩ := th_ok h
    exact program_tight n _ gs ps u1 h (by simp; omega) (by omega) (by omega) (fun z hz => by
     rcases List.mem_append.1 hz with hz | hz
     ·exact h4 z hz
     ·rw [List.mem_singleton.1 hz]; exact struct_tight q1) h5
   ·split at h
    ·obtain ⟨x, u1, q1, h⟩ := th_ok h
     exact program_tight n ss gs _ u1 h (by omega) (by omega) (by simp; omega) h4 (fun z hz => by
      rcases List.mem_append.1 hz with hz | hz
      ·exact h5 z hz
      ·rw [List.mem_singleton.1 hz]; exact proc_tight q1)
    ·obtain ⟨x, u1, q1, h⟩ := th_ok h
     exact program_tight n ss _ ps u1 h (by omega) (by simp; omega) (by omega) h4 h5
end
theorem tight_mono {M N : Nat} (h : M ≤ N) : ∀ l : SL, tight M l → tight N l
 | .nil, _ => trivial
 | .cons _ _ _ t _ _ e r, g => ⟨Nat.le_trans g.1 h, tight_mono h t g.2.1, tight_mono h e g.2.2.1, tight_mono h r g.2.2.2⟩
theorem tightP_mono {M N : Nat} (h : M ≤ N) {p : Pg} (g : tightP M p) : tightP N p :=
 ⟨⟨Nat.le_trans g.1.1 h, fun x hx => Nat.le_trans (g.1.2 x hx) h⟩, Nat.le_trans g.2.1 h, Nat.le_trans g.2.2.1 h, fun x hx => ⟨Nat.le_trans (g.2.2.2 x hx).1 h, Nat.le_trans (g.2.2.2 x hx).2.1 h, tight_mono h _ (g.2.2.2 x hx).2.2⟩⟩
/- How long the texts are. -/
theorem path_len {x : Pth} (h : okPath x = true) : (pathT x).length ≤ 160 := by
 unfold okPath at h
 simp only [Bool.and_eq_true, decide_eq_true_eq, List.all_eq_true] at h
 have h1 := (okN_nameB h.1.1).1
 have h2 := hopsT_len x.hops.l h.2
 have := h.1.2
 simp only [pathT, List.length_append, txt, Tx.len_eq]
 omega
theorem txt_len {x : ByteArray} (h : okN x = true) : (txt x).length ≤ 16 := by
 have h1 := (okN_nameB h).1
 simpa only [txt, Tx.len_eq] using h1
theorem val_len {x : Vl} (h : okVal x = true) : (valT x).length ≤ 200 := by
 unfold okVal at h
 unfold valT
 by_cases k0 : x.kind = 0
 ·rw [if_pos k0]; decide
 rw [if_neg k0]
 by_cases k3 : x.kind = 3
 ·rw [if_neg (by omega), if_neg (by omega), if_pos k3]; decide
 rw [if_neg (by omega)] at h
 by_cases k1 : x.kind = 1
 ·rw [if_pos k1] at h ⊢
  simp only [Bool.and_eq_true] at h
  have := path_len h.2; omega
 rw [if_neg k1] at h ⊢
 by_cases k2 : x.kind = 2
 ·rw [if_pos k2] at h ⊢
  simp only [Bool.and_eq_true] at h
  have := txt_len h.2
  simp only [List.length_append, tNew, List.length_cons, List.length_nil]
  omega
 rw [if_neg k2] at h ⊢
 rw [if_neg k3]
 by_cases k4 : x.kind = 4
 ·rw [if_pos k4] at h ⊢
  simp only [Bool.and_eq_true] at h
  have := digits_len 9 x.left.n.toNat (by have := (okNum_nat h.2).2; omega)
  omega
 rw [if_neg k4] at h ⊢
 by_cases k5 : x.kind = 5 ∨ x.kind = 6
 ·rw [if_pos k5] at h
  simp only [Bool.and_eq_true] at h
  have a := term_len h.1.2
  have b := term_len h.2
  split <;> simp only [List.length_append, List.length_cons, List.length_nil] <;> omega
 ·rw [if_neg k5] at h; cases h
theorem cond_len {x : Cd} (h : okCond x = true) : (condT x).length ≤ 420 := by
 unfold okCond at h
 unfold condT
 by_cases k0 : x.kind = 0
 ·rw [if_pos k0]; simp
 rw [if_neg k0] at h ⊢
 simp only [Bool.and_eq_true] at h
 have a := side_len h.1.2
 have b := side_len h.2
 have c : (relT x.kind).length ≤ 2 := by unfold relT; split <;> (try split) <;> (try split) <;> simp
 simp only [List.length_append, List.length_cons, List.length_nil]
 omega
theorem comma_len {α : Type} {f : α → List UInt8} {B : Nat} : ∀ l : List α, (∀ a ∈ l, (f a).length ≤ B) → (commaT f l).length ≤ l.length * (B + 2)
 | [], _ => Nat.zero_le _
 | [a], h => by have := h a List.mem_cons_self; simp only [commaT, List.length_cons, List.length_nil]; omega
 | a :: b :: l, h => by
  have h1 := h a List.mem_cons_self
  have h2 := comma_len (b :: l) (fun x hx => h x (List.mem_cons_of_mem _ hx))
  simp only [commaT, List.length_append, List.length_cons] at *
  rw [Nat.succ_mul]
  omega
theorem lines_len : ∀ (l : SL) (d : Nat), okList l = true → tight 8010 l → (d : Int) + dp l ≤ 50 → ((linesT l d).length : Int) ≤ cnt l * 2000000
 | .nil, _, _, _, _ => by simp [linesT, cnt]
 | .cons h _ _ t _ _ e r, d, ho, ht, hd => by
  simp only [okList, Bool.and_eq_true] at ho
  obtain ⟨ta, tt, te, tr⟩ := ht
  simp only [dp] at hd
  have hr := lines_len r d ho.2 tr (by omega)
  have hn := dp_nn r
  have ct := cnt_nn t; have ce := cnt_nn e
  have hdp : d ≤ 50 := by omega
  have hp := pad_len d
  simp only [linesT, cnt, List.length_append, hp]
  have hos := ho.1.1.1
  unfold okStmt at hos
  unfold stT
  by_cases h0 : h.kind = 0
  ·rw [if_pos h0]; simp only [List.length_cons]; omega
  by_cases h1 : h.kind = 1
  ·rw [if_neg h0, if_pos h1] at hos ⊢
   simp only [Bool.and_eq_true] at hos
   have := path_len hos.1.1.1.1.1.1
   have := val_len hos.1.1.1.1.1.2
   simp only [List.length_cons, List.length_append]; omega
  by_cases h2 : h.kind = 2
  ·rw [if_neg h0, if_neg h1, if_pos h2] at hos ⊢
   simp only [Bool.and_eq_true] at hos
   have := path_len hos.1.1.1.1.1.1
   simp only [List.length_cons, List.length_append, tFree, List.length_nil]; omega
  by_cases h3 : h.kind = 3
  ·rw [if_neg h0, if_neg h1, if_neg h2, if_pos h3] at hos ⊢
   simp only [Bool.and_eq_true] at hos
   have := txt_len hos.1.1.1.2
   have hall := hos.1.1.1.1.1.1.1
   have := comma_len (f := valT) (B := 200) h.args.l (fun a ha => side_len (List.all_eq_true.1 hall a ha))
   simp only [List.length_cons, List.length_append]; omega
  by_cases h4 : h.kind = 4
  ·rw [if_neg h0, if_neg h1, if_neg h2, if_neg h3, if_pos h4] at hos ⊢
   simp only [Bool.and_eq_true] at hos
   have := cond_len hos.1.1.2
   rw [if_pos (by omega)] at hd
   have a := lines_len t (d + 1) ho.1.1.2 tt (by omega)
   have b := lines_len e (d + 1) ho.1.2 te (by omega)
   simp only [List.length_cons, List.length_append, tIf, List.length_nil, hp]
   split
   ·simp only [List.length_cons, List.length_append, tElse, List.length_nil, hp]; omega
   ·simp only [List.length_cons]; omega
  by_cases h5 : h.kind = 5
  ·rw [if_neg h0, if_neg h1, if_neg h2, if_neg h3, if_neg h4, if_pos h5] at hos ⊢
   simp only [Bool.and_eq_true] at hos
   have := cond_len hos.1.1.1.2
   rw [if_pos (by omega)] at hd
   have a := lines_len t (d + 1) ho.1.1.2 tt (by omega)
   simp only [List.length_cons, List.length_append, tWhile, List.length_nil, hp]; omega
  ·rw [if_neg h0, if_neg h1, if_neg h2, if_neg h3, if_neg h4, if_neg h5] at hos ⊢
   by_cases h6 : h.kind = 6
   ·rw [if_pos (by omega)] at hd
    have a := lines_len t (d + 1) ho.1.1.2 tt (by omega)
    simp only [List.length_cons, List.length_append, hp]; omega
   ·rw [if_neg h6] at hos; cases hos
theorem fields_tlen {d : Nat} {k : List UInt8} (hd : d ≤ 1) : ∀ l : List Dc, l.all okDecl = true → (fieldsT d l k).length ≤ l.length * 50 + k.length
 | [], _ => by simp [fieldsT]
 | x :: l, h => by
  simp only [List.all_cons, Bool.and_eq_true] at h
  have a := decl_len h.1
  have b := fields_tlen (k := k) hd l h.2
  have c := pad_len d
  simp only [fieldsT, List.length_append, List.length_cons, c] at *
  omega
theorem structs_tlen {k : List UInt8} : ∀ l : List Sr, l.all okStruct = true → (∀ x ∈ l, x.fields.l.length ≤ 8010) → (structsT l k).length ≤ l.length * 500000 + k.length
 | [], _, _ => by simp [structsT]
 | x :: l, h, g => by
  simp only [List.all_cons, Bool.and_eq_true, okStruct] at h
  have a := txt_len h.1.1
  have b := structs_tlen (k := k) l h.2 (fun y hy => g y (List.mem_cons_of_mem _ hy))
  have c := fields_tlen (d := 1) (k := 125 :: 10 :: structsT l k) (by omega) x.fields.l (fields_decls h.1.2)
  have e := g x List.mem_cons_self
  simp only [structsT, List.length_append, List.length_cons, tStruct, List.length_nil] at *
  omega
theorem procs_tlen : ∀ l : List Pc, l.all okProc = true → (∀ x ∈ l, dp x.body ≤ 20) → (∀ x ∈ l, x.params.l.length ≤ 8010 ∧ x.locals_.l.length ≤ 8010 ∧ tight 8010 x.body) → ((procsT l).length : Int) ≤ l.length * 1000000 + cntP l * 2000000
 | [], _, _, _ => by simp [procsT, cntP]
 | x :: l, h, hd, g => by
  simp only [List.all_cons, Bool.and_eq_true, okProc] at h
  have a := txt_len h.1.1.1.1
  have b := procs_tlen l h.2 (fun y hy => hd y (List.mem_cons_of_mem _ hy)) (fun y hy => g y (List.mem_cons_of_mem _ hy))
  obtain ⟨g1, g2, g3⟩ := g x List.mem_cons_self
  have c := fields_tlen (d := 1) (k := linesT x.body 1 ++ 125 :: 10 :: procsT l) (by omega) x.locals_.l h.1.1.2
  have e := lines_len x.body 1 h.1.2 g3 (by have := hd x List.mem_cons_self; omega)
  have f := comma_len (f := declT) (B := 40) x.params.l (fun y hy => decl_len (List.all_eq_true.1 h.1.1.1.2 y hy))
  simp only [procsT, cntP, List.length_append, List.length_cons, tVoid, List.length_nil] at *
  omega
theorem prog_tlen {p : Pg} (h : right p = true) (g : tightP 8010 p) : (progT p).length ≤ 100000000000 := by
 simp only [right, okProg, Bool.and_eq_true, decide_eq_true_eq] at h
 obtain ⟨⟨⟨⟨hs, hg⟩, hp⟩, hd⟩, hc⟩ := h
 obtain ⟨⟨g1, g2⟩, g3, g4, g5⟩ := g
 have a := procs_tlen p.procs.l hp (fun x hx => by have := List.all_eq_true.1 hd x hx; simpa using this) g5
 have b := fields_tlen (d := 0) (k := procsT p.procs.l) (by omega) p.globals.l hg
 have c := structs_tlen (k := fieldsT 0 p.globals.l (procsT p.procs.l)) p.structs.l hs g2
 unfold progT
 omega
end Pn
end Go.Proofs.YtdlchhimkelinaaGreatDoor
namespace Go.Proofs.YtdlchhimkelinaaGreatDoor
namespace Pn
theorem stT_app (h : Hd) (t e : List UInt8) (d : Nat) (k : List UInt8) : stT h t e d k = stT h t e d [] ++ k := by
 unfold stT
 split
 ·rfl
 split
 ·simp
 split
 ·simp
 split
 ·simp
 split
 ·split <;> simp
 split
 ·simp
 ·simp
theorem fieldsT_app (d : Nat) : ∀ (l : List Dc) (k : List UInt8), fieldsT d l k = fieldsT d l [] ++ k
 | [], _ => rfl
 | x :: l, k => by simp only [fieldsT]; rw [fieldsT_app d l k]; simp
theorem fieldsT_snoc (d : Nat) : ∀ (l : List Dc) (x : Dc), fieldsT d (l ++ [x]) [] = fieldsT d l [] ++ (pad d ++ (declT x ++ [59, 10]))
 | [], x => by simp [fieldsT]
 | y :: l, x => by simp only [List.cons_append, fieldsT]; rw [fieldsT_snoc d l x]; simp
def srT (x : Sr) : List UInt8 := tStruct ++ 32 :: (txt x.name ++ 32 :: 123 :: 10 :: (fieldsT 1 x.fields.l [] ++ [125, 10]))
theorem structsT_app : ∀ (l : List Sr) (k : List UInt8), structsT l k = structsT l [] ++ k
 | [], _ => rfl
 | x :: l, k => by
  simp only [structsT]
  rw [fieldsT_app 1 x.fields.l (125 :: 10 :: structsT l k), fieldsT_app 1 x.fields.l (125 :: 10 :: structsT l []), structsT_app l k]
  simp
theorem structsT_snoc : ∀ (l : List Sr) (x : Sr), structsT (l ++ [x]) [] = structsT l [] ++ srT x
 | [], x => by simp only [List.nil_append, structsT, srT]; rw [fieldsT_app]
 | y :: l, x => by
  simp only [List.cons_append, structsT]
  rw [fieldsT_app 1 y.fields.l (125 :: 10 :: structsT (l ++ [x]) []), fieldsT_app 1 y.fields.l (125 :: 10 :: structsT l []), structsT_snoc l x]
  simp
def pcT (x : Pc) : List UInt8 := tVoid ++ 32 :: (txt x.name ++ 40 :: (commaT declT x.params.l ++ 41 :: 32 :: 123 :: 10 :: (fieldsT 1 x.locals_.l [] ++ (linesT x.body 1 ++ [125, 10]))))
theorem procsT_cons (x : Pc) (l : List Pc) : procsT (x :: l) = pcT x ++ procsT l := by
 simp only [procsT, pcT]
 rw [fieldsT_app 1 x.locals_.l (linesT x.body 1 ++ 125 :: 10 :: procsT l)]
 simp
theorem procsT_snoc : ∀ (l : List Pc) (x : Pc), procsT (l ++ [x]) = procsT l ++ pcT x
 | [], x => by
  rw [List.nil_append, procsT_cons]; simp [procsT]
 | y :: l, x => by
  rw [List.cons_append, procsT_cons, procsT_cons, procsT_snoc l x]; simp
theorem progT_eq (p : Pg) : progT p = structsT p.structs.l [] ++ (fieldsT 0 p.globals.l [] ++ procsT p.procs.l) := by
 unfold progT
 rw [structsT_app, fieldsT_app]
theorem take_snoc {α : Type} (l : List α) (n : Nat) (h : n < l.length) : l.take (n + 1) = l.take n ++ [l[n]] := (List.take_append_getElem h).symm
/- How long parts are. -/
theorem structs_part (l : List Sr) (n : Nat) : (structsT (l.take n) []).length ≤ (structsT l []).length := by
 have h : structsT l [] = structsT (l.take n) [] ++ structsT (l.drop n) [] := by
  rw [← structsT_app]
  induction n generalizing l with
  | zero => rfl
  | succ n ih =>
   cases l with
   | nil => rfl
   | cons x l => simp only [List.take_succ_cons, List.drop_succ_cons, structsT]; rw [ih l]
 rw [h, List.length_append]; omega
theorem fields_part (d : Nat) (l : List Dc) (n : Nat) : (fieldsT d (l.take n) []).length ≤ (fieldsT d l []).length := by
 have h : fieldsT d l [] = fieldsT d (l.take n) [] ++ fieldsT d (l.drop n) [] := by
  rw [← fieldsT_app]
  induction n generalizing l with
  | zero => rfl
  | succ n ih =>
   cases l with
   | nil => rfl
   | cons x l => simp only [List.take_succ_cons, List.drop_succ_cons, fieldsT]; rw [ih l]
 rw [h, List.length_append]; omega
theorem procs_part (l : List Pc) (n : Nat) : (procsT (l.take n)).length ≤ (procsT l).length := by
 have h : procsT l = procsT (l.take n) ++ procsT (l.drop n) := by
  induction n generalizing l with
  | zero => rfl
  | succ n ih =>
   cases l with
   | nil => rfl
   | cons x l => simp only [List.take_succ_cons, List.drop_succ_cons]; rw [procsT_cons, procsT_cons, ih l]; simp
 rw [h, List.length_append]; omega
/-- The texts of the kinds of statements. -/
theorem st0 {h : Hd} (k : h.kind = 0) (t e : List UInt8) (d : Nat) : stT h t e d [] = [59, 10] := by unfold stT; rw [if_pos k]
theorem st1 {h : Hd} (k : h.kind = 1) (t e : List UInt8) (d : Nat) : stT h t e d [] = pathT h.place ++ [32, 61, 32] ++ valT h.value ++ [59, 10] := by unfold stT; rw [if_neg (by omega), if_pos k]; simp
theorem st2 {h : Hd} (k : h.kind = 2) (t e : List UInt8) (d : Nat) : stT h t e d [] = [102, 114, 101, 101, 40] ++ pathT h.place ++ [41, 59, 10] := by unfold stT; rw [if_neg (by omega), if_neg (by omega), if_pos k]; simp [tFree]
theorem st3 {h : Hd} (k : h.kind = 3) (t e : List UInt8) (d : Nat) : stT h t e d [] = txt h.name ++ [40] ++ commaT valT h.args.l ++ [41, 59, 10] := by unfold stT; rw [if_neg (by omega), if_neg (by omega), if_neg (by omega), if_pos k]; simp
theorem st4b {h : Hd} (k : h.kind = 4) (b : h.both = true) (t e : List UInt8) (d : Nat) : stT h t e d [] = [105, 102, 32, 40] ++ condT h.cond ++ [41, 32, 123, 10] ++ t ++ pad d ++ [125, 32, 101, 108, 115, 101, 32, 123, 10] ++ e ++ pad d ++ [125, 10] := by
 unfold stT; rw [if_neg (by omega), if_neg (by omega), if_neg (by omega), if_neg (by omega), if_pos k, if_pos b]; simp [tIf, tElse]
theorem st4 {h : Hd} (k : h.kind = 4) (b : h.both = false) (t e : List UInt8) (d : Nat) : stT h t e d [] = [105, 102, 32, 40] ++ condT h.cond ++ [41, 32, 123, 10] ++ t ++ pad d ++ [125, 10] := by
 unfold stT; rw [if_neg (by omega), if_neg (by omega), if_neg (by omega), if_neg (by omega), if_pos k, if_neg (by rw [b]; decide)]; simp [tIf]
theorem st5 {h : Hd} (k : h.kind = 5) (t e : List UInt8) (d : Nat) : stT h t e d [] = [119, 104, 105, 108, 101, 32, 40] ++ condT h.cond ++ [41, 32, 123, 10] ++ t ++ pad d ++ [125, 10] := by
 unfold stT; rw [if_neg (by omega), if_neg (by omega), if_neg (by omega), if_neg (by omega), if_neg (by omega), if_pos k]; simp [tWhile]
theorem st6 {h : Hd} (k : 6 ≤ h.kind) (t e : List UInt8) (d : Nat) : stT h t e d [] = [123, 10] ++ t ++ pad d ++ [125, 10] := by
 unfold stT; rw [if_neg (by omega), if_neg (by omega), if_neg (by omega), if_neg (by omega), if_neg (by omega), if_neg (by omega)]; simp
end Pn
end Go.Proofs.YtdlchhimkelinaaGreatDoor
namespace Go.Proofs.YtdlchhimkelinaaGreatDoor
namespace Pn
end Pn
end Go.Proofs.YtdlchhimkelinaaGreatDoor
namespace Go.Proofs.YtdlchhimkelinaaGreatDoor
open Go.RowKit Go.Sort
namespace Pn
end Pn
end Go.Proofs.YtdlchhimkelinaaGreatDoor
namespace Go.Proofs.YtdlchhimkelinaaGreatDoor
open Go.RowKit Go.Sort
end Go.Proofs.YtdlchhimkelinaaGreatDoor
namespace Go.Proofs.YtdlchhimkelinaaGreatDoor
open Go.RowKit Go.Sort
theorem Pb.cell2 {B b : Nat} {l : List UInt8} {op : Int} {w : World} (h : Pb B b l op w) : w.cell? ⟨b, 2, none⟩ = some (.int .i64 op) ∧ w.frozen? ⟨b, 2, none⟩ = false ∧ B ≤ b := by
 rcases h with h | h
 ·exact ⟨h.cell.2.1, h.cell.2.2.2 2, h.1⟩
 ·exact ⟨h.cell.2.1, h.cell.2.2.2 2, h.1⟩
/-- The braces that are open turn. -/
theorem Pb.open_ {B b : Nat} {l : List UInt8} {op : Int} {w : World} (h : Pb B b l op w) (n : Int) : Pb B b l n (w.setCell ⟨b, 2, none⟩ (.int .i64 n)) := by
 have go : ∀ a, PbA B b l op a w → PbA B b l n a (w.setCell ⟨b, 2, none⟩ (.int .i64 n)) := by
  rintro a ⟨hB, v, hb, ho, hn⟩
  exact ⟨hB, v, by simp [World.setCell, Array.getElem?_modify, hb], own_set ho hn _ _, hn⟩
 exact h.elim (fun x => .inl (go _ x)) (fun x => .inr (go _ x))
theorem line_any (B b : Nat) (l : List UInt8) (d : Nat) (s : ByteArray) (w : World) (h : Pb B b l (d : Int) w) (hd : d ≤ 100) (hl : l.length ≤ 100000000000) (hs : s.size ≤ 1000000000) (hBw : B ≤ w.heap.size) :
  Calls Tryz.prog 72 #[.pointer (some ⟨b, 0, none⟩), .string s] w fun e w' => e = .returned (.tuple #[]) ∧ Pb B b (l ++ Pn.pad d ++ s.data.toList ++ [10]) (d : Int) w' ∧ Below B w w' := by
 have HP := hdn h
 have c2 := h.cell2.1
 have hd0 : (0 : Int) ≤ (d : Int) := Int.natCast_nonneg _
 clear h
 go_enter Tryz.func72, Tryz.ntmps72
 go_wp2_with fail
 clear c2
 go_loopw [8] (fun i wr => ∃ n : Nat, n ≤ d ∧ i = .int .i64 n ∧ Hid (Pb B b (l ++ Pn.pad n) (d : Int) wr) ∧ Hid (Below B w wr)) (fun i _ => d - (intOf i).toNat)
 case atStart => exact ⟨0, Nat.zero_le _, rfl, by rw [show Pn.pad 0 = [] from rfl, List.append_nil]; exact HP, hdn (Below.refl _ _)⟩
 case round =>
  obtain ⟨n, hn, rfl, HPN, HB⟩ := hrel
  have hp := pad_len n
  have hw := HB.out.size
  by_cases hnd : n < d
  ·have hn1 : (n : Int) < (d : Int) := by omega
   have CW := writeStr_any B b (l ++ Pn.pad n) d ⟨#[32, 32]⟩ wr HPN.out (by rw [List.length_append, hp, show (⟨#[32, 32]⟩ : ByteArray).size = 2 from rfl]; omega) (by omega)
   go_wp2_with (go_at_call 110; refine CW.mono ?_; rintro e w1 ⟨rfl, h1, hb⟩; have HP1 := hdn h1; have HB1 := hdn (HB.out.trans hb); clear h1 hb)
   go_roundw
   case rel => exact ⟨n + 1, by omega, by go_num, hdn (by have := HP1.out; rw [List.append_assoc] at this; exact this), HB1⟩
   case measure => simp [intOf]; omega
  ·obtain rfl : n = d := by omega
   have CW := writeStr_any B b (l ++ Pn.pad n) n s wr HPN.out (by rw [List.length_append, hp]; omega) (by omega)
   have CB : Hid (∀ w', Pb B b (l ++ Pn.pad n ++ s.data.toList) (n : Int) w' → B ≤ w'.heap.size → Calls Tryz.prog 111 #[.pointer (some ⟨b, 0, none⟩), .int .u8 10] w' fun e w'' => e = .returned .nilIface ∧ Pb B b (l ++ Pn.pad n ++ s.data.toList ++ [10]) (n : Int) w'' ∧ Below B w' w'') := hdn (fun w' h' hb => writeByte_any B b _ n 10 w' h' (by rw [List.length_append, List.length_append, hp, show s.data.toList.length = s.size from rfl]; omega) hb)
   go_wp2_with (first | (go_at_call 110; refine CW.mono ?_; rintro e w1 ⟨rfl, h1, hb⟩; have HP1 := hdn h1; have HB1 := hdn (HB.out.trans hb); have hw1 := HB1.out.size; clear h1 hb) | (go_at_call 111; refine (CB.out _ HP1.out (by omega)).mono ?_; rintro e w2 ⟨rfl, h2, hb⟩; have HP2 := hdn h2; have HB2 := hdn (HB1.out.trans hb); clear h2 hb))
   go_end0
   exact ⟨rfl, HP2.out, HB2.out⟩
theorem begin_any (B b : Nat) (l : List UInt8) (d : Nat) (s : ByteArray) (w : World) (h : Pb B b l (d : Int) w) (hd : d ≤ 99) (hl : l.length ≤ 100000000000) (hs : s.size ≤ 100000000) (hBw : B ≤ w.heap.size) :
  Calls Tryz.prog 83 #[.pointer (some ⟨b, 0, none⟩), .string s] w fun e w' => e = .returned (.tuple #[]) ∧ Pb B b (l ++ Pn.pad d ++ (s.data.toList ++ [123]) ++ [10]) ((d : Int) + 1) w' ∧ Below B w w' := by
 have HS : Hid ((s ++ ⟨#[123]⟩ : ByteArray).data.toList = s.data.toList ++ [123]) := hdn (by simp)
 have CL := line_any B b l d (s ++ ⟨#[123]⟩) w h (by omega) hl (by rw [ByteArray.size_append, show (⟨#[123]⟩ : ByteArray).size = 1 from rfl]; omega) hBw
 rw [HS.out] at CL
 clear h
 have hd0 : (0 : Int) ≤ (d : Int) := Int.natCast_nonneg _
 go_enter Tryz.func83, Tryz.ntmps83
 go_wp2_with (go_at_call 72; refine CL.mono ?_; rintro e w1 ⟨rfl, h1, hb⟩; have c2 := h1.cell2.1; have f2 := h1.cell2.2.1; have HP1 := hdn h1; have HB1 := hdn hb; clear h1 hb)
 go_end0
 exact ⟨rfl, HP1.out.open_ _, HB1.out.setCell (p := ⟨b, 2, none⟩) HP1.out.cell2.2.2 _⟩
theorem end_any (B b : Nat) (l : List UInt8) (d : Nat) (w : World) (h : Pb B b l ((d : Int) + 1) w) (hd : d ≤ 99) (hl : l.length ≤ 100000000000) (hBw : B ≤ w.heap.size) :
  Calls Tryz.prog 84 #[.pointer (some ⟨b, 0, none⟩)] w fun e w' => e = .returned (.tuple #[]) ∧ Pb B b (l ++ Pn.pad d ++ [125] ++ [10]) (d : Int) w' ∧ Below B w w' := by
 have c2 := h.cell2.1; have f2 := h.cell2.2.1
 have hd0 : (0 : Int) ≤ (d : Int) := Int.natCast_nonneg _
 have h2 := h.open_ (d : Int)
 have HB := hdn ((Below.refl B w).setCell (p := ⟨b, 2, none⟩) h.cell2.2.2 (.int .i64 (d : Int)))
 have CL := hdn (line_any B b l d ⟨#[125]⟩ (w.setCell ⟨b, 2, none⟩ (.int .i64 (d : Int))) h2 (by omega) hl (by decide) (Nat.le_trans hBw HB.out.size))
 clear h h2
 have e1 : (d : Int) + 1 - 1 = (d : Int) := by omega
 go_enter Tryz.func84, Tryz.ntmps84
 go_wp2_with (go_at_call 72; refine CL.out.mono ?_; rintro e w1 ⟨rfl, h1, hb⟩; have HP1 := hdn h1; have HB1 := hdn (HB.out.trans hb); clear h1 hb)
 go_end0
 exact ⟨rfl, HP1.out, HB1.out⟩
end Go.Proofs.YtdlchhimkelinaaGreatDoor
namespace Go.Proofs.YtdlchhimkelinaaGreatDoor
open Go.RowKit Go.Sort
theorem path_flat (n : ByteArray) (p : Option Addr) (c b o : Nat) (w : World) (h0 : w.cell? ⟨b, o, none⟩ = some (.string n)) (h2 : w.cell? ⟨b, o + 2, none⟩ = some (.slice p 0 c)) :
  Calls Tryz.prog 73 #[.pointer (some ⟨b, o, none⟩)] w fun e w' => e = .returned (.string n) ∧ w = w' := by
 go_enter Tryz.func73, Tryz.ntmps73
 go_wp2_with fail
 go_loop [3, 15] (fun t i => t = .string n ∧ i = .int .i64 0) (fun _ _ => 0)
 case atStart => exact ⟨rfl, rfl⟩
 case round =>
  obtain ⟨rfl, rfl⟩ := hrel
  go_wp2_with fail
  go_ret
  exact ⟨rfl, rfl⟩
theorem value_null (b o : Nat) (w : World) (h0 : w.cell? ⟨b, o, none⟩ = some (.int .i64 0)) :
  Calls Tryz.prog 74 #[.pointer (some ⟨b, o, none⟩)] w fun e w' => e = .returned (.string ⟨#[110, 117, 108, 108]⟩) ∧ w = w' := by
 go_enter Tryz.func74, Tryz.ntmps74
 go_wp2_with fail
 go_ret
 exact ⟨rfl, rfl⟩
/-- x = null; -/
def tSx : List UInt8 := [120, 32, 61, 32, 110, 117, 108, 108, 59]
theorem tSx_eq : nX ++ ⟨#[32, 61, 32]⟩ ++ ⟨#[110, 117, 108, 108]⟩ ++ ⟨#[59]⟩ = (⟨tSx.toArray⟩ : ByteArray) := by rfl
theorem enters35 : ∀ args w, (callFunc 35 args).run Tryz.prog w = .ok (.enter 35 args) w := enters Tryz.func35 (by kernel_rfl) rfl
theorem enters47 : ∀ args w, (callFunc 47 args).run Tryz.prog w = .ok (.enter 47 args) w := enters Tryz.func47 (by kernel_rfl) rfl
theorem stmt_sx (B b : Nat) (l : List UInt8) (d L o : Nat) (w : World) (h : Pb B b l (d : Int) w) (hd : d ≤ 99) (hl : l.length ≤ 100000000000) (hBw : B ≤ w.heap.size) (hr : w.rangeAt L o sx.cells) :
  Calls Tryz.prog 35 #[.pointer (some ⟨b, 0, none⟩), .pointer (some ⟨L, o, none⟩)] w fun e w' => e = .returned (.tuple #[]) ∧ Pb B b (l ++ Pn.pad d ++ tSx ++ [10]) (d : Int) w' ∧ Below B w w' := by
 have c0 : w.cell? ⟨L, o, none⟩ = some (.int .i64 1) := cell_at hr 0 _ rfl
 have CP := hdn (fun n => path_flat nX none 0 L (o + 2) (w.drewN n) (cell_at hr 2 _ rfl) (cell_at hr 4 _ rfl))
 have CV := hdn (fun n => value_null L (o + 5) (w.drewN n) (cell_at hr 5 _ rfl))
 have CL := hdn (fun n => line_any B b l d ⟨tSx.toArray⟩ (w.drewN n) h (by omega) hl (by decide) hBw)
 clear h hr
 go_enter Tryz.func35, Tryz.ntmps35
 go_wp2_with fail
 go_region_with (first | (go_at_call 73; refine (CP.out _).mono ?_; rintro e w1 ⟨rfl, rfl⟩) | (go_at_call 74; refine (CV.out _).mono ?_; rintro e w1 ⟨rfl, rfl⟩) | (rw [tSx_eq]; go_at_call 72; refine (CL.out _).mono ?_; rintro e w1 ⟨rfl, h1, hb⟩; have HP1 := hdn h1; have HB1 := hdn hb; clear h1 hb))
 all_goals (go_wp2_with fail; go_end0; exact ⟨rfl, HP1.out, (below_drewN_ (Below.refl B w) 1).trans HB1.out⟩)
theorem eachSt_sx (B b : Nat) (l : List UInt8) (d L o c : Nat) (w : World) (h : Pb B b l (d : Int) w) (hd : d ≤ 99) (hl : l.length ≤ 100000000000) (hBw : B ≤ w.heap.size) (hr : w.rangeAt L o sx.cells) :
  Calls Tryz.prog 34 #[.slice (some ⟨L, o, none⟩) 1 c, .func (.func 35) #[.pointer (some ⟨b, 0, none⟩)] #[]] w fun e w' => e = .returned (.tuple #[]) ∧ Pb B b (l ++ Pn.pad d ++ tSx ++ [10]) (d : Int) w' ∧ Below B w w' := by
 have HC := hdn (stmt_sx B b l d L o w h hd hl hBw hr)
 clear h hr
 have hcl := enters35
 go_enter Tryz.func34, Tryz.ntmps34
 go_wp2_with fail
 go_loopw [7] (fun i wr => (i = .int .i64 0 ∧ wr = w) ∨ (i = .int .i64 1 ∧ Hid (Pb B b (l ++ Pn.pad d ++ tSx ++ [10]) (d : Int) wr) ∧ Hid (Below B w wr))) (fun i _ => 1 - (intOf i).toNat)
 case atStart => exact .inl ⟨rfl, rfl⟩
 case round =>
  rcases hrel with ⟨rfl, rfl⟩ | ⟨rfl, HP1, HB1⟩
  ·go_wp2_with fail
   refine HC.out.mono ?_; rintro e w1 ⟨rfl, h1, hb⟩
   have HP1 := hdn h1; have HB1 := hdn hb
   clear h1 hb
   go_wp2_with fail
   go_roundw
   case rel => exact .inr ⟨rfl, HP1, HB1⟩
   case measure => simp [intOf]
  ·go_wp2_with fail
   go_end0
   exact ⟨rfl, HP1.out, HB1.out⟩
theorem join_nil (p : Option Addr) (c : Nat) (s : ByteArray) (w : World) : Calls Tryz.prog 113 #[.slice p 0 c, .string s] w fun e w' => e = .returned (.string ByteArray.empty) ∧ w = w' := by
 go_enter Tryz.func113, Tryz.ntmps113
 go_wp2_with fail
 go_ret
 exact ⟨rfl, rfl⟩
theorem mk0 (w : World) : (Instr.makeSlice 162 (.int .i64 0) (.int .i64 0)).run Tryz.prog w = .ok (.slice (some ⟨w.heap.size, 0, none⟩) 0 0) (w.alloc (.cells #[] 9)) := by kernel_rfl
theorem commas_nil (p : Option Addr) (c : Nat) (f : Value) (w : World) : Calls Tryz.prog 86 #[.slice p 0 c, f] w fun e w' => e = .returned (.string ByteArray.empty) ∧ Below w.heap.size w w' := by
 have hmk := mk0
 have HB : Hid (Below w.heap.size w (w.alloc (.cells #[] 9))) := hdn ((Below.refl _ _).alloc (Nat.le_refl _) _)
 go_enter Tryz.func86, Tryz.ntmps86
 go_wp2_with fail
 go_loop [12] (fun i => i = .int .i64 0) (fun _ => 0)
 case atStart => rfl
 case round =>
  obtain rfl := hrel
  go_wp2_with (go_at_call 113; refine (join_nil _ _ _ _).mono ?_; rintro e w1 ⟨rfl, rfl⟩)
  go_ret
  exact ⟨rfl, HB.out⟩
end Go.Proofs.YtdlchhimkelinaaGreatDoor
namespace Go.Proofs.YtdlchhimkelinaaGreatDoor
open Go.RowKit Go.Sort
theorem infoStr : (Tryz.prog.info? 9).map (fun i => (i.zero, i.size, i.bytes)) = some (some (.string ⟨#[]⟩), 1, 16) := by kernel_rfl
/-- A row of texts: those of the first n items, and empty ones. -/
def rowT {α : Type} (f : α → List UInt8) (l : List α) (n : Nat) : List Value := (l.take n).map (fun x => .string (bt (f x))) ++ List.replicate (l.length - n) (.string ⟨#[]⟩)
theorem made_strs {α : Type} {f : α → List UInt8} {l : List α} : madeCells #[.string ⟨#[]⟩] l.length = (rowT f l 0).toArray := by
 apply Array.ext'
 rw [toList_madeCells_one]; rfl
theorem rowT_full {α : Type} (f : α → List UInt8) (l : List α) : rowT f l l.length = l.map fun x => .string (bt (f x)) := by
 unfold rowT; rw [List.take_length, Nat.sub_self]; simp
theorem rowT_at {α : Type} (f : α → List UInt8) (l : List α) (n : Nat) (h : n < l.length) : (rowT f l n)[n]? = some (.string ⟨#[]⟩) := by
 have hl : ((l.take n).map (fun x => Value.string (bt (f x)))).length = n := by rw [List.length_map, List.length_take]; omega
 unfold rowT
 rw [List.getElem?_append_right (by omega), hl, Nat.sub_self, List.getElem?_replicate, if_pos (by omega)]
theorem rowT_set {α : Type} (f : α → List UInt8) (l : List α) (n : Nat) (h : n < l.length) : (rowT f l n).set n (.string (bt (f l[n]))) = rowT f l (n + 1) := by
 have hl : ((l.take n).map (fun x => Value.string (bt (f x)))).length = n := by rw [List.length_map, List.length_take]; omega
 unfold rowT
 rw [List.set_append_right _ _ (by omega), hl, Nat.sub_self, ← List.take_append_getElem h, List.map_append]
 rw [show l.length - n = (l.length - (n + 1)) + 1 by omega, List.replicate_succ]
 simp
theorem join_comma {α : Type} (f : α → List UInt8) (l : List α) : Lib.join ((l.map fun x => bt (f x)).map (·.data.toList)) (⟨#[44, 32]⟩ : ByteArray).data.toList = Pn.commaT f l := by
 rw [List.map_map]
 have e : ((fun x : ByteArray => x.data.toList) ∘ fun x => bt (f x)) = f := by funext x; rfl
 rw [e, show (⟨#[44, 32]⟩ : ByteArray).data.toList = [44, 32] from rfl]
 have tl : ∀ (l : List α) (a : α), f a ++ Lib.joinTail [44, 32] (l.map f) = Pn.commaT f (a :: l) := by
  intro l
  induction l with
  | nil => intro a; simp [Lib.joinTail, Pn.commaT]
  | cons b l ih =>
   intro a
   show f a ++ (([44, 32] ++ f b) ++ Lib.joinTail [44, 32] (l.map f)) = f a ++ 44 :: 32 :: Pn.commaT f (b :: l)
   rw [← ih b, List.append_assoc]; rfl
 cases l with
 | nil => rfl
 | cons a l => rw [List.map_cons, Lib.join_cons]; exact tl l a
theorem enters74 : ∀ args w, (callFunc 74 args).run Tryz.prog w = .ok (.enter 74 args) w := enters Tryz.func74 (by kernel_rfl) rfl
theorem variableX_any (x : Dc) (b o : Nat) (w : World) (ho : Pn.okDecl x = true) (hr : w.rangeAt b o x.cells) :
  Calls Tryz.prog 85 #[.pointer (some ⟨b, o, none⟩)] w fun e w' => e = .returned (.string (bt (Pn.declT x))) ∧ Below w.heap.size w w' := by
 have c0 : w.cell? ⟨b, o, none⟩ = some (.string x.type) := cell_at hr 0 _ rfl
 have c1 : w.cell? ⟨b, o + 1, none⟩ = some (.string x.name) := cell_at hr 1 _ rfl
 unfold Pn.okDecl at ho
 simp only [Bool.and_eq_true, Bool.or_eq_true, decide_eq_true_eq] at ho
 obtain ⟨hn, ht⟩ := ho
 have s1 := (Pn.okN_nameB hn).1
 unfold Pn.declT
 by_cases h0 : Pn.txt x.type = []
 ·rw [if_pos h0]
  have he := e_txt h0
  clear h0 ht hn hr
  go_enter Tryz.func85, Tryz.ntmps85
  go_wp2_with fail
  go_ret
  exact ⟨ret_text (ba_ext (by simp [bt, Pn.txt, Pn.tInt])), Below.refl _ _⟩
 ·rw [if_neg h0]
  have ht := ht.resolve_left h0
  have s2 := (Pn.okN_nameB ht).1
  have he := okN_ne ht
  clear h0 ht hn hr
  go_enter Tryz.func85, Tryz.ntmps85
  go_wp2_with fail
  go_region
  all_goals (go_wp2_with fail; go_ret; exact ⟨ret_text (ba_ext (by simp [bt, Pn.txt])), by first | exact Below.refl _ _ | exact below_drewN_ (Below.refl _ _) _⟩)
theorem enters85 : ∀ args w, (callFunc 85 args).run Tryz.prog w = .ok (.enter 85 args) w := enters Tryz.func85 (by kernel_rfl) rfl
theorem commasV_any (l : List Vl) (p : Option Addr) (c : Nat) (w : World) (hG : Gp w) (h1 : Lay 12 Vl.cells vlLies w p l) (ho : ∀ x ∈ l, Pn.okVal x = true) (hn : l.length ≤ 8010) :
  Calls Tryz.prog 75 #[.slice p l.length c, .func (.func 74) #[] #[]] w fun e w' => e = .returned (.string (bt (Pn.commaT Pn.valT l))) ∧ Below w.heap.size w w' := by
 obtain ⟨_, h1⟩ := h1
 have H1 := hdn h1; have HO := hdn ho
 obtain ⟨wM, hwM⟩ : ∃ wM : World, wM = w.alloc (.cells (madeCells #[.string ⟨#[]⟩] l.length) 9) := ⟨_, rfl⟩
 have HBM : Hid (Below w.heap.size w wM) := hdn (by rw [hwM]; exact (Below.refl _ _).alloc (Nat.le_refl _) _)
 have HKM : Hid (Bk wM w.heap.size 9 (rowT Pn.valT l 0).toArray) := hdn (by rw [hwM, made_strs]; exact heap_alloc_new _ _)
 have hmk : (Instr.makeSlice 162 (.int .i64 l.length) (.int .i64 l.length)).run Tryz.prog w = .ok (.slice (some ⟨w.heap.size, 0, none⟩) l.length l.length) wM := by rw [hwM]; exact run_make_row' 162 9 (.string ⟨#[]⟩) 16 Tryz.underlying162 infoStr rfl .i64 .i64 l.length (by omega) (by omega) w
 have HG := hdn hG
 have HJ : Hid (∀ w' : World, Bk w' w.heap.size 9 (rowT Pn.valT l l.length).toArray → Calls Tryz.prog 113 #[.slice (some ⟨w.heap.size, 0, none⟩) l.length l.length, .string ⟨#[44, 32]⟩] w' fun e w'' => e = .returned (.string (bt (Pn.commaT Pn.valT l))) ∧ Below w'.heap.size w' w'') := hdn (fun w' hk => by
  have hlen : (l.map fun x => bt (Pn.valT x)).length = l.length := List.length_map _
  have hJ := Tryz.strings_Join w.heap.size 0 l.length (l.map fun x => bt (Pn.valT x)) ⟨#[44, 32]⟩ w' (fun j x hx => by
   rw [Nat.zero_add, hk.cell j]
   have := rowT_full Pn.valT l
   rw [this, List.getElem?_toArray, List.getElem?_map]
   rw [List.getElem?_map] at hx
   obtain ⟨y, hy, rfl⟩ := Option.map_eq_some_iff.1 hx
   rw [hy]; rfl) hk.lt (by rw [hlen]; omega) (by rw [hlen]; exact Nat.le_refl _) (by
    rw [join_comma]
    have := Pn.comma_len (f := Pn.valT) (B := 200) l (fun a ha => Pn.val_len (HO.out a ha))
    omega)
  rw [hlen, join_comma] at hJ
  exact hJ)
 clear h1 ho hwM hG
 have hcl := enters74
 go_enter Tryz.func75, Tryz.ntmps75
 go_wp2_with fail
 obtain ⟨R, hR⟩ : ∃ R, R = w.heap.size := ⟨_, rfl⟩
 rw [← hR] at HKM HJ ⊢
 have HR := hdn hR
 clear hR
 go_loopw [12] (fun i wr => ∃ n : Nat, n ≤ l.length ∧ i = .int .i64 n ∧ Hid (Below w.heap.size w wr) ∧ Hid (Bk wr R 9 (rowT Pn.valT l n).toArray)) (fun i _ => l.length - (intOf i).toNat)
 case atStart => exact ⟨0, Nat.zero_le _, rfl, HBM, HKM⟩
 case round =>
  obtain ⟨n, hnn, rfl, HB, HK⟩ := hrel
  by_cases hnl : n < l.length
  ·obtain ⟨b1, o1, rfl, hx⟩ : ∃ b o, p = some ⟨b, o, none⟩ ∧ ∀ k x, l[k]? = some x → w.rangeAt b (o + k * 12) (Vl.cells x) ∧ vlLies w x := by
    rcases H1.out with h | h
    ·rw [h] at hnl; simp at hnl
    ·exact h
   have hxn := hx n l[n] (List.getElem?_eq_getElem hnl)
   have hok := HO.out l[n] (List.getElem_mem hnl)
   have HN : Hid (∀ w' : World, Bk w' R 9 (rowT Pn.valT l n).toArray → Bk (w'.setCell ⟨R, n, none⟩ (.string (bt (Pn.valT l[n])))) R 9 (rowT Pn.valT l (n + 1)).toArray) := hdn (fun w' h => by
    have := h.setArr n (.string (bt (Pn.valT l[n])))
    rwa [rowT_set Pn.valT l n hnl] at this)
   have HC0 : Hid (∀ w' : World, Bk w' R 9 (rowT Pn.valT l n).toArray → w'.cell? ⟨R, n, none⟩ = some (.string ⟨#[]⟩)) := hdn (fun w' h => by rw [h.cell n, List.getElem?_toArray, rowT_at Pn.valT l n hnl])
   generalize l[n] = x at hxn hok HN
   have HC := hdn (valX_any x b1 (o1 + n * 12) wr (HG.out.go HB.out) (rangeAt_below hxn.1 HB.out) (vlLies_below hxn.2 HB.out) hok)
   have hn0 : (0 : Int) ≤ (n : Int) := Int.natCast_nonneg _
   have hn1 : (n : Int) < (l.length : Int) := by omega
   clear hx hxn hok
   generalize bt (Pn.valT x) = tx at *
   go_wp2_with fail
   refine HC.out.mono ?_; rintro e w1 ⟨rfl, hb⟩
   have HK1 := hdn (HK.out.below hb HK.out.lt)
   have d1 := HC0.out w1 HK1.out
   have f1 := HK1.out.frozen n
   have HK2 := hdn (HN.out w1 HK1.out)
   have HB2 : Hid (Below w.heap.size w (w1.setCell ⟨R, n, none⟩ (.string tx))) := hdn (below_by (HB.out.trans (hb.mono HB.out.size)) (grownBy_setC w1 ⟨R, n, none⟩ (.string tx)) (by rw [HR.out]; exact Nat.le_refl _))
   clear hb
   go_wp2_with fail
   go_roundw
   case rel => exact ⟨n + 1, by omega, by go_num, HB2, HK2⟩
   case measure => simp [intOf]; omega
  ·obtain rfl : n = l.length := by omega
   have CJ := hdn (HJ.out _ HK.out)
   have hc1 : ¬ ((l.length : Int) < (l.length : Int)) := by omega
   obtain ⟨tx, htx⟩ : ∃ tx, tx = bt (Pn.commaT Pn.valT l) := ⟨_, rfl⟩
   rw [← htx] at CJ
   have HTX := hdn htx
   clear htx
   go_wp2_with (go_at_call 113; refine CJ.out.mono ?_; rintro e w1 ⟨rfl, hb⟩; have HB1 := hdn (HB.out.trans (hb.mono HB.out.size)); clear hb)
   go_ret
   exact ⟨ret_text HTX.out, HB1.out⟩
theorem commasD_any (l : List Dc) (p : Option Addr) (c : Nat) (w : World) (h1 : Lay 3 Dc.cells triv w p l) (ho : ∀ x ∈ l, Pn.okDecl x = true) (hn : l.length ≤ 8010) :
  Calls Tryz.prog 86 #[.slice p l.length c, .func (.func 85) #[] #[]] w fun e w' => e = .returned (.string (bt (Pn.commaT Pn.declT l))) ∧ Below w.heap.size w w' := by
 obtain ⟨_, h1⟩ := h1
 have H1 := hdn h1; have HO := hdn ho
 obtain ⟨wM, hwM⟩ : ∃ wM : World, wM = w.alloc (.cells (madeCells #[.string ⟨#[]⟩] l.length) 9) := ⟨_, rfl⟩
 have HBM : Hid (Below w.heap.size w wM) := hdn (by rw [hwM]; exact (Below.refl _ _).alloc (Nat.le_refl _) _)
 have HKM : Hid (Bk wM w.heap.size 9 (rowT Pn.declT l 0).toArray) := hdn (by rw [hwM, made_strs]; exact heap_alloc_new _ _)
 have hmk : (Instr.makeSlice 162 (.int .i64 l.length) (.int .i64 l.length)).run Tryz.prog w = .ok (.slice (some ⟨w.heap.size, 0, none⟩) l.length l.length) wM := by rw [hwM]; exact run_make_row' 162 9 (.string ⟨#[]⟩) 16 Tryz.underlying162 infoStr rfl .i64 .i64 l.length (by omega) (by omega) w
 have HJ : Hid (∀ w' : World, Bk w' w.heap.size 9 (rowT Pn.declT l l.length).toArray → Calls Tryz.prog 113 #[.slice (some ⟨w.heap.size, 0, none⟩) l.length l.length, .string ⟨#[44, 32]⟩] w' fun e w'' => e = .returned (.string (bt (Pn.commaT Pn.declT l))) ∧ Below w'.heap.size w' w'') := hdn (fun w' hk => by
  have hlen : (l.map fun x => bt (Pn.declT x)).length = l.length := List.length_map _
  have hJ := Tryz.strings_Join w.heap.size 0 l.length (l.map fun x => bt (Pn.declT x)) ⟨#[44, 32]⟩ w' (fun j x hx => by
   rw [Nat.zero_add, hk.cell j]
   have := rowT_full Pn.declT l
   rw [this, List.getElem?_toArray, List.getElem?_map]
   rw [List.getElem?_map] at hx
   obtain ⟨y, hy, rfl⟩ := Option.map_eq_some_iff.1 hx
   rw [hy]; rfl) hk.lt (by rw [hlen]; omega) (by rw [hlen]; exact Nat.le_refl _) (by
    rw [join_comma]
    have := Pn.comma_len (f := Pn.declT) (B := 200) l (fun a ha => Nat.le_trans (decl_len (HO.out a ha)) (by decide))
    omega)
  rw [hlen, join_comma] at hJ
  exact hJ)
 clear h1 ho hwM
 have hcl := enters85
 go_enter Tryz.func86, Tryz.ntmps86
 go_wp2_with fail
 obtain ⟨R, hR⟩ : ∃ R, R = w.heap.size := ⟨_, rfl⟩
 rw [← hR] at HKM HJ ⊢
 have HR := hdn hR
 clear hR
 go_loopw [12] (fun i wr => ∃ n : Nat, n ≤ l.length ∧ i = .int .i64 n ∧ Hid (Below w.heap.size w wr) ∧ Hid (Bk wr R 9 (rowT Pn.declT l n).toArray)) (fun i _ => l.length - (intOf i).toNat)
 case atStart => exact ⟨0, Nat.zero_le _, rfl, HBM, HKM⟩
 case round =>
  obtain ⟨n, hnn, rfl, HB, HK⟩ := hrel
  by_cases hnl : n < l.length
  ·obtain ⟨b1, o1, rfl, hx⟩ : ∃ b o, p = some ⟨b, o, none⟩ ∧ ∀ k x, l[k]? = some x → w.rangeAt b (o + k * 3) (Dc.cells x) ∧ triv w x := by
    rcases H1.out with h | h
    ·rw [h] at hnl; simp at hnl
    ·exact h
   have hxn := hx n l[n] (List.getElem?_eq_getElem hnl)
   have hok := HO.out l[n] (List.getElem_mem hnl)
   have HN : Hid (∀ w' : World, Bk w' R 9 (rowT Pn.declT l n).toArray → Bk (w'.setCell ⟨R, n, none⟩ (.string (bt (Pn.declT l[n])))) R 9 (rowT Pn.declT l (n + 1)).toArray) := hdn (fun w' h => by
    have := h.setArr n (.string (bt (Pn.declT l[n])))
    rwa [rowT_set Pn.declT l n hnl] at this)
   have HC0 : Hid (∀ w' : World, Bk w' R 9 (rowT Pn.declT l n).toArray → w'.cell? ⟨R, n, none⟩ = some (.string ⟨#[]⟩)) := hdn (fun w' h => by rw [h.cell n, List.getElem?_toArray, rowT_at Pn.declT l n hnl])
   generalize l[n] = x at hxn hok HN
   have HC := hdn (variableX_any x b1 (o1 + n * 3) wr hok (rangeAt_below hxn.1 HB.out))
   have hn0 : (0 : Int) ≤ (n : Int) := Int.natCast_nonneg _
   have hn1 : (n : Int) < (l.length : Int) := by omega
   clear hx hxn hok
   generalize bt (Pn.declT x) = tx at *
   go_wp2_with fail
   refine HC.out.mono ?_; rintro e w1 ⟨rfl, hb⟩
   have HK1 := hdn (HK.out.below hb HK.out.lt)
   have d1 := HC0.out w1 HK1.out
   have f1 := HK1.out.frozen n
   have HK2 := hdn (HN.out w1 HK1.out)
   have HB2 : Hid (Below w.heap.size w (w1.setCell ⟨R, n, none⟩ (.string tx))) := hdn (below_by (HB.out.trans (hb.mono HB.out.size)) (grownBy_setC w1 ⟨R, n, none⟩ (.string tx)) (by rw [HR.out]; exact Nat.le_refl _))
   clear hb
   go_wp2_with fail
   go_roundw
   case rel => exact ⟨n + 1, by omega, by go_num, HB2, HK2⟩
   case measure => simp [intOf]; omega
  ·obtain rfl : n = l.length := by omega
   have CJ := hdn (HJ.out _ HK.out)
   have hc1 : ¬ ((l.length : Int) < (l.length : Int)) := by omega
   obtain ⟨tx, htx⟩ : ∃ tx, tx = bt (Pn.commaT Pn.declT l) := ⟨_, rfl⟩
   rw [← htx] at CJ
   have HTX := hdn htx
   clear htx
   go_wp2_with (go_at_call 113; refine CJ.out.mono ?_; rintro e w1 ⟨rfl, hb⟩; have HB1 := hdn (HB.out.trans (hb.mono HB.out.size)); clear hb)
   go_ret
   exact ⟨ret_text HTX.out, HB1.out⟩
end Go.Proofs.YtdlchhimkelinaaGreatDoor
