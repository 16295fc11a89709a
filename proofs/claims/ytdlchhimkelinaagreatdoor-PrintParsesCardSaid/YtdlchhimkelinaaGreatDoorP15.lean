/-
  Plain: how long the printed text of what was read can be. Plain: printed texts, part by part. Plain: how deep and how many statements are, as the document counts them, of what may be. Plain: what is read may be: paths, values, conditions, declarations. Plain: what is read may be: statements and prog
-/
import Derived.Test.YtdlchhimkelinaaGreatDoorP07
import Derived.Test.YtdlchhimkelinaaGreatDoorP14
import Derived.Test.YtdlchhimkelinaaGreatDoorP05
import Derived.Test.YtdlchhimkelinaaGreatDoorP12
set_option maxHeartbeats 6400000
set_option maxRecDepth 100000
namespace Go.Proofs.YtdlchhimkelinaaGreatDoor
namespace Pn
open Pr (th St Res th_ok)
/-- No call has too many arguments. -/
def tight (M : Nat) : SL → Prop
 | .nil => True
 | .cons h _ _ t _ _ e r => h.args.l.length ≤ M ∧ tight M t ∧ tight M e ∧ tight M r
/-- No list is too long. -/
def tightP (M : Nat) (p : Pg) : Prop :=
 (p.structs.l.length ≤ M ∧ ∀ x ∈ p.structs.l, x.fields.l.length ≤ M) ∧ p.globals.l.length ≤ M ∧ p.procs.l.length ≤ M ∧ ∀ x ∈ p.procs.l, x.params.l.length ≤ M ∧ x.locals_.l.length ≤ M ∧ tight M x.body
section
variable {t : List Pr.Tk}
theorem more_len {α : Type} {item : St → Res α} : ∀ (n : Nat) (acc : List α) (u : St) {l : List α} {v : St}, Pr.more t item n acc u = .ok (l, v) → l.length ≤ acc.length + n
 | 0, acc, u, l, v, h => by cases h
 | n + 1, acc, u, l, v, h => by
  unfold Pr.more at h
  split at h
  ·obtain ⟨x, w, h1, h2⟩ := th_ok h
   have := more_len n _ w h2
   simp at this; omega
  ·obtain ⟨a, u1, h1, h⟩ := th_ok h
   injection h with h; injection h with h _; subst h
   omega
theorem listed_len {α : Type} {item : St → Res α} {u v : St} {l : List α} (h : Pr.listed t item u = .ok (l, v)) : l.length ≤ t.length + 2 := by
 obtain ⟨a, u1, h1, h⟩ := th_ok h
 split at h
 ·injection h with h; injection h with h _; subst h; simp
 ·obtain ⟨b, u2, h2, h⟩ := th_ok h
  have := more_len _ _ _ h
  simp at this; omega
theorem fields_llen : ∀ (n : Nat) (acc : List Dc) (u : St) {l : List Dc} {v : St}, Pr.fields t n acc u = .ok (l, v) → l.length ≤ acc.length + n
 | 0, acc, u, l, v, h => by cases h
 | n + 1, acc, u, l, v, h => by
  unfold Pr.fields at h
  split at h
  ·injection h with h; injection h with hl h; subst hl; omega
  ·obtain ⟨x, u1, h1, h⟩ := th_ok h
   obtain ⟨y, u2, h2, h⟩ := th_ok h
   have := fields_llen n _ u2 h
   simp at this; omega
theorem locals_llen : ∀ (n : Nat) (acc : List Dc) (u : St) {l : List Dc} {v : St}, Pr.locals t n acc u = .ok (l, v) → l.length ≤ acc.length + n
 | 0, acc, u, l, v, h => by cases h
 | n + 1, acc, u, l, v, h => by
  unfold Pr.locals at h
  split at h
  ·obtain ⟨x, u1, h1, h⟩ := th_ok h
   have := locals_llen n _ u1 h
   simp at this; omega
  ·injection h with h; injection h with hl h; subst hl; omega
theorem block_tight {M : Nat} {rec : St → Res SL} (hr : ∀ u l v, rec u = .ok (l, v) → tight M l) {u v : St} {l : SL} (h : Pr.block t rec u = .ok (l, v)) : tight M l := by
 obtain ⟨a, u1, h1, h⟩ := th_ok h
 obtain ⟨b, u2, h2, h⟩ := th_ok h
 obtain ⟨c, u3, h3, h⟩ := th_ok h
 obtain ⟨d, u4, h4, h⟩ := th_ok h
 injection h with h; injection h with hl h; subst h; subst hl
 exact hr _ _ _ h3
theorem free_tight {u v : St} {x : Hd} (h : Pr.free t u = .ok (x, v)) : x.args.l.length ≤ t.length + 2 := by
 obtain ⟨a, u1, h1, h⟩ := th_ok h
 obtain ⟨b, u2, h2, h⟩ := th_ok h
 obtain ⟨c, u3, h3, h⟩ := th_ok h
 obtain ⟨d, u4, h4, h⟩ := th_ok h
 obtain ⟨e, u5, h5, h⟩ := th_ok h
 injection h with h; injection h with h _; subst h
 exact Nat.zero_le _
theorem named_tight {u v : St} {x : Hd} (h : Pr.named t u = .ok (x, v)) : x.args.l.length ≤ t.length + 2 := by
 unfold Pr.named at h
 split at h
 ·obtain ⟨a, u1, h1, h⟩ := th_ok h
  obtain ⟨b, u2, h2, h⟩ := th_ok h
  obtain ⟨c, u3, h3, h⟩ := th_ok h
  injection h with h; injection h with h _; subst h
  exact listed_len h2
 ·obtain ⟨a, u1, h1, h⟩ := th_ok h
  obtain ⟨b, u2, h2, h⟩ := th_ok h
  obtain ⟨c, u3, h3, h⟩ := th_ok h
  obtain ⟨d, u4, h4, h⟩ := th_ok h
  injection h with h; injection h with h _; subst h
  exact Nat.zero_le _
theorem stmt_tight {rec : St → Res SL} (hr : ∀ u l v, rec u = .ok (l, v) → tight (t.length + 2) l) {u v : St} {h : Hd} {T E : SL} (hs : Pr.stmt t rec u = .ok ((h, T, E), v)) :
  h.args.l.length ≤ t.length + 2 ∧ tight (t.length + 2) T ∧ tight (t.length + 2) E := by
 obtain ⟨a, u1, h1, hs⟩ := th_ok hs
 split at hs
 ·injection hs with hs; injection hs with hx hv
  simp only [Prod.mk.injEq] at hx
  obtain ⟨rfl, rfl, rfl⟩ := hx
  exact ⟨Nat.zero_le _, trivial, trivial⟩
 ·split at hs
  ·obtain ⟨b, u2, h2, hs⟩ := th_ok hs
   injection hs with hs; injection hs with hx hv
   simp only [Prod.mk.injEq] at hx
   obtain ⟨rfl, rfl, rfl⟩ := hx
   exact ⟨Nat.zero_le _, block_tight hr h2, trivial⟩
  ·split at hs
   ·obtain ⟨b, u2, h2, hs⟩ := th_ok hs
    injection hs with hs; injection hs with hx hv
    simp only [Prod.mk.injEq] at hx
    obtain ⟨rfl, rfl, rfl⟩ := hx
    exact ⟨free_tight h2, trivial, trivial⟩
   ·split at hs
    ·obtain ⟨b, u2, h2, hs⟩ := th_ok hs
     obtain ⟨c, u3, h3, hs⟩ := th_ok hs
     obtain ⟨d, u4, h4, hs⟩ := th_ok hs
     split at hs
     ·obtain ⟨e, u5, h5, hs⟩ := th_ok hs
      injection hs with hs; injection hs with hx hv
      simp only [Prod.mk.injEq] at hx
      obtain ⟨rfl, rfl, rfl⟩ := hx
      exact ⟨Nat.zero_le _, block_tight hr h4, block_tight hr h5⟩
     ·injection hs with hs; injection hs with hx hv
      simp only [Prod.mk.injEq] at hx
      obtain ⟨rfl, rfl, rfl⟩ := hx
      exact ⟨Nat.zero_le _, block_tight hr h4, trivial⟩
    ·split at hs
     ·obtain ⟨b, u2, h2, hs⟩ := th_ok hs
      obtain ⟨c, u3, h3, hs⟩ := th_ok hs
      obtain ⟨d, u4, h4, hs⟩ := th_ok hs
      injection hs with hs; injection hs with hx hv
      simp only [Prod.mk.injEq] at hx
      obtain ⟨rfl, rfl, rfl⟩ := hx
      exact ⟨Nat.zero_le _, block_tight hr h4, trivial⟩
     ·obtain ⟨b, u2, h2, hs⟩ := th_ok hs
      injection hs with hs; injection hs with hx hv
      simp only [Prod.mk.injEq] at hx
      obtain ⟨rfl, rfl, rfl⟩ := hx
      exact ⟨named_tight h2, trivial, trivial⟩
theorem stmts_tight : ∀ (n : Nat) (u : St) (l : SL) (v : St), Pr.stmts t n u = .ok (l, v) → tight (t.length + 2) l
 | 0, u, l, v, h => by cases h
 | n + 1, u, l, v, h => by
  unfold Pr.stmts at h
  split at h
  ·obtain ⟨⟨hh, a, e⟩, u1, h1, h⟩ := th_ok h
   obtain ⟨r, u2, h2, h⟩ := th_ok h
   injection h with h; injection h with hl h; subst hl
   obtain ⟨g1, g2, g3⟩ := stmt_tight (fun u l v h => stmts_tight n u l v h) h1
   exact ⟨g1, g2, g3, stmts_tight n _ _ _ h2⟩
  ·injection h with h; injection h with hl h; subst hl
   exact trivial
theorem struct_tight {u v : St} {x : Sr} (h : Pr.structure_ t u = .ok (x, v)) : x.fields.l.length ≤ t.length + 2 := by
 obtain ⟨a, u1, h1, h⟩ := th_ok h
 obtain ⟨b, u2, h2, h⟩ := th_ok h
 obtain ⟨c, u3, h3, h⟩ := th_ok h
 obtain ⟨d, u4, h4, h⟩ := th_ok h
 injection h with h; injection h with hl h; subst hl
 have := fields_llen _ _ _ h4
 simp at this
 show d.length ≤ _
 omega
theorem proc_tight {u v : St} {x : Pc} (h : Pr.proc t u = .ok (x, v)) : x.params.l.length ≤ t.length + 2 ∧ x.locals_.l.length ≤ t.length + 2 ∧ tight (t.length + 2) x.body := by
 obtain ⟨a, u1, h1, h⟩ := th_ok h
 obtain ⟨b, u2, h2, h⟩ := th_ok h
 obtain ⟨c, u3, h3, h⟩ := th_ok h
 obtain ⟨d, u4, h4, h⟩ := th_ok h
 obtain ⟨e, u5, h5, h⟩ := th_ok h
 obtain ⟨f, u6, h6, h⟩ := th_ok h
 obtain ⟨k, u7, h7, h⟩ := th_ok h
 injection h with h; injection h with hl h; subst hl
 have := locals_llen _ _ _ h5
 simp at this
 exact ⟨listed_len h3, by show e.length ≤ _; omega, stmts_tight _ _ _ _ h6⟩
theorem program_tight : ∀ (n : Nat) (ss : List Sr) (gs : List Dc) (ps : List Pc) (u : St) {p : Pg} {v : St}, Pr.program t n ss gs ps u = .ok (p, v) → ss.length + n ≤ t.length + 2 → gs.length + n ≤ t.length + 2 → ps.length + n ≤ t.length + 2 →
  (∀ x ∈ ss, x.fields.l.length ≤ t.length + 2) → (∀ x ∈ ps, x.params.l.length ≤ t.length + 2 ∧ x.locals_.l.length ≤ t.length + 2 ∧ tight (t.length + 2) x.body) → tightP (t.length + 2) p
 | 0, ss, gs, ps, u, p, v, h, _, _, _, _, _ => by cases h
 | n + 1, ss, gs, ps, u, p, v, h, h1, h2, h3, h4, h5 => by
  unfold Pr.program at h
  split at h
  ·injection h with h; injection h with hl h; subst hl
   exact ⟨⟨by show ss.length ≤ _; omega, h4⟩, by show gs.length ≤ _; omega, by show ps.length ≤ _; omega, h5⟩
  ·split at h
   ·obtain ⟨x, u1, q1, h⟩ := th_ok h
    exact program_tight n _ gs ps u1 h (by simp; omega) (by omega) (by omega) (fun z hz => by
     rcases List.mem_append.1 hz with hz | hz
     ·exact h4 z hz
     ·rw [List.mem_singleton.1 hz]; exact struct_tight q1) h5
   ·split at h
    ·obtain ⟨x, u1, q1, h⟩ := th_ok h
     exact program_tight n ss gs _ u1 h (by omega) (by omega) (by simp; omega) h4 (fun z hz => by
      rcases List.mem_append.1 hz with hz | hz
      ·exact h5 z hz
      ·rw [List.mem_singleton.1 hz]; exact proc_tight q1)
    ·obtain ⟨x, u1, q1, h⟩ := th_ok h
     exact program_tight n ss _ ps u1 h (by omega) (by simp; omega) (by omega) h4 h5
end
theorem tightP_none (M : Nat) : tightP M Pr.noPg := ⟨⟨Nat.zero_le _, by simp [Pr.noPg]⟩, Nat.zero_le _, Nat.zero_le _, by simp [Pr.noPg]⟩
theorem tight_mono {M N : Nat} (h : M ≤ N) : ∀ l : SL, tight M l → tight N l
 | .nil, _ => trivial
 | .cons _ _ _ t _ _ e r, g => ⟨Nat.le_trans g.1 h, tight_mono h t g.2.1, tight_mono h e g.2.2.1, tight_mono h r g.2.2.2⟩
theorem tightP_mono {M N : Nat} (h : M ≤ N) {p : Pg} (g : tightP M p) : tightP N p :=
 ⟨⟨Nat.le_trans g.1.1 h, fun x hx => Nat.le_trans (g.1.2 x hx) h⟩, Nat.le_trans g.2.1 h, Nat.le_trans g.2.2.1 h, fun x hx => ⟨Nat.le_trans (g.2.2.2 x hx).1 h, Nat.le_trans (g.2.2.2 x hx).2.1 h, tight_mono h _ (g.2.2.2 x hx).2.2⟩⟩
/-- No list of what was read is longer than its text. -/
theorem rd_tight (s : ByteArray) : tightP (s.size + 3) (Pr.rd s).2 := by
 unfold Pr.rd
 have hal := alls_len s
 by_cases h0 : (Tx.alls s).2.2 = 0
 ·rw [if_pos h0]
  unfold Pr.whole
  split
  ·exact tightP_none _
  ·rename_i a ha
   split at ha
   ·cases ha
   ·rename_i x u hx
    split at ha
    ·injection ha with ha; subst ha
     refine tightP_mono ?_ (program_tight _ _ _ _ _ hx (by simp) (by simp) (by simp) (by simp) (by simp))
     rw [List.length_map]; omega
    ·cases ha
 ·rw [if_neg h0]; exact tightP_none _
/- How long the texts are. -/
theorem path_len {x : Pth} (h : okPath x = true) : (pathT x).length ≤ 160 := by
 unfold okPath at h
 simp only [Bool.and_eq_true, decide_eq_true_eq, List.all_eq_true] at h
 have h1 := (okN_nameB h.1.1).1
 have h2 := hopsT_len x.hops.l h.2
 have := h.1.2
 simp only [pathT, List.length_append, txt, Tx.len_eq]
 omega
theorem txt_len {x : ByteArray} (h : okN x = true) : (txt x).length ≤ 16 := by
 have h1 := (okN_nameB h).1
 simpa only [txt, Tx.len_eq] using h1
theorem val_len {x : Vl} (h : okVal x = true) : (valT x).length ≤ 200 := by
 unfold okVal at h
 unfold valT
 by_cases k0 : x.kind = 0
 ·rw [if_pos k0]; decide
 rw [if_neg k0]
 by_cases k3 : x.kind = 3
 ·rw [if_neg (by omega), if_neg (by omega), if_pos k3]; decide
 rw [if_neg (by omega)] at h
 by_cases k1 : x.kind = 1
 ·rw [if_pos k1] at h ⊢
  simp only [Bool.and_eq_true] at h
  have := path_len h.2; omega
 rw [if_neg k1] at h ⊢
 by_cases k2 : x.kind = 2
 ·rw [if_pos k2] at h ⊢
  simp only [Bool.and_eq_true] at h
  have := txt_len h.2
  simp only [List.length_append, tNew, List.length_cons, List.length_nil]
  omega
 rw [if_neg k2] at h ⊢
 rw [if_neg k3]
 by_cases k4 : x.kind = 4
 ·rw [if_pos k4] at h ⊢
  simp only [Bool.and_eq_true] at h
  have := digits_len 9 x.left.n.toNat (by have := (okNum_nat h.2).2; omega)
  omega
 rw [if_neg k4] at h ⊢
 by_cases k5 : x.kind = 5 ∨ x.kind = 6
 ·rw [if_pos k5] at h
  simp only [Bool.and_eq_true] at h
  have a := term_len h.1.2
  have b := term_len h.2
  split <;> simp only [List.length_append, List.length_cons, List.length_nil] <;> omega
 ·rw [if_neg k5] at h; cases h
theorem cond_len {x : Cd} (h : okCond x = true) : (condT x).length ≤ 420 := by
 unfold okCond at h
 unfold condT
 by_cases k0 : x.kind = 0
 ·rw [if_pos k0]; simp
 rw [if_neg k0] at h ⊢
 simp only [Bool.and_eq_true] at h
 have a := side_len h.1.2
 have b := side_len h.2
 have c : (relT x.kind).length ≤ 2 := by unfold relT; split <;> (try split) <;> (try split) <;> simp
 simp only [List.length_append, List.length_cons, List.length_nil]
 omega
theorem comma_len {α : Type} {f : α → List UInt8} {B : Nat} : ∀ l : List α, (∀ a ∈ l, (f a).length ≤ B) → (commaT f l).length ≤ l.length * (B + 2)
 | [], _ => Nat.zero_le _
 | [a], h => by have := h a List.mem_cons_self; simp only [commaT, List.length_cons, List.length_nil]; omega
 | a :: b :: l, h => by
  have h1 := h a List.mem_cons_self
  have h2 := comma_len (b :: l) (fun x hx => h x (List.mem_cons_of_mem _ hx))
  simp only [commaT, List.length_append, List.length_cons] at *
  rw [Nat.succ_mul]
  omega
theorem lines_len : ∀ (l : SL) (d : Nat), okList l = true → tight 8010 l → (d : Int) + dp l ≤ 50 → ((linesT l d).length : Int) ≤ cnt l * 2000000
 | .nil, _, _, _, _ => by simp [linesT, cnt]
 | .cons h _ _ t _ _ e r, d, ho, ht, hd => by
  simp only [okList, Bool.and_eq_true] at ho
  obtain ⟨ta, tt, te, tr⟩ := ht
  simp only [dp] at hd
  have hr := lines_len r d ho.2 tr (by omega)
  have hn := dp_nn r
  have ct := cnt_nn t; have ce := cnt_nn e
  have hdp : d ≤ 50 := by omega
  have hp := pad_len d
  simp only [linesT, cnt, List.length_append, hp]
  have hos := ho.1.1.1
  unfold okStmt at hos
  unfold stT
  by_cases h0 : h.kind = 0
  ·rw [if_pos h0]; simp only [List.length_cons]; omega
  by_cases h1 : h.kind = 1
  ·rw [if_neg h0, if_pos h1] at hos ⊢
   simp only [Bool.and_eq_true] at hos
   have := path_len hos.1.1.1.1.1.1
   have := val_len hos.1.1.1.1.1.2
   simp only [List.length_cons, List.length_append]; omega
  by_cases h2 : h.kind = 2
  ·rw [if_neg h0, if_neg h1, if_pos h2] at hos ⊢
   simp only [Bool.and_eq_true] at hos
   have := path_len hos.1.1.1.1.1.1
   simp only [List.length_cons, List.length_append, tFree, List.length_nil]; omega
  by_cases h3 : h.kind = 3
  ·rw [if_neg h0, if_neg h1, if_neg h2, if_pos h3] at hos ⊢
   simp only [Bool.and_eq_true] at hos
   have := txt_len hos.1.1.1.2
   have hall := hos.1.1.1.1.1.1.1
   have := comma_len (f := valT) (B := 200) h.args.l (fun a ha => side_len (List.all_eq_true.1 hall a ha))
   simp only [List.length_cons, List.length_append]; omega
  by_cases h4 : h.kind = 4
  ·rw [if_neg h0, if_neg h1, if_neg h2, if_neg h3, if_pos h4] at hos ⊢
   simp only [Bool.and_eq_true] at hos
   have := cond_len hos.1.1.2
   rw [if_pos (by omega)] at hd
   have a := lines_len t (d + 1) ho.1.1.2 tt (by omega)
   have b := lines_len e (d + 1) ho.1.2 te (by omega)
   simp only [List.length_cons, List.length_append, tIf, List.length_nil, hp]
   split
   ·simp only [List.length_cons, List.length_append, tElse, List.length_nil, hp]; omega
   ·simp only [List.length_cons]; omega
  by_cases h5 : h.kind = 5
  ·rw [if_neg h0, if_neg h1, if_neg h2, if_neg h3, if_neg h4, if_pos h5] at hos ⊢
   simp only [Bool.and_eq_true] at hos
   have := cond_len hos.1.1.1.2
   rw [if_pos (by omega)] at hd
   have a := lines_len t (d + 1) ho.1.1.2 tt (by omega)
   simp only [List.length_cons, List.length_append, tWhile, List.length_nil, hp]; omega
  ·rw [if_neg h0, if_neg h1, if_neg h2, if_neg h3, if_neg h4, if_neg h5] at hos ⊢
   by_cases h6 : h.kind = 6
   ·rw [if_pos (by omega)] at hd
    have a := lines_len t (d + 1) ho.1.1.2 tt (by omega)
    simp only [List.length_cons, List.length_append, hp]; omega
   ·rw [if_neg h6] at hos; cases hos
theorem fields_tlen {d : Nat} {k : List UInt8} (hd : d ≤ 1) : ∀ l : List Dc, l.all okDecl = true → (fieldsT d l k).length ≤ l.length * 50 + k.length
 | [], _ => by simp [fieldsT]
 | x :: l, h => by
  simp only [List.all_cons, Bool.and_eq_true] at h
  have a := decl_len h.1
  have b := fields_tlen (k := k) hd l h.2
  have c := pad_len d
  simp only [fieldsT, List.length_append, List.length_cons, c] at *
  omega
theorem structs_tlen {k : List UInt8} : ∀ l : List Sr, l.all okStruct = true → (∀ x ∈ l, x.fields.l.length ≤ 8010) → (structsT l k).length ≤ l.length * 500000 + k.length
 | [], _, _ => by simp [structsT]
 | x :: l, h, g => by
  simp only [List.all_cons, Bool.and_eq_true, okStruct] at h
  have a := txt_len h.1.1
  have b := structs_tlen (k := k) l h.2 (fun y hy => g y (List.mem_cons_of_mem _ hy))
  have c := fields_tlen (d := 1) (k := 125 :: 10 :: structsT l k) (by omega) x.fields.l (fields_decls h.1.2)
  have e := g x List.mem_cons_self
  simp only [structsT, List.length_append, List.length_cons, tStruct, List.length_nil] at *
  omega
theorem procs_tlen : ∀ l : List Pc, l.all okProc = true → (∀ x ∈ l, dp x.body ≤ 20) → (∀ x ∈ l, x.params.l.length ≤ 8010 ∧ x.locals_.l.length ≤ 8010 ∧ tight 8010 x.body) → ((procsT l).length : Int) ≤ l.length * 1000000 + cntP l * 2000000
 | [], _, _, _ => by simp [procsT, cntP]
 | x :: l, h, hd, g => by
  simp only [List.all_cons, Bool.and_eq_true, okProc] at h
  have a := txt_len h.1.1.1.1
  have b := procs_tlen l h.2 (fun y hy => hd y (List.mem_cons_of_mem _ hy)) (fun y hy => g y (List.mem_cons_of_mem _ hy))
  obtain ⟨g1, g2, g3⟩ := g x List.mem_cons_self
  have c := fields_tlen (d := 1) (k := linesT x.body 1 ++ 125 :: 10 :: procsT l) (by omega) x.locals_.l h.1.1.2
  have e := lines_len x.body 1 h.1.2 g3 (by have := hd x List.mem_cons_self; omega)
  have f := comma_len (f := declT) (B := 40) x.params.l (fun y hy => decl_len (List.all_eq_true.1 h.1.1.1.2 y hy))
  simp only [procsT, cntP, List.length_append, List.length_cons, tVoid, List.length_nil] at *
  omega
theorem prog_tlen {p : Pg} (h : right p = true) (g : tightP 8010 p) : (progT p).length ≤ 100000000000 := by
 simp only [right, okProg, Bool.and_eq_true, decide_eq_true_eq] at h
 obtain ⟨⟨⟨⟨hs, hg⟩, hp⟩, hd⟩, hc⟩ := h
 obtain ⟨⟨g1, g2⟩, g3, g4, g5⟩ := g
 have a := procs_tlen p.procs.l hp (fun x hx => by have := List.all_eq_true.1 hd x hx; simpa using this) g5
 have b := fields_tlen (d := 0) (k := procsT p.procs.l) (by omega) p.globals.l hg
 have c := structs_tlen (k := fieldsT 0 p.globals.l (procsT p.procs.l)) p.structs.l hs g2
 unfold progT
 omega
end Pn
end Go.Proofs.YtdlchhimkelinaaGreatDoor
namespace Go.Proofs.YtdlchhimkelinaaGreatDoor
namespace Pn
theorem stT_app (h : Hd) (t e : List UInt8) (d : Nat) (k : List UInt8) : stT h t e d k = stT h t e d [] ++ k := by
 unfold stT
 split
 ·rfl
 split
 ·simp
 split
 ·simp
 split
 ·simp
 split
 ·split <;> simp
 split
 ·simp
 ·simp
theorem commaT_snoc {α : Type} (f : α → List UInt8) : ∀ (l : List α) (a : α), l ≠ [] → commaT f (l ++ [a]) = commaT f l ++ [44, 32] ++ f a
 | [], _, h => absurd rfl h
 | [b], a, _ => by simp [commaT]
 | b :: c :: l, a, _ => by
  have := commaT_snoc f (c :: l) a (by simp)
  simp only [List.cons_append, commaT, List.append_assoc] at *
  rw [this]
theorem commaT_one {α : Type} (f : α → List UInt8) (a : α) : commaT f ([] ++ [a]) = f a := rfl
theorem fieldsT_app (d : Nat) : ∀ (l : List Dc) (k : List UInt8), fieldsT d l k = fieldsT d l [] ++ k
 | [], _ => rfl
 | x :: l, k => by simp only [fieldsT]; rw [fieldsT_app d l k]; simp
theorem fieldsT_snoc (d : Nat) : ∀ (l : List Dc) (x : Dc), fieldsT d (l ++ [x]) [] = fieldsT d l [] ++ (pad d ++ (declT x ++ [59, 10]))
 | [], x => by simp [fieldsT]
 | y :: l, x => by simp only [List.cons_append, fieldsT]; rw [fieldsT_snoc d l x]; simp
def srT (x : Sr) : List UInt8 := tStruct ++ 32 :: (txt x.name ++ 32 :: 123 :: 10 :: (fieldsT 1 x.fields.l [] ++ [125, 10]))
theorem structsT_app : ∀ (l : List Sr) (k : List UInt8), structsT l k = structsT l [] ++ k
 | [], _ => rfl
 | x :: l, k => by
  simp only [structsT]
  rw [fieldsT_app 1 x.fields.l (125 :: 10 :: structsT l k), fieldsT_app 1 x.fields.l (125 :: 10 :: structsT l []), structsT_app l k]
  simp
theorem structsT_snoc : ∀ (l : List Sr) (x : Sr), structsT (l ++ [x]) [] = structsT l [] ++ srT x
 | [], x => by simp only [List.nil_append, structsT, srT]; rw [fieldsT_app]
 | y :: l, x => by
  simp only [List.cons_append, structsT]
  rw [fieldsT_app 1 y.fields.l (125 :: 10 :: structsT (l ++ [x]) []), fieldsT_app 1 y.fields.l (125 :: 10 :: structsT l []), structsT_snoc l x]
  simp
def pcT (x : Pc) : List UInt8 := tVoid ++ 32 :: (txt x.name ++ 40 :: (commaT declT x.params.l ++ 41 :: 32 :: 123 :: 10 :: (fieldsT 1 x.locals_.l [] ++ (linesT x.body 1 ++ [125, 10]))))
theorem procsT_cons (x : Pc) (l : List Pc) : procsT (x :: l) = pcT x ++ procsT l := by
 simp only [procsT, pcT]
 rw [fieldsT_app 1 x.locals_.l (linesT x.body 1 ++ 125 :: 10 :: procsT l)]
 simp
theorem procsT_snoc : ∀ (l : List Pc) (x : Pc), procsT (l ++ [x]) = procsT l ++ pcT x
 | [], x => by
  rw [List.nil_append, procsT_cons]; simp [procsT]
 | y :: l, x => by
  rw [List.cons_append, procsT_cons, procsT_cons, procsT_snoc l x]; simp
theorem progT_eq (p : Pg) : progT p = structsT p.structs.l [] ++ (fieldsT 0 p.globals.l [] ++ procsT p.procs.l) := by
 unfold progT
 rw [structsT_app, fieldsT_app]
theorem take_snoc {α : Type} (l : List α) (n : Nat) (h : n < l.length) : l.take (n + 1) = l.take n ++ [l[n]] := (List.take_append_getElem h).symm
/- How long parts are. -/
theorem structs_part (l : List Sr) (n : Nat) : (structsT (l.take n) []).length ≤ (structsT l []).length := by
 have h : structsT l [] = structsT (l.take n) [] ++ structsT (l.drop n) [] := by
  rw [← structsT_app]
  induction n generalizing l with
  | zero => rfl
  | succ n ih =>
   cases l with
   | nil => rfl
   | cons x l => simp only [List.take_succ_cons, List.drop_succ_cons, structsT]; rw [ih l]
 rw [h, List.length_append]; omega
theorem fields_part (d : Nat) (l : List Dc) (n : Nat) : (fieldsT d (l.take n) []).length ≤ (fieldsT d l []).length := by
 have h : fieldsT d l [] = fieldsT d (l.take n) [] ++ fieldsT d (l.drop n) [] := by
  rw [← fieldsT_app]
  induction n generalizing l with
  | zero => rfl
  | succ n ih =>
   cases l with
   | nil => rfl
   | cons x l => simp only [List.take_succ_cons, List.drop_succ_cons, fieldsT]; rw [ih l]
 rw [h, List.length_append]; omega
theorem procs_part (l : List Pc) (n : Nat) : (procsT (l.take n)).length ≤ (procsT l).length := by
 have h : procsT l = procsT (l.take n) ++ procsT (l.drop n) := by
  induction n generalizing l with
  | zero => rfl
  | succ n ih =>
   cases l with
   | nil => rfl
   | cons x l => simp only [List.take_succ_cons, List.drop_succ_cons]; rw [procsT_cons, procsT_cons, ih l]; simp
 rw [h, List.length_append]; omega
/-- The texts of the kinds of statements. -/
theorem st0 {h : Hd} (k : h.kind = 0) (t e : List UInt8) (d : Nat) : stT h t e d [] = [59, 10] := by unfold stT; rw [if_pos k]
theorem st1 {h : Hd} (k : h.kind = 1) (t e : List UInt8) (d : Nat) : stT h t e d [] = pathT h.place ++ [32, 61, 32] ++ valT h.value ++ [59, 10] := by unfold stT; rw [if_neg (by omega), if_pos k]; simp
theorem st2 {h : Hd} (k : h.kind = 2) (t e : List UInt8) (d : Nat) : stT h t e d [] = [102, 114, 101, 101, 40] ++ pathT h.place ++ [41, 59, 10] := by unfold stT; rw [if_neg (by omega), if_neg (by omega), if_pos k]; simp [tFree]
theorem st3 {h : Hd} (k : h.kind = 3) (t e : List UInt8) (d : Nat) : stT h t e d [] = txt h.name ++ [40] ++ commaT valT h.args.l ++ [41, 59, 10] := by unfold stT; rw [if_neg (by omega), if_neg (by omega), if_neg (by omega), if_pos k]; simp
theorem st4b {h : Hd} (k : h.kind = 4) (b : h.both = true) (t e : List UInt8) (d : Nat) : stT h t e d [] = [105, 102, 32, 40] ++ condT h.cond ++ [41, 32, 123, 10] ++ t ++ pad d ++ [125, 32, 101, 108, 115, 101, 32, 123, 10] ++ e ++ pad d ++ [125, 10] := by
 unfold stT; rw [if_neg (by omega), if_neg (by omega), if_neg (by omega), if_neg (by omega), if_pos k, if_pos b]; simp [tIf, tElse]
theorem st4 {h : Hd} (k : h.kind = 4) (b : h.both = false) (t e : List UInt8) (d : Nat) : stT h t e d [] = [105, 102, 32, 40] ++ condT h.cond ++ [41, 32, 123, 10] ++ t ++ pad d ++ [125, 10] := by
 unfold stT; rw [if_neg (by omega), if_neg (by omega), if_neg (by omega), if_neg (by omega), if_pos k, if_neg (by rw [b]; decide)]; simp [tIf]
theorem st5 {h : Hd} (k : h.kind = 5) (t e : List UInt8) (d : Nat) : stT h t e d [] = [119, 104, 105, 108, 101, 32, 40] ++ condT h.cond ++ [41, 32, 123, 10] ++ t ++ pad d ++ [125, 10] := by
 unfold stT; rw [if_neg (by omega), if_neg (by omega), if_neg (by omega), if_neg (by omega), if_neg (by omega), if_pos k]; simp [tWhile]
theorem st6 {h : Hd} (k : 6 ≤ h.kind) (t e : List UInt8) (d : Nat) : stT h t e d [] = [123, 10] ++ t ++ pad d ++ [125, 10] := by
 unfold stT; rw [if_neg (by omega), if_neg (by omega), if_neg (by omega), if_neg (by omega), if_neg (by omega), if_neg (by omega)]; simp
end Pn
end Go.Proofs.YtdlchhimkelinaaGreatDoor
namespace Go.Proofs.YtdlchhimkelinaaGreatDoor
namespace Pn
def holdB (kind : Int) (tn en : Nat) : Bool := kind == 4 || kind == 5 || kind == 6 || decide (0 < tn) || decide (0 < en)
def dgB (kind : Int) (tn en : Nat) (dt de a : Int) : Int := if holdB kind tn en = true then max (max a (1 + dt)) (1 + de) else a
def deepFromB : SL → Int → Int
 | .nil, a => a
 | .cons h _ _ t _ _ e r, a => deepFromB r (dgB h.kind t.len e.len (deepFromB t 0) (deepFromB e 0) a)
theorem ok_kind {h : Hd} {t0 e0 : Bool} (ho : okStmt h t0 e0 = true) : 0 ≤ h.kind ∧ h.kind ≤ 6 := by
 rcases st_hd ho [] [] [] with ⟨k, _⟩ | ⟨k, _⟩ | ⟨k, _⟩ | ⟨k, _⟩ | ⟨k, _⟩ | ⟨k, _⟩ | ⟨k, _⟩ <;> omega
/-- The document's depth is the depth, where statements may be. -/
theorem deep_dp : ∀ (l : SL) (a : Int), okList l = true → 0 ≤ a → deepFromB l a = max a (dp l)
 | .nil, a, _, h0 => by simp only [deepFromB, dp]; omega
 | .cons h _ _ t _ _ e r, a, ho, h0 => by
  simp only [okList, Bool.and_eq_true] at ho
  have hk := ok_kind ho.1.1.1
  obtain ⟨n1, n2⟩ := ok_nils ho.1.1.1
  have ht := deep_dp t 0 ho.1.1.2 (Int.le_refl _)
  have he := deep_dp e 0 ho.1.2 (Int.le_refl _)
  have pt := dp_nn t; have pe := dp_nn e; have pr := dp_nn r
  simp only [deepFromB, dp]
  rw [ht, he]
  by_cases h4 : 4 ≤ h.kind
  ·have hh : holdB h.kind t.len e.len = true := by
    unfold holdB
    have : h.kind = 4 ∨ h.kind = 5 ∨ h.kind = 6 := by omega
    rcases this with k | k | k <;> rw [k] <;> rfl
   unfold dgB
   rw [if_pos hh, if_pos h4, deep_dp r _ ho.2 (by omega)]
   omega
  ·have hT := n1.resolve_left h4
   have hE := n2.resolve_left (fun hx => h4 (by omega))
   subst hT; subst hE
   have hh : holdB h.kind SL.nil.len SL.nil.len = false := by
    unfold holdB
    simp [SL.len]; omega
   unfold dgB
   rw [if_neg (by rw [hh]; decide), if_neg h4, deep_dp r _ ho.2 h0]
   omega
end Pn
end Go.Proofs.YtdlchhimkelinaaGreatDoor
namespace Go.Proofs.YtdlchhimkelinaaGreatDoor
namespace Pn
open Pr (th St Res th_ok)
/-- All names and numbers among the signs may be. -/
def Gt (t : List Pr.Tk) : Prop := ∀ i, ((Pr.sg t i).kind = 1 → okN (Pr.sg t i).text = true) ∧ ((Pr.sg t i).kind = 2 → okNum (Pr.sg t i).num = true)
theorem run_take (p : Int → Bool) : ∀ (l : List UInt8), ∀ b ∈ l.take (Tx.run p l), p (b.toNat : Int) = true
 | [], b, h => by simp at h
 | a :: l, b, h => by
  by_cases ha : p (a.toNat : Int) = true
  ·simp only [Tx.run, ha, if_true, List.take_succ_cons, List.mem_cons] at h
   rcases h with rfl | h
   ·exact ha
   ·exact run_take p l b h
  ·simp only [Tx.run, ha, Bool.false_eq_true, if_false, List.take_zero, List.not_mem_nil] at h
theorem fold_bound : ∀ (l : List UInt8) (n : Int) (k : Nat), 0 ≤ n → n < 10 ^ k → (∀ b ∈ l, Tx.dgt (b.toNat : Int) = true) → 0 ≤ l.foldl (fun n b => 10 * n + ((b.toNat : Int) - 48)) n ∧ l.foldl (fun n b => 10 * n + ((b.toNat : Int) - 48)) n < 10 ^ (k + l.length)
 | [], n, k, h0, h1, _ => ⟨h0, by simpa using h1⟩
 | b :: l, n, k, h0, h1, hd => by
  have hb := hd b List.mem_cons_self
  unfold Tx.dgt at hb
  simp only [decide_eq_true_eq] at hb
  have hp : (10 : Int) ^ (k + 1) = 10 * 10 ^ k := by rw [Int.pow_succ, Int.mul_comm]
  have := fold_bound l (10 * n + ((b.toNat : Int) - 48)) (k + 1) (by omega) (by rw [hp]; omega) (fun c hc => hd c (List.mem_cons_of_mem _ hc))
  rw [show k + 1 + l.length = k + (l.length + 1) by omega] at this
  exact this
theorem tokL_gt (D : List UInt8) : ((Tx.tokL D).kind = 1 → okN ⟨(D.take (Tx.tokL D).len).toArray⟩ = true) ∧ ((Tx.tokL D).kind = 2 → okNum (Tx.tokL D).num = true) := by
 cases D with
 | nil => exact ⟨fun h => absurd h (by show ¬ (0 : Int) = 1; decide), fun h => absurd h (by show ¬ (0 : Int) = 2; decide)⟩
 | cons b l =>
  rw [Tx.tokL_cons]
  by_cases hl : Tx.ltr (b.toNat : Int) = true
  ·rw [if_pos hl]
   by_cases h16 : 16 < Tx.run Tx.wrd (b :: l)
   ·rw [if_pos h16]; exact ⟨fun h => absurd h (by show ¬ (0 : Int) = 1; decide), fun h => absurd h (by show ¬ (0 : Int) = 2; decide)⟩
   ·rw [if_neg h16]
    by_cases hk : Tx.isKeyL ((b :: l).take (Tx.run Tx.wrd (b :: l))) = true
    ·rw [if_pos hk]; exact ⟨fun h => absurd h (by show ¬ (3 : Int) = 1; decide), fun h => absurd h (by show ¬ (3 : Int) = 2; decide)⟩
    ·rw [if_neg hk]
     refine ⟨fun _ => ?_, fun h => absurd h (by show ¬ (1 : Int) = 2; decide)⟩
     have hw : Tx.wrd (b.toNat : Int) = true := by unfold Tx.wrd; rw [hl]; rfl
     have hall := run_take Tx.wrd (b :: l)
     have hrun : Tx.run Tx.wrd (b :: l) = Tx.run Tx.wrd l + 1 := by simp only [Tx.run, hw, if_true]
     show okN ⟨((b :: l).take (Tx.run Tx.wrd (b :: l))).toArray⟩ = true
     unfold okN txt
     simp only [Bool.and_eq_true, Bool.not_eq_true', List.all_eq_true, decide_eq_true_eq]
     refine ⟨⟨⟨?_, hall⟩, by rw [List.length_take]; omega⟩, by simpa using hk⟩
     rw [hrun, List.take_succ_cons]; exact hl
  ·rw [if_neg hl]
   by_cases hg : Tx.dgt (b.toNat : Int) = true
   ·rw [if_pos hg]
    by_cases h9 : 9 < Tx.run Tx.dgt (b :: l)
    ·rw [if_pos h9]; exact ⟨fun h => absurd h (by show ¬ (0 : Int) = 1; decide), fun h => absurd h (by show ¬ (0 : Int) = 2; decide)⟩
    ·rw [if_neg h9]
     refine ⟨fun h => absurd h (by show ¬ (2 : Int) = 1; decide), fun _ => ?_⟩
     obtain ⟨g1, g2⟩ := fold_bound ((b :: l).take (Tx.run Tx.dgt (b :: l))) 0 0 (Int.le_refl _) (by decide) (run_take Tx.dgt (b :: l))
     have hle : (10 : Int) ^ (0 + ((b :: l).take (Tx.run Tx.dgt (b :: l))).length) ≤ 10 ^ 9 := by
      have : ((b :: l).take (Tx.run Tx.dgt (b :: l))).length ≤ 9 := by rw [List.length_take]; omega
      have h2 : (10 : Nat) ^ (0 + ((b :: l).take (Tx.run Tx.dgt (b :: l))).length) ≤ 10 ^ 9 := Nat.pow_le_pow_right (by decide) (by omega)
      exact_mod_cast h2
     show okNum (Tx.val ((b :: l).take (Tx.run Tx.dgt (b :: l)))) = true
     unfold okNum Tx.val
     simp only [Bool.and_eq_true, decide_eq_true_eq]
     exact ⟨g1, by omega⟩
   ·rw [if_neg hg]
    split
    ·exact ⟨fun h => absurd h (by show ¬ (0 : Int) = 1; decide), fun h => absurd h (by show ¬ (0 : Int) = 2; decide)⟩
    ·exact ⟨fun h => absurd h (by show ¬ (4 : Int) = 1; decide), fun h => absurd h (by show ¬ (4 : Int) = 2; decide)⟩
theorem nx_gt (s : ByteArray) (i : Nat) : ((Tx.nx s i).sg.kind = 1 → okN (Tx.nx s i).sg.text = true) ∧ ((Tx.nx s i).sg.kind = 2 → okNum (Tx.nx s i).sg.num = true) := by
 have h := Tx.nx_list s i
 have hp := Tx.part_take s (Tx.skp s i) (Tx.tokL (s.data.toList.drop (Tx.skp s i))).len
 have hg := tokL_gt (s.data.toList.drop (Tx.skp s i))
 rw [← hp] at hg
 rw [show (⟨(s.extract (Tx.skp s i) (Tx.skp s i + (Tx.tokL (s.data.toList.drop (Tx.skp s i))).len)).data.toList.toArray⟩ : ByteArray) = s.extract (Tx.skp s i) (Tx.skp s i + (Tx.tokL (s.data.toList.drop (Tx.skp s i))).len) by rw [Array.toArray_toList]] at hg
 rw [h]; exact hg
theorem chain_gt : ∀ (l : List Tx.Sg) (s : ByteArray) (i : Nat), Tx.Chain s i l → ∀ a ∈ l, (a.kind = 1 → okN a.text = true) ∧ (a.kind = 2 → okNum a.num = true)
 | [], s, i, h => h.elim
 | b :: l, s, i, h => by
  obtain ⟨_, rfl, h1⟩ := h
  intro a ha
  rcases List.mem_cons.1 ha with rfl | ha
  ·exact nx_gt s i
  ·rcases h1 with ⟨_, rfl⟩ | ⟨_, hc⟩
   ·simp at ha
   ·exact chain_gt l s _ hc a ha
theorem alls_gt (s : ByteArray) (h : (Tx.alls s).2.2 = 0) : Gt ((Tx.alls s).1.map Pr.tk) := by
 intro i
 unfold Pr.sg
 rw [List.getD_eq_getElem?_getD]
 cases hx : ((Tx.alls s).1.map Pr.tk)[i]? with
 | none => exact ⟨fun h => absurd h (by show ¬ (0 : Int) = 1; decide), fun h => absurd h (by show ¬ (0 : Int) = 2; decide)⟩
 | some y =>
  obtain ⟨a, ha, rfl⟩ := List.mem_map.1 (List.mem_of_getElem? hx)
  exact chain_gt _ s 0 (Tx.alls_chain s h) a ha
theorem fwd_o {n : Nat} {u v : St} (h : Pr.Fwd n u v) : v.o = u.o ∧ v.b = u.b := h.2
section
variable {t : List Pr.Tk}
theorem name_gt (g : Gt t) {u v : St} {x : Pr.Tk} (h : Pr.name t u = .ok (x, v)) : okN x.text = true := by
 unfold Pr.name at h
 split at h
 ·rename_i hk
  injection h with h; injection h with h _; subst h
  exact (g u.i).1 hk
 ·cases h
theorem hops_gt (g : Gt t) : ∀ (n : Nat) (acc : List Hp) (u : St) {l : List Hp} {v : St}, Pr.hops t n acc u = .ok (l, v) → (∀ x ∈ acc, okN x.name = true) → l.length ≤ acc.length + n ∧ ∀ x ∈ l, okN x.name = true
 | 0, acc, u, l, v, h, ha => by
  unfold Pr.hops at h
  split at h
  ·cases h
  ·injection h with h; injection h with h _; subst h; exact ⟨by omega, ha⟩
 | n + 1, acc, u, l, v, h, ha => by
  unfold Pr.hops at h
  split at h
  ·obtain ⟨x, w, h1, h2⟩ := th_ok h
   have := hops_gt g n _ w h2 (by
    intro y hy
    rcases List.mem_append.1 hy with hy | hy
    ·exact ha y hy
    ·rw [List.mem_singleton.1 hy]; exact name_gt g h1)
   exact ⟨by have := this.1; simp at this; omega, this.2⟩
  ·injection h with h; injection h with h _; subst h; exact ⟨by omega, ha⟩
theorem path_gt (g : Gt t) {u v : St} {x : Pth} (h : Pr.path t u = .ok (x, v)) : okPath x = true := by
 obtain ⟨a, u1, h1, h⟩ := th_ok h
 obtain ⟨b, u2, h2, h⟩ := th_ok h
 injection h with h; injection h with h _; subst h
 have hh := hops_gt g _ _ _ h2 (by simp)
 unfold okPath
 simp only [Bool.and_eq_true, decide_eq_true_eq, List.all_eq_true]
 exact ⟨⟨name_gt g h1, by simpa using hh.1⟩, hh.2⟩
theorem term_gt (g : Gt t) {u v : St} {x : Tm} (h : Pr.term t u = .ok (x, v)) : okTerm x = true := by
 unfold Pr.term at h
 split at h
 ·rename_i hk
  injection h with h; injection h with h _; subst h
  unfold okTerm
  exact (if_pos (rfl : txt ByteArray.empty = [])).trans ((g u.i).2 hk)
 ·obtain ⟨a, u1, h1, h⟩ := th_ok h
  injection h with h; injection h with h _; subst h
  have hn := name_gt g h1
  unfold okTerm
  rw [if_neg (fun e => okN_ne hn (.inr (fun b l e => by cases e)) e)]
  rw [hn]; rfl
theorem side_gt (g : Gt t) {u v : St} {x : Vl} (h : Pr.side t u = .ok (x, v)) : okSide x = true := by
 unfold Pr.side at h
 split at h
 ·injection h with h; injection h with h _; subst h; rfl
 ·split at h
  ·rename_i hk
   obtain ⟨a, u1, h1, h⟩ := th_ok h
   injection h with h; injection h with h _; subst h
   unfold Pr.term at h1
   rw [if_pos hk] at h1
   injection h1 with h1; injection h1 with h1 _; subst h1
   have := (g u.i).2 hk
   unfold okSide okVal
   simp [Pr.noVl, noP, noT, Pr.noPth, Pr.noTm, txt, this]
  ·obtain ⟨a, u1, h1, h⟩ := th_ok h
   injection h with h; injection h with h _; subst h
   have := path_gt g h1
   unfold okSide okVal
   simp [Pr.noVl, noT, Pr.noTm, txt, this]
theorem value_gt (g : Gt t) {u v : St} {x : Vl} (h : Pr.value t u = .ok (x, v)) : okVal x = true := by
 unfold Pr.value at h
 split at h
 ·obtain ⟨a, u1, h1, h⟩ := th_ok h
  injection h with h; injection h with h _; subst h
  have := name_gt g h1
  unfold okVal
  simp [Pr.noVl, noP, noT, Pr.noPth, Pr.noTm, txt, this]
 ·split at h
  ·injection h with h; injection h with h _; subst h; rfl
  ·split at h
   ·obtain ⟨a, u1, h1, h⟩ := th_ok h
    obtain ⟨b, u2, h2, h⟩ := th_ok h
    injection h with h; injection h with h _; subst h
    have ha := term_gt g h1
    have hb := term_gt g h2
    unfold okVal
    split <;> simp [Pr.noVl, noP, Pr.noPth, txt, ha, hb]
   ·have := side_gt g h
    unfold okSide at this
    simp only [Bool.and_eq_true] at this
    exact this.1
theorem relation_gt {u v : St} {k : Int} (h : Pr.relation t u = .ok (k, v)) : 1 ≤ k ∧ k ≤ 4 := by
 unfold Pr.relation at h
 split at h
 ·injection h with h; injection h with h _; subst h; decide
 ·split at h
  ·injection h with h; injection h with h _; subst h; decide
  ·split at h
   ·injection h with h; injection h with h _; subst h; decide
   ·obtain ⟨a, u1, h1, h⟩ := th_ok h
    injection h with h; injection h with h _; subst h; decide
theorem cond_gt (g : Gt t) {u v : St} {x : Cd} (h : Pr.cond t u = .ok (x, v)) : okCond x = true := by
 unfold Pr.cond at h
 split at h
 ·injection h with h; injection h with h _; subst h; rfl
 ·obtain ⟨a, u1, h1, h⟩ := th_ok h
  obtain ⟨b, u2, h2, h⟩ := th_ok h
  obtain ⟨c, u3, h3, h⟩ := th_ok h
  injection h with h; injection h with h _; subst h
  have hr := relation_gt h2
  unfold okCond
  rw [if_neg (by show ¬ b = 0; omega)]
  simp only [Bool.and_eq_true, decide_eq_true_eq]
  exact ⟨⟨hr, side_gt g h1⟩, side_gt g h3⟩
theorem held_gt (g : Gt t) {u v : St} {x : Cd} (h : Pr.held t u = .ok (x, v)) : okCond x = true := by
 obtain ⟨a, u1, h1, h⟩ := th_ok h
 obtain ⟨b, u2, h2, h⟩ := th_ok h
 obtain ⟨c, u3, h3, h⟩ := th_ok h
 injection h with h; injection h with h _; subst h
 exact cond_gt g h2
theorem more_gt {α : Type} {P : α → Prop} {item : St → Res α} (hi : ∀ u x v, item u = .ok (x, v) → P x) : ∀ (n : Nat) (acc : List α) (u : St) {l : List α} {v : St}, Pr.more t item n acc u = .ok (l, v) → (∀ x ∈ acc, P x) → ∀ x ∈ l, P x
 | 0, acc, u, l, v, h, _ => by cases h
 | n + 1, acc, u, l, v, h, ha => by
  unfold Pr.more at h
  split at h
  ·obtain ⟨x, w, h1, h2⟩ := th_ok h
   refine more_gt hi n _ w h2 fun y hy => ?_
   rcases List.mem_append.1 hy with hy | hy
   ·exact ha y hy
   ·rw [List.mem_singleton.1 hy]; exact hi _ _ _ h1
  ·obtain ⟨a, u1, h1, h⟩ := th_ok h
   injection h with h; injection h with h _; subst h
   exact ha
theorem listed_gt {α : Type} {P : α → Prop} {item : St → Res α} (hi : ∀ u x v, item u = .ok (x, v) → P x) {u v : St} {l : List α} (h : Pr.listed t item u = .ok (l, v)) : ∀ x ∈ l, P x := by
 obtain ⟨a, u1, h1, h⟩ := th_ok h
 split at h
 ·injection h with h; injection h with h _; subst h; simp
 ·obtain ⟨b, u2, h2, h⟩ := th_ok h
  exact more_gt hi _ _ _ h (fun x hx => by rw [List.mem_singleton.1 hx]; exact hi _ _ _ h2)
theorem pointer_gt (g : Gt t) {u v : St} {x : Dc} (h : Pr.pointer t u = .ok (x, v)) : okField x = true := by
 obtain ⟨a, u1, h1, h⟩ := th_ok h
 obtain ⟨b, u2, h2, h⟩ := th_ok h
 obtain ⟨c, u3, h3, h⟩ := th_ok h
 injection h with h; injection h with h _; subst h
 have ha := name_gt g h1
 have hn : ¬ txt a.text = [] := fun e => okN_ne ha (.inr (fun b l e => by cases e)) e
 unfold okField okDecl
 simp [ha, name_gt g h3, hn]
theorem variable_gt (g : Gt t) {u v : St} {x : Dc} (h : Pr.variable_ t u = .ok (x, v)) : okDecl x = true := by
 unfold Pr.variable_ at h
 split at h
 ·obtain ⟨a, u1, h1, h⟩ := th_ok h
  injection h with h; injection h with h _; subst h
  unfold okDecl
  simp [name_gt g h1, txt]
 ·have := pointer_gt g h
  unfold okField at this
  simp only [Bool.and_eq_true] at this
  exact this.1
theorem decl_gt (g : Gt t) {u v : St} {x : Dc} (h : Pr.decl t u = .ok (x, v)) : okDecl x = true := by
 obtain ⟨a, u1, h1, h⟩ := th_ok h
 obtain ⟨b, u2, h2, h⟩ := th_ok h
 injection h with h; injection h with h _; subst h
 exact variable_gt g h1
end
end Pn
end Go.Proofs.YtdlchhimkelinaaGreatDoor
namespace Go.Proofs.YtdlchhimkelinaaGreatDoor
namespace Pn
open Pr (th St Res th_ok)
theorem e_val : noVal Pr.noVl = true := by rfl
theorem e_cond : noCond Pr.noCd = true := by rfl
theorem e_pth : noP Pr.noPth = true := by rfl
/-- What statements leave that were read from u on. -/
def Sp (u v : St) (l : SL) : Prop := okList l = true ∧ v.o = u.o ∧ v.b = u.b + cnt l ∧ v.b ≤ 400 ∧ u.o + dp l ≤ 20
section
variable {t : List Pr.Tk}
theorem block_gt {rec : St → Res SL} (hr : ∀ u l v, rec u = .ok (l, v) → u.b ≤ 400 → u.o ≤ 20 → Sp u v l) {u v : St} {l : SL} (h : Pr.block t rec u = .ok (l, v)) (hb : u.b ≤ 400) (ho : u.o ≤ 20) : okList l = true ∧ v.o = u.o ∧ v.b = u.b + cnt l ∧ v.b ≤ 400 ∧ u.o + 1 + dp l ≤ 20 := by
 obtain ⟨a, u1, h1, h⟩ := th_ok h
 obtain ⟨b, u2, h2, h⟩ := th_ok h
 obtain ⟨c, u3, h3, h⟩ := th_ok h
 obtain ⟨d, u4, h4, h⟩ := th_ok h
 injection h with h; injection h with hl h; subst h; subst hl
 obtain ⟨rfl, hne⟩ := Pr.mustHold_ok h1
 obtain ⟨hs, rfl⟩ := Pr.must_is h2
 have ho20 := hne hs
 obtain ⟨g1, g2, g3, g4, g5⟩ := hr _ _ _ h3 hb (by show u1.o + 1 ≤ 20; omega)
 have hF := fwd_o (Pr.must_fwd h4)
 simp only [St.go] at g2 g3 g5
 refine ⟨g1, ?_, ?_, ?_, g5⟩
 ·show u4.o - 1 = _; rw [hF.1, g2]; omega
 ·show u4.b = _; rw [hF.2, g3]
 ·show u4.b ≤ _; rw [hF.2]; exact g4
theorem free_gt (g : Gt t) {u v : St} {x : Hd} (h : Pr.free t u = .ok (x, v)) : okStmt x true true = true ∧ x.kind = 2 := by
 obtain ⟨a, u1, h1, h⟩ := th_ok h
 obtain ⟨b, u2, h2, h⟩ := th_ok h
 obtain ⟨c, u3, h3, h⟩ := th_ok h
 obtain ⟨d, u4, h4, h⟩ := th_ok h
 obtain ⟨e, u5, h5, h⟩ := th_ok h
 injection h with h; injection h with h _; subst h
 have hp := path_gt g h3
 refine ⟨?_, rfl⟩
 unfold okStmt
 simp [Pr.noHd, hp, e_val, e_cond, noCall, txt]
theorem named_gt (g : Gt t) {u v : St} {x : Hd} (h : Pr.named t u = .ok (x, v)) : okStmt x true true = true ∧ (x.kind = 1 ∨ x.kind = 3) := by
 unfold Pr.named at h
 split at h
 ·obtain ⟨a, u1, h1, h⟩ := th_ok h
  obtain ⟨b, u2, h2, h⟩ := th_ok h
  obtain ⟨c, u3, h3, h⟩ := th_ok h
  injection h with h; injection h with h _; subst h
  have hn := name_gt g h1
  have hl := listed_gt (P := fun x => okSide x = true) (fun _ _ _ h => side_gt g h) h2
  refine ⟨?_, .inr rfl⟩
  unfold okStmt
  simp [Pr.noHd, hn, e_val, e_cond, e_pth]
  exact hl
 ·obtain ⟨a, u1, h1, h⟩ := th_ok h
  obtain ⟨b, u2, h2, h⟩ := th_ok h
  obtain ⟨c, u3, h3, h⟩ := th_ok h
  obtain ⟨d, u4, h4, h⟩ := th_ok h
  injection h with h; injection h with h _; subst h
  have hp := path_gt g h1
  have hv := value_gt g h3
  refine ⟨?_, .inl rfl⟩
  unfold okStmt
  simp [Pr.noHd, hp, hv, e_cond, noCall, txt]
theorem stmt_gt (g : Gt t) {rec : St → Res SL} (hr : ∀ u l v, rec u = .ok (l, v) → u.b ≤ 400 → u.o ≤ 20 → Sp u v l) {u v : St} {h : Hd} {T E : SL} (hs : Pr.stmt t rec u = .ok ((h, T, E), v)) (hb : u.b ≤ 400) (ho : u.o ≤ 20) :
  okStmt h (isNil T) (isNil E) = true ∧ okList T = true ∧ okList E = true ∧ v.o = u.o ∧ v.b = u.b + 1 + cnt T + cnt E ∧ v.b ≤ 400 ∧ u.o + (if 4 ≤ h.kind then 1 + max (dp T) (dp E) else 0) ≤ 20 := by
 obtain ⟨a, u1, h1, hs⟩ := th_ok hs
 obtain ⟨rfl, hn⟩ := Pr.count_ok h1
 have hb1 : u.b + 1 ≤ 400 := by omega
 split at hs
 ·injection hs with hs; injection hs with hx hv; subst hv
  simp only [Prod.mk.injEq] at hx
  obtain ⟨rfl, rfl, rfl⟩ := hx
  exact ⟨by rfl, rfl, rfl, rfl, by show u.b + 1 = _; simp [cnt], hb1, by rw [if_neg (by show ¬ (4 : Int) ≤ 0; decide)]; omega⟩
 ·split at hs
  ·obtain ⟨b, u2, h2, hs⟩ := th_ok hs
   injection hs with hs; injection hs with hx hv; subst hv
   simp only [Prod.mk.injEq] at hx
   obtain ⟨rfl, rfl, rfl⟩ := hx
   obtain ⟨g1, g2, g3, g4, g5⟩ := block_gt hr h2 hb1 ho
   refine ⟨?_, g1, rfl, g2, by rw [g3]; simp [cnt], g4, ?_⟩
   ·unfold okStmt; simp [Pr.noHd, e_val, e_cond, e_pth, noCall, txt, isNil]
   ·rw [if_pos (by show (4 : Int) ≤ 6; decide)]
    have := dp_nn b
    have e : dp SL.nil = 0 := rfl
    simp only [e] at g5 ⊢
    omega
  ·split at hs
   ·obtain ⟨b, u2, h2, hs⟩ := th_ok hs
    injection hs with hs; injection hs with hx hv; subst hv
    simp only [Prod.mk.injEq] at hx
    obtain ⟨rfl, rfl, rfl⟩ := hx
    obtain ⟨f1, f2⟩ := free_gt g h2
    have hF := fwd_o (Pr.free_fwd h2)
    exact ⟨f1, rfl, rfl, hF.1, by rw [hF.2]; simp [cnt], by rw [hF.2]; exact hb1, by rw [if_neg (by omega)]; omega⟩
   ·split at hs
    ·obtain ⟨b, u2, h2, hs⟩ := th_ok hs
     obtain ⟨c, u3, h3, hs⟩ := th_ok hs
     obtain ⟨d, u4, h4, hs⟩ := th_ok hs
     have f2 := fwd_o (Pr.must_fwd h2)
     have f3 := fwd_o (Pr.held_fwd h3)
     have hc := held_gt g h3
     have o3 : u3.o = u.o := f3.1.trans f2.1
     have b3 : u3.b = u.b + 1 := f3.2.trans f2.2
     obtain ⟨g1, g2, g3, g4, g5⟩ := block_gt hr h4 (by omega) (by omega)
     split at hs
     ·obtain ⟨e, u5, h5, hs⟩ := th_ok hs
      injection hs with hs; injection hs with hx hv; subst hv
      simp only [Prod.mk.injEq] at hx
      obtain ⟨rfl, rfl, rfl⟩ := hx
      obtain ⟨k1, k2, k3, k4, k5⟩ := block_gt hr h5 g4 (by show u4.o ≤ 20; omega)
      simp only [St.go] at k2 k3 k5
      refine ⟨?_, g1, k1, by omega, by omega, k4, ?_⟩
      ·unfold okStmt; simp [Pr.noHd, e_val, e_pth, noCall, txt, hc]
      ·rw [if_pos (by show (4 : Int) ≤ 4; decide)]; omega
     ·injection hs with hs; injection hs with hx hv; subst hv
      simp only [Prod.mk.injEq] at hx
      obtain ⟨rfl, rfl, rfl⟩ := hx
      refine ⟨?_, g1, rfl, by omega, by rw [g3]; simp [cnt]; omega, g4, ?_⟩
      ·unfold okStmt; simp [Pr.noHd, e_val, e_pth, noCall, txt, hc, isNil]
      ·rw [if_pos (by show (4 : Int) ≤ 4; decide)]
       have := dp_nn d
       have e : dp SL.nil = 0 := rfl
       simp only [e]
       omega
    ·split at hs
     ·obtain ⟨b, u2, h2, hs⟩ := th_ok hs
      obtain ⟨c, u3, h3, hs⟩ := th_ok hs
      obtain ⟨d, u4, h4, hs⟩ := th_ok hs
      have f2 := fwd_o (Pr.must_fwd h2)
      have f3 := fwd_o (Pr.held_fwd h3)
      have hc := held_gt g h3
      have o3 : u3.o = u.o := f3.1.trans f2.1
      have b3 : u3.b = u.b + 1 := f3.2.trans f2.2
      obtain ⟨g1, g2, g3, g4, g5⟩ := block_gt hr h4 (by omega) (by omega)
      injection hs with hs; injection hs with hx hv; subst hv
      simp only [Prod.mk.injEq] at hx
      obtain ⟨rfl, rfl, rfl⟩ := hx
      refine ⟨?_, g1, rfl, by omega, by rw [g3]; simp [cnt]; omega, g4, ?_⟩
      ·unfold okStmt; simp [Pr.noHd, e_val, e_pth, noCall, txt, hc, isNil]
      ·rw [if_pos (by show (4 : Int) ≤ 5; decide)]
       have := dp_nn d
       have e : dp SL.nil = 0 := rfl
       simp only [e]
       omega
     ·obtain ⟨b, u2, h2, hs⟩ := th_ok hs
      injection hs with hs; injection hs with hx hv; subst hv
      simp only [Prod.mk.injEq] at hx
      obtain ⟨rfl, rfl, rfl⟩ := hx
      obtain ⟨f1, f2⟩ := named_gt g h2
      have hF := fwd_o (Pr.named_fwd h2)
      exact ⟨f1, rfl, rfl, hF.1, by rw [hF.2]; simp [cnt], by rw [hF.2]; exact hb1, by rw [if_neg (by omega)]; omega⟩
theorem stmts_gt (g : Gt t) : ∀ (n : Nat) (u : St) (l : SL) (v : St), Pr.stmts t n u = .ok (l, v) → u.b ≤ 400 → u.o ≤ 20 → Sp u v l
 | 0, u, l, v, h, _, _ => by cases h
 | n + 1, u, l, v, h, hb, ho => by
  unfold Pr.stmts at h
  split at h
  ·obtain ⟨⟨hh, a, e⟩, u1, h1, h⟩ := th_ok h
   obtain ⟨r, u2, h2, h⟩ := th_ok h
   injection h with h; injection h with hl h; subst h; subst hl
   obtain ⟨g1, g2, g3, g4, g5, g6, g7⟩ := stmt_gt g (fun u l v h hb ho => stmts_gt g n u l v h hb ho) h1 hb ho
   obtain ⟨k1, k2, k3, k4, k5⟩ := stmts_gt g n _ _ _ h2 g6 (by omega)
   refine ⟨?_, by omega, ?_, k4, ?_⟩
   ·simp only [okList, Bool.and_eq_true]; exact ⟨⟨⟨g1, g2⟩, g3⟩, k1⟩
   ·simp only [cnt]; omega
   ·simp only [dp]; omega
  ·injection h with h; injection h with hl h; subst h; subst hl
   exact ⟨rfl, rfl, by simp [cnt], hb, by simp [dp]; exact ho⟩
theorem fields_gt (g : Gt t) : ∀ (n : Nat) (acc : List Dc) (u : St) {l : List Dc} {v : St}, Pr.fields t n acc u = .ok (l, v) → (∀ x ∈ acc, okField x = true) → (∀ x ∈ l, okField x = true) ∧ v.o = u.o ∧ v.b = u.b
 | 0, acc, u, l, v, h, _ => by cases h
 | n + 1, acc, u, l, v, h, ha => by
  unfold Pr.fields at h
  split at h
  ·injection h with h; injection h with hl h; subst h; subst hl; exact ⟨ha, rfl, rfl⟩
  ·obtain ⟨x, u1, h1, h⟩ := th_ok h
   obtain ⟨y, u2, h2, h⟩ := th_ok h
   have f1 := fwd_o (Pr.pointer_fwd h1)
   have f2 := fwd_o (Pr.must_fwd h2)
   obtain ⟨k1, k2, k3⟩ := fields_gt g n _ u2 h (fun z hz => by
    rcases List.mem_append.1 hz with hz | hz
    ·exact ha z hz
    ·rw [List.mem_singleton.1 hz]; exact pointer_gt g h1)
   exact ⟨k1, k2.trans (f2.1.trans f1.1), k3.trans (f2.2.trans f1.2)⟩
theorem locals_gt (g : Gt t) : ∀ (n : Nat) (acc : List Dc) (u : St) {l : List Dc} {v : St}, Pr.locals t n acc u = .ok (l, v) → (∀ x ∈ acc, okDecl x = true) → (∀ x ∈ l, okDecl x = true) ∧ v.o = u.o ∧ v.b = u.b
 | 0, acc, u, l, v, h, _ => by cases h
 | n + 1, acc, u, l, v, h, ha => by
  unfold Pr.locals at h
  split at h
  ·obtain ⟨x, u1, h1, h⟩ := th_ok h
   have f1 := fwd_o (Pr.decl_fwd h1)
   obtain ⟨k1, k2, k3⟩ := locals_gt g n _ u1 h (fun z hz => by
    rcases List.mem_append.1 hz with hz | hz
    ·exact ha z hz
    ·rw [List.mem_singleton.1 hz]; exact decl_gt g h1)
   exact ⟨k1, k2.trans f1.1, k3.trans f1.2⟩
  ·injection h with h; injection h with hl h; subst h; subst hl; exact ⟨ha, rfl, rfl⟩
theorem struct_gt (g : Gt t) {u v : St} {x : Sr} (h : Pr.structure_ t u = .ok (x, v)) : okStruct x = true ∧ v.o = u.o ∧ v.b = u.b := by
 obtain ⟨a, u1, h1, h⟩ := th_ok h
 obtain ⟨b, u2, h2, h⟩ := th_ok h
 obtain ⟨c, u3, h3, h⟩ := th_ok h
 obtain ⟨d, u4, h4, h⟩ := th_ok h
 injection h with h; injection h with hl h; subst h; subst hl
 have f1 := fwd_o (Pr.must_fwd h1)
 have f2 := fwd_o (Pr.name_fwd h2)
 have f3 := fwd_o (Pr.must_fwd h3)
 obtain ⟨k1, k2, k3⟩ := fields_gt g _ _ _ h4 (by simp)
 refine ⟨?_, k2.trans (f3.1.trans (f2.1.trans f1.1)), k3.trans (f3.2.trans (f2.2.trans f1.2))⟩
 unfold okStruct
 simp only [Bool.and_eq_true, List.all_eq_true]
 exact ⟨name_gt g h2, k1⟩
theorem proc_gt (g : Gt t) {u v : St} {x : Pc} (h : Pr.proc t u = .ok (x, v)) (hb : u.b ≤ 400) (ho : u.o ≤ 20) : okProc x = true ∧ v.o = u.o ∧ v.b = u.b + cnt x.body ∧ v.b ≤ 400 ∧ u.o + dp x.body ≤ 20 := by
 obtain ⟨a, u1, h1, h⟩ := th_ok h
 obtain ⟨b, u2, h2, h⟩ := th_ok h
 obtain ⟨c, u3, h3, h⟩ := th_ok h
 obtain ⟨d, u4, h4, h⟩ := th_ok h
 obtain ⟨e, u5, h5, h⟩ := th_ok h
 obtain ⟨f, u6, h6, h⟩ := th_ok h
 obtain ⟨k, u7, h7, h⟩ := th_ok h
 injection h with h; injection h with hl h; subst h; subst hl
 have f1 := fwd_o (Pr.must_fwd h1)
 have f2 := fwd_o (Pr.name_fwd h2)
 have f3 := fwd_o (Pr.listed_fwd (fun _ _ _ h => Pr.variable_fwd h) h3)
 have f4 := fwd_o (Pr.must_fwd h4)
 obtain ⟨k1, k2, k3⟩ := locals_gt g _ _ _ h5 (by simp)
 have hl := listed_gt (P := fun x => okDecl x = true) (fun _ _ _ h => variable_gt g h) h3
 have o5 : u5.o = u.o := k2.trans (f4.1.trans (f3.1.trans (f2.1.trans f1.1)))
 have b5 : u5.b = u.b := k3.trans (f4.2.trans (f3.2.trans (f2.2.trans f1.2)))
 obtain ⟨s1, s2, s3, s4, s5⟩ := stmts_gt g _ _ _ _ h6 (by omega) (by omega)
 have f7 := fwd_o (Pr.must_fwd h7)
 refine ⟨?_, by rw [f7.1, s2, o5], by rw [f7.2, s3, b5], by rw [f7.2]; exact s4, by rw [← o5]; exact s5⟩
 unfold okProc
 simp only [Bool.and_eq_true, List.all_eq_true]
 exact ⟨⟨⟨name_gt g h2, hl⟩, k1⟩, s1⟩
theorem cntP_snoc : ∀ (l : List Pc) (x : Pc), cntP (l ++ [x]) = cntP l + cnt x.body
 | [], x => by simp [cntP]
 | y :: l, x => by simp only [List.cons_append, cntP, cntP_snoc l x]; omega
theorem program_gt (g : Gt t) : ∀ (n : Nat) (ss : List Sr) (gs : List Dc) (ps : List Pc) (u : St) {p : Pg} {v : St}, Pr.program t n ss gs ps u = .ok (p, v) → (∀ x ∈ ss, okStruct x = true) → (∀ x ∈ gs, okDecl x = true) → (∀ x ∈ ps, okProc x = true ∧ dp x.body ≤ 20) → u.o = 0 → u.b = cntP ps → u.b ≤ 400 → right p = true
 | 0, ss, gs, ps, u, p, v, h, _, _, _, _, _, _ => by cases h
 | n + 1, ss, gs, ps, u, p, v, h, h1, h2, h3, ho, hb, hb4 => by
  unfold Pr.program at h
  split at h
  ·injection h with h; injection h with hl h; subst h; subst hl
   unfold right okProg
   simp only [Bool.and_eq_true, List.all_eq_true, decide_eq_true_eq]
   exact ⟨⟨⟨⟨h1, h2⟩, fun x hx => (h3 x hx).1⟩, fun x hx => (h3 x hx).2⟩, by omega⟩
  ·split at h
   ·obtain ⟨x, u1, q1, h⟩ := th_ok h
    obtain ⟨k1, k2, k3⟩ := struct_gt g q1
    exact program_gt g n _ gs ps u1 h (fun z hz => by
     rcases List.mem_append.1 hz with hz | hz
     ·exact h1 z hz
     ·rw [List.mem_singleton.1 hz]; exact k1) h2 h3 (by omega) (by omega) (by omega)
   ·split at h
    ·obtain ⟨x, u1, q1, h⟩ := th_ok h
     obtain ⟨k1, k2, k3, k4, k5⟩ := proc_gt g q1 hb4 (by omega)
     exact program_gt g n ss gs _ u1 h h1 h2 (fun z hz => by
      rcases List.mem_append.1 hz with hz | hz
      ·exact h3 z hz
      ·rw [List.mem_singleton.1 hz]; exact ⟨k1, by omega⟩) (by omega) (by rw [cntP_snoc]; omega) k4
    ·obtain ⟨x, u1, q1, h⟩ := th_ok h
     have f1 := fwd_o (Pr.decl_fwd q1)
     exact program_gt g n ss _ ps u1 h h1 (fun z hz => by
      rcases List.mem_append.1 hz with hz | hz
      ·exact h2 z hz
      ·rw [List.mem_singleton.1 hz]; exact decl_gt g q1) h3 (by omega) (by omega) (by omega)
end
/-- What is read may be. -/
theorem rd_right (s : ByteArray) : right (Pr.rd s).2 = true := by
 unfold Pr.rd
 by_cases h0 : (Tx.alls s).2.2 = 0
 ·rw [if_pos h0]
  unfold Pr.whole
  split
  ·rfl
  ·rename_i a ha
   split at ha
   ·cases ha
   ·rename_i x u hx
    split at ha
    ·injection ha with ha; subst ha
     exact program_gt (alls_gt s h0) _ _ _ _ _ hx (by simp) (by simp) (by simp) rfl rfl (by show (0 : Int) ≤ 400; decide)
    ·cases ha
 ·rw [if_neg h0]; rfl
/-- What was read is printed, and that is read as it was. -/
theorem rd_again (s : ByteArray) {u : ByteArray} (hu : u.data.toList = progT (Pr.rd s).2) (hz : u.size ≤ 65536) : Pr.rd u = (0, (Pr.rd s).2.er) := rd_print (rd_right s) hu hz
end Pn
end Go.Proofs.YtdlchhimkelinaaGreatDoor
namespace Go.Proofs.YtdlchhimkelinaaGreatDoor
open Go.RowKit Go.Sort
namespace Pn
theorem cnt_count : ∀ l : SL, cnt l = (l.count : Int)
 | .nil => rfl
 | .cons _ _ _ t _ _ e r => by simp only [cnt, SL.count]; rw [cnt_count t, cnt_count e, cnt_count r]; omega
theorem deepFrom_B : ∀ (l : SL) (a : Int), l.deepFrom a = deepFromB l a
 | .nil, _ => rfl
 | .cons h _ _ t _ _ e r, a => by
  simp only [SL.deepFrom, deepFromB]
  rw [deepFrom_B t, deepFrom_B e, deepFrom_B r]
  rfl
theorem cntP_app : ∀ a b : List Pc, cntP (a ++ b) = cntP a + cntP b
 | [], b => by simp [cntP]
 | x :: a, b => by simp only [List.cons_append, cntP]; rw [cntP_app a b]; omega
theorem cntP_step (l : List Pc) (n : Nat) (h : n < l.length) : cntP (l.take (n + 1)) = cntP (l.take n) + cnt l[n].body ∧ cntP (l.take (n + 1)) ≤ cntP l ∧ cntP (l.take n) ≤ cntP l := by
 have e : l.take (n + 1) = l.take n ++ [l[n]] := (List.take_append_getElem h).symm
 have h1 : cntP (l.take (n + 1)) = cntP (l.take n) + cnt l[n].body := by rw [e, cntP_snoc]
 have h2 : cntP l = cntP (l.take (n + 1)) + cntP (l.drop (n + 1)) := by rw [← cntP_app, List.take_append_drop]
 have h3 := cntP_nn (l.drop (n + 1))
 have h4 := cnt_nn l[n].body
 exact ⟨h1, by omega, by omega⟩
end Pn
theorem size40 : (Tryz.prog.info? 40).map (·.size) = some 6 := by kernel_rfl
theorem count_may (l : SL) (p : Option Addr) (c : Nat) (w : World) (hl : sLies w p l) (hb : Pn.cnt l ≤ 400) : Calls Tryz.prog 67 #[.slice p l.len c] w fun e w' => e = .returned (.int .i64 (Pn.cnt l)) ∧ Below w.heap.size w w' := by
 have := refCnt_any l p c w hl (by rw [Pn.cnt_count] at hb; omega)
 rwa [SL.cntFrom_eq, Int.zero_add, ← Pn.cnt_count] at this
theorem deep_may (l : SL) (p : Option Addr) (c : Nat) (w : World) (hl : sLies w p l) (hb : Pn.cnt l ≤ 400) (ho : Pn.okList l = true) : Calls Tryz.prog 66 #[.slice p l.len c] w fun e w' => e = .returned (.int .i64 (Pn.dp l)) ∧ Below w.heap.size w w' := by
 have := refDeep_any l p c w hl (by rw [Pn.cnt_count] at hb; omega)
 rw [Pn.deepFrom_B, Pn.deep_dp l 0 ho (Int.le_refl _), show max 0 (Pn.dp l) = Pn.dp l from by have := Pn.dp_nn l; omega] at this
 exact this
theorem right_may (y : Pg) (w : World) (hy : pgLies w y) (ho : Pn.right y = true) :
  Calls Tryz.prog 31 #[.agg #[.slice y.structs.p y.structs.l.length y.structs.cap, .slice y.globals.p y.globals.l.length y.globals.cap, .slice y.procs.p y.procs.l.length y.procs.cap]] w fun e w' => e = .returned (.bool true) ∧ Below w.heap.size w w' := by
 simp only [Pn.right, Pn.okProg, Bool.and_eq_true, decide_eq_true_eq] at ho
 obtain ⟨⟨⟨⟨hs, hg⟩, hp⟩, hd⟩, hc⟩ := ho
 have HS := hdn hs; have HG := hdn hg; have HP := hdn hp; have HD := hdn hd; have HCN := hdn hc
 have HLS := hdn (Lay.of_sl (srs_of hy.1) (by decide))
 have HLG := hdn (Lay.of_sl (decls_of hy.2.1) (by decide))
 have HLP : Hid (Lay 6 Pc.cells pcLies w y.procs.p y.procs.l) := hdn (Lay.of_sl hy.2.2 (by decide))
 clear hs hg hp hd hc hy
 obtain ⟨wA, hwA⟩ : ∃ wA : World, wA = w.alloc (.cells #[.slice y.structs.p y.structs.l.length y.structs.cap, .slice y.globals.p y.globals.l.length y.globals.cap, .slice y.procs.p y.procs.l.length y.procs.cap] 26) := ⟨_, rfl⟩
 have HBA : Hid (Below w.heap.size w wA) := hdn (by rw [hwA]; exact (Below.refl _ _).alloc (Nat.le_refl _) _)
 have HK : Hid (Bk wA w.heap.size 26 #[.slice y.structs.p y.structs.l.length y.structs.cap, .slice y.globals.p y.globals.l.length y.globals.cap, .slice y.procs.p y.procs.l.length y.procs.cap]) := hdn (by rw [hwA]; exact heap_alloc_new _ _)
 go_enter Tryz.func31, Tryz.ntmps31
 go_upto_region 1 with fail
 rw [← hwA]
 clear hwA
 obtain ⟨A, hA⟩ : ∃ A, A = w.heap.size := ⟨_, rfl⟩
 rw [← hA] at HK ⊢
 clear hA
 have HC : Hid (∀ w', Below wA.heap.size wA w' → w'.cell? ⟨A, 0, none⟩ = some (.slice y.structs.p y.structs.l.length y.structs.cap) ∧ w'.cell? ⟨A, 1, none⟩ = some (.slice y.globals.p y.globals.l.length y.globals.cap) ∧ w'.cell? ⟨A, 2, none⟩ = some (.slice y.procs.p y.procs.l.length y.procs.cap)) :=
  hdn (fun w' hb => ⟨(HK.out.below hb HK.out.lt).cell 0, (HK.out.below hb HK.out.lt).cell 1, (HK.out.below hb HK.out.lt).cell 2⟩)
 go_wp2_with fail
 go_loopw [4] (fun i wr => ∃ n : Nat, n ≤ y.structs.l.length ∧ i = .int .i64 n ∧ Hid (Below wA.heap.size wA wr)) (fun i _ => y.structs.l.length - (intOf i).toNat)
 case atStart => exact ⟨0, Nat.zero_le _, rfl, hdn (Below.refl _ _)⟩
 case round =>
  obtain ⟨n, hn, rfl, HB⟩ := hrel
  have hlim := HLS.out.1
  have c0 := (HC.out wr HB.out).1
  by_cases hnl : n < y.structs.l.length
  ·obtain ⟨b1, o1, hpp, hx⟩ : ∃ b o, y.structs.p = some ⟨b, o, none⟩ ∧ ∀ k x, y.structs.l[k]? = some x → w.rangeAt b (o + k * 3) (Sr.cells x) ∧ srLies w x := by
    rcases HLS.out.2 with h | h
    ·rw [h] at hnl; simp at hnl
    ·exact h
   have hxn := hx n y.structs.l[n] (List.getElem?_eq_getElem hnl)
   have hok := List.all_eq_true.1 HS.out y.structs.l[n] (List.getElem_mem hnl)
   generalize y.structs.l[n] = x at hxn hok
   simp only [Pn.okStruct, Bool.and_eq_true] at hok
   have HBW := hdn (HBA.out.trans (HB.out.mono HBA.out.size))
   have HF := hdn hok.2; have HN := hdn hok.1
   have HX : Hid (∀ w', Below wr.heap.size wr w' → w'.cell? ⟨b1, o1 + n * 3, none⟩ = some (.string x.name) ∧ w'.cell? ⟨b1, o1 + n * 3 + 2, none⟩ = some (.slice x.fields.p x.fields.l.length x.fields.cap)) :=
    hdn (fun w' hb => ⟨by simpa using cell_at (rangeAt_below (rangeAt_below hxn.1 HBW.out) hb) 0 _ rfl, cell_at (rangeAt_below (rangeAt_below hxn.1 HBW.out) hb) 2 _ rfl⟩)
   have HXL : Hid (∀ w', Below wr.heap.size wr w' → Lay 3 Dc.cells triv w' x.fields.p x.fields.l) := hdn (fun w' hb => Lay.of_sl (decls_of (declsLie_below (declsLie_below hxn.2 HBW.out) hb)) (by decide))
   have x0 := (HX.out wr (Below.refl _ _)).1
   rw [hpp] at c0
   have HPP := hdn hpp
   clear hpp
   have hn0 : (0 : Int) ≤ (n : Int) := Int.natCast_nonneg _
   have hn1 : (n : Int) < (y.structs.l.length : Int) := by omega
   clear hx hxn hok
   go_wp2_with (first | (go_at_call 63; refine (names_any x.name _ _ HN.out (by simp [go_sem])).mono ?_; rintro e w1 ⟨rfl, hb0⟩; have hb := below_new hb0; have HB1 := hdn hb; have x2 := (HX.out w1 hb).2; have c1 := (HC.out w1 (HB.out.trans (hb.mono HB.out.size))).1; rw [HPP.out] at c1; clear hb hb0) | (go_at_call 64; refine (may_decls x.fields.l true _ _ _ (HXL.out _ HB1.out) (Pn.fields_decls HF.out) (fun _ => HF.out)).mono ?_; rintro e w2 ⟨rfl, hb⟩; have HB2 := hdn (HB1.out.trans (hb.mono HB1.out.size)); clear hb))
   go_roundw
   case rel => exact ⟨n + 1, by omega, by go_num, hdn (HB.out.trans (HB2.out.mono HB.out.size))⟩
   case measure => simp [intOf]; omega
  ·obtain rfl : n = y.structs.l.length := by omega
   clear hlim
   have HB0 := HB
   clear HB
   go_wp2_with fail
   clear c0
   go_loopw [3, 5] (fun v i wr => ∃ m : Nat, m ≤ y.procs.l.length ∧ i = .int .i64 m ∧ v = .int .i64 (Pn.cntP (y.procs.l.take m)) ∧ Hid (Below wA.heap.size wA wr)) (fun _ i _ => y.procs.l.length - (intOf i).toNat)
   case atStart => exact ⟨0, Nat.zero_le _, rfl, by simp [Pn.cntP], HB0⟩
   case round =>
    obtain ⟨m, hm, rfl, rfl, HB⟩ := hrel
    have hlim := HLP.out.1
    have c2 := (HC.out wr HB.out).2.2
    by_cases hml : m < y.procs.l.length
    ·obtain ⟨b1, o1, hpp, hx⟩ : ∃ b o, y.procs.p = some ⟨b, o, none⟩ ∧ ∀ k x, y.procs.l[k]? = some x → w.rangeAt b (o + k * 6) (Pc.cells x) ∧ pcLies w x := by
      rcases HLP.out.2 with h | h
      ·rw [h] at hml; simp at hml
      ·exact h
     have hxn := hx m y.procs.l[m] (List.getElem?_eq_getElem hml)
     have hok := List.all_eq_true.1 HP.out y.procs.l[m] (List.getElem_mem hml)
     have hdx := List.all_eq_true.1 HD.out y.procs.l[m] (List.getElem_mem hml)
     obtain ⟨s1, s2, s3⟩ := Pn.cntP_step y.procs.l m hml
     have s0 := Pn.cntP_nn (y.procs.l.take m)
     generalize y.procs.l[m] = x at hxn hok hdx s1
     simp only [Pn.okProc, Bool.and_eq_true, decide_eq_true_eq] at hok hdx
     obtain ⟨⟨⟨on, op⟩, ol⟩, ob⟩ := hok
     have hcn := HCN.out
     have hcx : Pn.cnt x.body ≤ 400 := by omega
     have HBW := hdn (HBA.out.trans (HB.out.mono HBA.out.size))
     have HON := hdn on; have HOP := hdn op; have HOL := hdn ol; have HOB := hdn ob; have HCX := hdn hcx
     obtain ⟨cs, hcs⟩ : ∃ cs : Array Value, cs = (Pc.cells x).toArray := ⟨_, rfl⟩
     have HRG : Hid (wr.rangeAt b1 (o1 + m * 6) cs.toList) := hdn (by rw [hcs]; exact rangeAt_below hxn.1 HBW.out)
     have HSZ : Hid ((Tryz.prog.info? 40).map (·.size) = some cs.size) := hdn (by rw [hcs]; exact size40)
     have HZ : Hid (6 = cs.size) := hdn (by rw [hcs]; rfl)
     have HONE : Hid (cs.all (·.oneCell') = true) := hdn (by rw [hcs]; simp [Value.oneCell'])
     obtain ⟨wq, hwq⟩ : ∃ wq : World, wq = wr.alloc (.cells cs 40) := ⟨_, rfl⟩
     have HBQ : Hid (Below wr.heap.size wr wq) := hdn (by rw [hwq]; exact (Below.refl _ _).alloc (Nat.le_refl _) _)
     have HKQ : Hid (Bk wq wr.heap.size 40 cs) := hdn (by rw [hwq]; exact heap_alloc_new _ _)
     have HX : Hid (∀ w', Below wq.heap.size wq w' → w'.cell? ⟨wr.heap.size, 0, none⟩ = some (.string x.name) ∧ w'.cell? ⟨wr.heap.size, 3, none⟩ = some (.slice x.params.p x.params.l.length x.params.cap) ∧ w'.cell? ⟨wr.heap.size, 4, none⟩ = some (.slice x.locals_.p x.locals_.l.length x.locals_.cap) ∧ w'.cell? ⟨wr.heap.size, 5, none⟩ = some (.slice x.bp x.body.len x.bc)) :=
      hdn (fun w' hb => by
       have hk := HKQ.out.below hb HKQ.out.lt
       rw [hcs] at hk
       exact ⟨hk.cell 0, hk.cell 3, hk.cell 4, hk.cell 5⟩)
     have HPL : Hid (∀ w', Below wq.heap.size wq w' → pcLies w' x) := hdn (fun w' hb => pcLies_below (pcLies_below (pcLies_below hxn.2 HBW.out) HBQ.out) hb)
     have HLA : Hid (∀ w', Below wq.heap.size wq w' → Lay 3 Dc.cells triv w' x.params.p x.params.l) := hdn (fun w' hb => Lay.of_sl (decls_of (HPL.out w' hb).1) (by decide))
     have HLB : Hid (∀ w', Below wq.heap.size wq w' → Lay 3 Dc.cells triv w' x.locals_.p x.locals_.l) := hdn (fun w' hb => Lay.of_sl (decls_of (HPL.out w' hb).2.1) (by decide))
     have NFA : Hid (false = true → x.params.l.all Pn.okField = true) := hdn (fun h => nomatch h)
     have NFB : Hid (false = true → x.locals_.l.all Pn.okField = true) := hdn (fun h => nomatch h)
     have HS1 := hdn s1; have HS2 := hdn s2
     have hv0 : 0 ≤ Pn.cntP (y.procs.l.take m) := s0
     have hv1 : Pn.cntP (y.procs.l.take m) ≤ 400 := by omega
     have hc0 := Pn.cnt_nn x.body
     generalize hvv : Pn.cntP (y.procs.l.take m) = vv at *
     clear s0 s1 s2 s3 hcn hvv
     rw [hpp] at c2
     clear hpp
     have hn0 : (0 : Int) ≤ (m : Int) := Int.natCast_nonneg _
     have hn1 : (m : Int) < (y.procs.l.length : Int) := by omega
     clear hx hxn on op ol ob hcs
     go_upto_region 11 with (first | ((with_reducible show wpList _ _ _ (Oper.mk (some 44) _ _ _ _ _ :: _) _ _); refine wpList_load_arr rfl 40 (.tmp 43) rfl b1 (o1 + m * 6) rfl cs _ HRG.out Tryz.underlying40 rfl HSZ.out ?_) | ((with_reducible show wpList _ _ _ (Oper.mk none (Op.store _ _ _) _ _ _ _ :: _) _ _); refine wpList_store_new rfl 40 (.tmp 6) (.tmp 44) rfl _ cs rfl rfl HSZ.out HZ.out HONE.out ?_))
     rw [← hwq]
     clear hwq c2
     obtain ⟨x0, x3, x4, x5⟩ := HX.out wq (Below.refl _ _)
     obtain ⟨Q, hQ⟩ : ∃ Q, Q = wr.heap.size := ⟨_, rfl⟩
     rw [← hQ] at HX x0 x3 x4 x5 ⊢
     clear hQ x3 x4 x5
     go_wp2_with (first | (go_at_call 63; refine (names_any x.name _ _ HON.out (by simp [go_sem])).mono ?_; rintro e w1 ⟨rfl, hb0⟩; have hb := below_new hb0; have HB1 := hdn hb; have x3 := (HX.out w1 hb).2.1; clear hb hb0) | (go_at_call 64; (with_reducible refine (may_decls x.params.l false _ _ _ (HLA.out _ HB1.out) HOP.out NFA.out).mono ?_); rintro e w2 ⟨rfl, hb⟩; have HB2 := hdn (HB1.out.trans (hb.mono HB1.out.size)); have x4 := (HX.out w2 HB2.out).2.2.1; clear hb) | (go_at_call 64; (with_reducible refine (may_decls x.locals_.l false _ _ _ (HLB.out _ HB2.out) HOL.out NFB.out).mono ?_); rintro e w3 ⟨rfl, hb⟩; have HB3 := hdn (HB2.out.trans (hb.mono HB2.out.size)); have x5 := (HX.out w3 HB3.out).2.2.2; clear hb) | (go_at_call 65; refine (may_list x.body _ _ _ (HPL.out _ HB3.out).2.2 HOB.out).mono ?_; rintro e w4 ⟨rfl, hb⟩; have HB4 := hdn (HB3.out.trans (hb.mono HB3.out.size)); have y5 := (HX.out w4 HB4.out).2.2.2; clear hb) | (go_at_call 66; refine (deep_may x.body _ _ _ (HPL.out _ HB4.out).2.2 HCX.out HOB.out).mono ?_; rintro e w5 ⟨rfl, hb⟩; have HB5 := hdn (HB4.out.trans (hb.mono HB4.out.size)); have z5 := (HX.out w5 HB5.out).2.2.2; clear hb) | (go_at_call 67; refine (count_may x.body _ _ _ (HPL.out _ HB5.out).2.2 HCX.out).mono ?_; rintro e w6 ⟨rfl, hb⟩; have HB6 := hdn (HB5.out.trans (hb.mono HB5.out.size)); clear hb))
     go_roundw
     case rel => exact ⟨m + 1, by omega, by go_num, by rw [HS1.out], hdn (HB.out.trans ((HBQ.out.trans (HB6.out.mono HBQ.out.size)).mono HB.out.size))⟩
     case measure => simp [intOf]; omega
    ·obtain rfl : m = y.procs.l.length := by omega
     rw [List.take_length]
     have hcn := HCN.out
     have hc0 := Pn.cntP_nn y.procs.l
     have c1 := (HC.out wr HB.out).2.1
     have HLG2 := hdn (HLG.out.below (HBA.out.trans (HB.out.mono HBA.out.size)) (fun _ h => h))
     generalize Pn.cntP y.procs.l = vv at *
     go_wp2_with (go_at_call 64; refine (may_decls y.globals.l false _ _ _ HLG2.out HG.out (fun h => nomatch h)).mono ?_; rintro e w6 ⟨rfl, hb⟩; have HB6 := hdn (HB.out.trans (hb.mono HB.out.size)); clear hb)
     go_ret
     exact ⟨rfl, HBA.out.trans (HB6.out.mono HBA.out.size)⟩
end Go.Proofs.YtdlchhimkelinaaGreatDoor
