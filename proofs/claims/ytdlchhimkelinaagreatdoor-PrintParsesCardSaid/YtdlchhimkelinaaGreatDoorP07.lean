/-
  Plain: what is printed of a program that may be is read as it was, but for places. Plain: places are of no weight for what is printed and for what may be. The walks of the document's "may it be a Name?" and "may these be names?". The walks of the document's "may it be?": numbers, paths, terms. The w
-/
import Derived.Test.YtdlchhimkelinaaGreatDoorP06
import Derived.Test.YtdlchhimkelinaaGreatDoorP02
import Derived.Test.YtdlchhimkelinaaGreatDoorP04
set_option maxHeartbeats 6400000
set_option maxRecDepth 100000
namespace Go.Proofs.YtdlchhimkelinaaGreatDoor
namespace Pn
open Pr (th St Res)
section
variable {t : List Pr.Tk}
theorem lines_hd {l : SL} (ho : okList l = true) {q : List K} (hq : hd q ≠ tElse) : hd (linesK l ++ q) ≠ tElse := by
 cases l with
 | nil => exact hq
 | cons h tp tc T ep ec E R =>
  simp only [okList, Bool.and_eq_true] at ho
  show hd (stK h (linesK T) (linesK E) (linesK R) ++ q) ≠ tElse
  rw [stK_app]
  rcases st_hd ho.1.1.1 (linesK T) (linesK E) (linesK R ++ q) with ⟨_, g, _⟩ | ⟨_, g0, g, _⟩ | ⟨_, g, _⟩ | ⟨_, g0, g, _⟩ | ⟨_, g, _⟩ | ⟨_, g, _⟩ | ⟨_, g, _⟩
  ·rw [g]; decide
  ·rw [g]; exact okN_ne g0 (.inl (by decide))
  ·rw [g]; decide
  ·rw [g]; exact okN_ne g0 (.inl (by decide))
  ·rw [g]; decide
  ·rw [g]; decide
  ·rw [g]; decide
theorem stmts_bk : ∀ (l : SL) (n i : Nat) (o b : Int) (q : List K), okList l = true → fu l ≤ n → b + cnt l ≤ 400 → o + dp l ≤ 20 → Rs t i (linesK l ++ mk [125] :: q) → Bk t (Pr.stmts t n ⟨i, o, b⟩) l.er o (b + cnt l) (mk [125] :: q)
 | .nil, 0, _, _, _, _, _, hn, _, _, _ => absurd hn (by simp [fu])
 | .nil, n + 1, i, o, b, q, _, _, _, _, h => by
  unfold Pr.stmts
  have h1 : Rs t i (mk [125] :: q) := h
  rw [if_neg (by rw [begins_no h1]; decide)]
  exact ⟨i, by simp [cnt, SL.er], h1⟩
 | .cons hh tp tc T ep ec E R, 0, _, _, _, _, _, hn, _, _, _ => absurd hn (by simp only [fu]; omega)
 | .cons hh tp tc T ep ec E R, n + 1, i, o, b, q, ho, hn, hb, hdp, h => by
  simp only [okList, Bool.and_eq_true] at ho
  simp only [fu] at hn
  simp only [cnt] at hb
  simp only [dp] at hdp
  have cT := cnt_nn T; have cE := cnt_nn E; have cR := cnt_nn R
  have dT := dp_nn T; have dE := dp_nn E; have dR := dp_nn R
  have h1 : Rs t i (stK hh (linesK T) (linesK E) (linesK R ++ mk [125] :: q)) := by
   have h2 : Rs t i (stK hh (linesK T) (linesK E) (linesK R) ++ mk [125] :: q) := h
   rwa [stK_app] at h2
  have hd4 : 4 ≤ hh.kind → o + 1 + dp T ≤ 20 ∧ o + 1 + dp E ≤ 20 := fun h4 => by
   rw [if_pos h4] at hdp; omega
  unfold Pr.stmts
  rw [if_pos (begins_bk ho.1.1.1 h1)]
  refine (stmt_bk ho.1.1.1 (fun h4 i q hq => stmts_bk T n i (o + 1) (b + 1) q ho.1.1.2 (by omega) (by omega) (hd4 h4).1 hq)
   (fun h4 i q hq => stmts_bk E n i (o + 1) (b + 1 + cnt T) q ho.1.2 (by omega) (by omega) (hd4 (by omega)).2 hq) (by omega) (fun h4 => by have := hd4 h4; omega) (lines_hd ho.2 (by show ([125] : List UInt8) ≠ _; decide)) h1).th fun j hj => ?_
  refine (stmts_bk R n j o (b + 1 + cnt T + cnt E) q ho.2 (by omega) (by omega) (by omega) hj).th fun m hm => ⟨m, ?_, hm⟩
  simp only [cnt, SL.er, Hd.er]
  rw [show b + (1 + cnt T + cnt E + cnt R) = b + 1 + cnt T + cnt E + cnt R by omega]
/-- The fuel that a reading has is enough. -/
theorem stK_len (h : Hd) (a e k : List K) : k.length + 1 ≤ (stK h a e k).length ∧ (4 ≤ h.kind → a.length + k.length + 2 ≤ (stK h a e k).length) ∧ (h.kind = 4 → h.both = true → e.length + k.length + 2 ≤ (stK h a e k).length) := by
 unfold stK
 split
 ·exact ⟨by simp, fun _ => by omega, fun _ => by omega⟩
 split
 ·exact ⟨by simp; omega, fun _ => by omega, fun _ => by omega⟩
 split
 ·exact ⟨by simp; omega, fun _ => by omega, fun _ => by omega⟩
 split
 ·exact ⟨by simp; omega, fun _ => by omega, fun _ => by omega⟩
 split
 ·split
  ·rename_i hb
   exact ⟨by simp; omega, fun _ => by simp; omega, fun _ _ => by simp; omega⟩
  ·rename_i hb
   exact ⟨by simp; omega, fun _ => by simp; omega, fun _ hb' => absurd hb' hb⟩
 split
 ·exact ⟨by simp; omega, fun _ => by simp; omega, fun _ => by omega⟩
 ·exact ⟨by simp; omega, fun _ => by simp; omega, fun _ => by omega⟩
theorem ok_nils {h : Hd} {T E : SL} (ho : okStmt h (isNil T) (isNil E) = true) : (4 ≤ h.kind ∨ T = .nil) ∧ ((h.kind = 4 ∧ h.both = true) ∨ E = .nil) := by
 unfold okStmt at ho
 by_cases h0 : h.kind = 0
 ·rw [if_pos h0] at ho; simp only [Bool.and_eq_true] at ho; exact ⟨.inr (nil_of ho.1.1.2), .inr (nil_of ho.1.2)⟩
 by_cases h1 : h.kind = 1
 ·rw [if_neg h0, if_pos h1] at ho; simp only [Bool.and_eq_true] at ho; exact ⟨.inr (nil_of ho.1.1.2), .inr (nil_of ho.1.2)⟩
 by_cases h2 : h.kind = 2
 ·rw [if_neg h0, if_neg h1, if_pos h2] at ho; simp only [Bool.and_eq_true] at ho; exact ⟨.inr (nil_of ho.1.1.2), .inr (nil_of ho.1.2)⟩
 by_cases h3 : h.kind = 3
 ·rw [if_neg h0, if_neg h1, if_neg h2, if_pos h3] at ho; simp only [Bool.and_eq_true] at ho; exact ⟨.inr (nil_of ho.1.1.2), .inr (nil_of ho.1.2)⟩
 by_cases h4 : h.kind = 4
 ·rw [if_neg h0, if_neg h1, if_neg h2, if_neg h3, if_pos h4] at ho
  simp only [Bool.and_eq_true, Bool.or_eq_true] at ho
  exact ⟨.inl (by omega), ho.2.elim (fun hb => .inl ⟨h4, hb⟩) fun he => .inr (nil_of he)⟩
 by_cases h5 : h.kind = 5
 ·rw [if_neg h0, if_neg h1, if_neg h2, if_neg h3, if_neg h4, if_pos h5] at ho
  simp only [Bool.and_eq_true] at ho
  exact ⟨.inl (by omega), .inr (nil_of ho.1.2)⟩
 by_cases h6 : h.kind = 6
 ·rw [if_neg h0, if_neg h1, if_neg h2, if_neg h3, if_neg h4, if_neg h5, if_pos h6] at ho
  simp only [Bool.and_eq_true] at ho
  exact ⟨.inl (by omega), .inr (nil_of ho.1.2)⟩
 rw [if_neg h0, if_neg h1, if_neg h2, if_neg h3, if_neg h4, if_neg h5, if_neg h6] at ho
 cases ho
theorem fu_len : ∀ l : SL, okList l = true → fu l ≤ (linesK l).length + 1
 | .nil, _ => Nat.le_refl _
 | .cons h tp tc T ep ec E R, ho => by
  simp only [okList, Bool.and_eq_true] at ho
  have fT := fu_len T ho.1.1.2
  have fE := fu_len E ho.1.2
  have fR := fu_len R ho.2
  obtain ⟨s1, s2, s3⟩ := stK_len h (linesK T) (linesK E) (linesK R)
  obtain ⟨n1, n2⟩ := ok_nils ho.1.1.1
  simp only [fu, linesK]
  have t1 : fu T ≤ (stK h (linesK T) (linesK E) (linesK R)).length := by
   rcases n1 with n1 | n1
   ·have := s2 n1; omega
   ·rw [n1]; show 1 ≤ _; rw [n1] at s1; omega
  have e1 : fu E ≤ (stK h (linesK T) (linesK E) (linesK R)).length := by
   rcases n2 with n2 | n2
   ·have := s3 n2.1 n2.2; omega
   ·rw [n2]; show 1 ≤ _; rw [n2] at s1; omega
  omega
/- Programs. -/
theorem lines_nodecl {l : SL} (ho : okList l = true) (q : List K) : NoDecl (linesK l ++ mk [125] :: q) := by
 cases l with
 | nil => exact ⟨by show ([125] : List UInt8) ≠ _; decide, .inl (by show ¬ (4 : Int) = 1; decide)⟩
 | cons h tp tc T ep ec E R =>
  simp only [okList, Bool.and_eq_true] at ho
  show NoDecl (stK h (linesK T) (linesK E) (linesK R) ++ mk [125] :: q)
  rw [stK_app]
  unfold NoDecl
  rcases st_hd ho.1.1.1 (linesK T) (linesK E) (linesK R ++ mk [125] :: q) with ⟨_, g, k⟩ | ⟨_, g0, g, k, u⟩ | ⟨_, g, k⟩ | ⟨_, g0, g, k, u⟩ | ⟨_, g, k⟩ | ⟨_, g, k⟩ | ⟨_, g, k⟩
  ·rw [g, k]; exact ⟨by decide, .inl (by decide)⟩
  ·rw [g]; refine ⟨okN_ne g0 (.inl (by decide)), .inr ?_⟩; rcases u with u | u <;> rw [u] <;> decide
  ·rw [g, k]; exact ⟨by decide, .inl (by decide)⟩
  ·rw [g, u]; exact ⟨okN_ne g0 (.inl (by decide)), .inr (by decide)⟩
  ·rw [g, k]; exact ⟨by decide, .inl (by decide)⟩
  ·rw [g, k]; exact ⟨by decide, .inl (by decide)⟩
  ·rw [g, k]; exact ⟨by decide, .inl (by decide)⟩
theorem struct_bk {x : Sr} {i : Nat} {o b : Int} {r : List K} (ho : okStruct x = true) (h : Rs t i (ky tStruct :: nm x.name :: mk [123] :: fieldsK x.fields.l (mk [125] :: r))) : Bk t (Pr.structure_ t ⟨i, o, b⟩) x.er o b r := by
 unfold okStruct at ho
 simp only [Bool.and_eq_true] at ho
 unfold Pr.structure_
 refine (must_bk h rfl).th fun j hj => ?_
 refine (name_bk hj).th fun m hm => ?_
 refine (must_bk hm rfl).th fun n hn => ?_
 have hl := hn.len
 have := fields_len x.fields.l (mk [125] :: r)
 refine (fields_bk x.fields.l _ [] n ho.2 (by omega) hn).th fun k hk => ⟨k, ?_, hk⟩
 rw [nm_text]; rfl
theorem decl_hd {d : Dc} (ho : okDecl d = true) {a : List UInt8} (ha : Tx.isKeyL a = true) (h2 : a ≠ tInt) (r : List K) : hd (declK d ++ r) ≠ a := by
 unfold okDecl at ho
 simp only [Bool.and_eq_true, Bool.or_eq_true, decide_eq_true_eq] at ho
 unfold declK
 by_cases h0 : txt d.type = []
 ·rw [if_pos h0]; exact fun e => h2 e.symm
 ·rw [if_neg h0]; exact okN_ne (ho.2.resolve_left h0) (.inl ha)
theorem decl_hd1 {d : Dc} (ho : okDecl d = true) (r : List K) : hd (declK d ++ r) ≠ [41] := by
 unfold okDecl at ho
 simp only [Bool.and_eq_true, Bool.or_eq_true, decide_eq_true_eq] at ho
 unfold declK
 by_cases h0 : txt d.type = []
 ·rw [if_pos h0]; show tInt ≠ _; decide
 ·rw [if_neg h0]; exact okN_ne (ho.2.resolve_left h0) (.inr (notword (by rfl) _))
theorem decl_kd {d : Dc} (r : List K) : kd (declK d ++ r) ≠ 0 := by
 unfold declK; split
 ·show ¬ (3 : Int) = 0; decide
 ·show ¬ (1 : Int) = 0; decide
theorem proc_bk {x : Pc} {i : Nat} {o b : Int} {r : List K} (ho : okProc x = true) (hb : b + cnt x.body ≤ 400) (hdp : o + dp x.body ≤ 20)
  (h : Rs t i (ky tVoid :: nm x.name :: mk [40] :: (commaK declK x.params.l ++ mk [41] :: mk [123] :: fieldsK x.locals_.l (linesK x.body ++ mk [125] :: r)))) : Bk t (Pr.proc t ⟨i, o, b⟩) x.er o (b + cnt x.body) r := by
 unfold okProc at ho
 simp only [Bool.and_eq_true] at ho
 unfold Pr.proc
 refine (must_bk h rfl).th fun j hj => ?_
 refine (name_bk hj).th fun m hm => ?_
 refine (listed_bk (e := Dc.er) x.params.l (fun d hd i q hq _ => variable_bk (List.all_eq_true.1 ho.1.1.2 d hd) hq) (fun d hd q => decl_hd1 (List.all_eq_true.1 ho.1.1.2 d hd) q) hm).th fun n hn => ?_
 refine (must_bk hn rfl).th fun k hk => ?_
 have hl := hk.len
 have := fields_len x.locals_.l (linesK x.body ++ mk [125] :: r)
 refine (locals_bk (lines_nodecl ho.2 r) x.locals_.l _ [] k ho.1.2 (by omega) hk).th fun y hy => ?_
 have hl2 := hy.len
 have hf := fu_len x.body ho.2
 rw [List.length_append] at hl2
 refine (stmts_bk x.body (t.length + 1) y o b r ho.2 (by omega) hb hdp hy).th fun z hz => ?_
 refine (must_bk hz rfl).th fun v hv => ⟨v, ?_, hv⟩
 rw [nm_text]; rfl
def cntP : List Pc → Int
 | [] => 0
 | x :: l => cnt x.body + cntP l
theorem cntP_nn : ∀ l : List Pc, 0 ≤ cntP l
 | [] => Int.le_refl _
 | x :: l => by have := cnt_nn x.body; have := cntP_nn l; simp only [cntP]; omega
def endK : List K := [(0, [], 0)]
theorem prog_procs {ss : List Sr} {gs : List Dc} : ∀ (l : List Pc) (n : Nat) (ps : List Pc) (i : Nat) (b : Int), l.all okProc = true → (∀ p ∈ l, dp p.body ≤ 20) → b + cntP l ≤ 400 → l.length < n → Rs t i (procsK l ++ endK) →
  Bk t (Pr.program t n ss gs ps ⟨i, 0, b⟩) ⟨⟨none, 0, ss⟩, ⟨none, 0, gs⟩, ⟨none, 0, ps ++ l.map Pc.er⟩⟩ 0 (b + cntP l) endK
 | [], 0, _, _, _, _, _, _, hn, _ => absurd hn (by simp)
 | [], n + 1, ps, i, b, _, _, _, _, h => by
  unfold Pr.program
  have h1 : Rs t i endK := h
  have hk : (Pr.sg t i).kind = 0 := h1.kind
  rw [if_pos hk]
  exact ⟨i, by simp [cntP], h1⟩
 | x :: l, 0, _, _, _, _, _, _, hn, _ => absurd hn (by simp)
 | x :: l, n + 1, ps, i, b, ho, hd20, hb, hn, h => by
  simp only [List.all_cons, Bool.and_eq_true] at ho
  simp only [cntP] at hb
  have := cntP_nn l
  have h1 : Rs t i (ky tVoid :: nm x.name :: mk [40] :: (commaK declK x.params.l ++ mk [41] :: mk [123] :: fieldsK x.locals_.l (linesK x.body ++ mk [125] :: (procsK l ++ endK)))) := by
   have e : ∀ (l : List Dc) (k q : List K), fieldsK l k ++ q = fieldsK l (k ++ q) := by
    intro l k q; induction l with
    | nil => rfl
    | cons y l ih => simp only [fieldsK, List.append_assoc, List.cons_append, ih]
   have h2 := h
   simp only [procsK, List.cons_append, List.append_assoc, e] at h2
   exact h2
  unfold Pr.program
  have hk : (Pr.sg t i).kind = 3 := h1.kind
  rw [if_neg (by show ¬ (Pr.sg t i).kind = 0; rw [hk]; decide), if_neg (by rw [h1.no (s := ⟨#[115, 116, 114, 117, 99, 116]⟩) (by decide)]; decide), if_pos (h1.is_yes rfl)]
  refine (proc_bk ho.1 (by omega) (by have := hd20 x List.mem_cons_self; omega) h1).th fun j hj => ?_
  obtain ⟨m, e1, e2⟩ := prog_procs (ss := ss) (gs := gs) l n (ps ++ [x.er]) j (b + cnt x.body) ho.2 (fun p hp => hd20 p (List.mem_cons_of_mem _ hp)) (by omega) (by simpa using hn) hj
  refine ⟨m, ?_, e2⟩
  rw [e1]
  simp only [cntP, List.map_cons, List.append_assoc, List.singleton_append]
  rw [show b + (cnt x.body + cntP l) = b + cnt x.body + cntP l by omega]
theorem fieldsK_app : ∀ (l : List Dc) (k q : List K), fieldsK l k ++ q = fieldsK l (k ++ q)
 | [], k, q => rfl
 | y :: l, k, q => by simp only [fieldsK, List.append_assoc, List.cons_append, fieldsK_app l k q]
theorem prog_globals {ss : List Sr} {ps : List Pc} (hps : ps.all okProc = true) (hd20 : ∀ p ∈ ps, dp p.body ≤ 20) (hb : cntP ps ≤ 400) : ∀ (l : List Dc) (n : Nat) (gs : List Dc) (i : Nat), l.all okDecl = true → l.length + ps.length < n → Rs t i (fieldsK l (procsK ps ++ endK)) →
  Bk t (Pr.program t n ss gs [] ⟨i, 0, 0⟩) ⟨⟨none, 0, ss⟩, ⟨none, 0, gs ++ l.map Dc.er⟩, ⟨none, 0, ps.map Pc.er⟩⟩ 0 (cntP ps) endK
 | [], n, gs, i, _, hn, h => by
  have := prog_procs (t := t) (ss := ss) (gs := gs) ps n [] i 0 hps hd20 (by omega) (by simpa using hn) h
  simpa using this
 | x :: l, 0, _, _, _, hn, _ => absurd hn (by simp)
 | x :: l, n + 1, gs, i, ho, hn, h => by
  simp only [List.all_cons, Bool.and_eq_true] at ho
  have h1 : Rs t i (declK x ++ mk [59] :: fieldsK l (procsK ps ++ endK)) := h
  unfold Pr.program
  rw [if_neg (by show ¬ (Pr.sg t i).kind = 0; rw [h1.kind]; exact decl_kd _), if_neg (by rw [h1.is_no (s := ⟨#[115, 116, 114, 117, 99, 116]⟩) (decl_hd ho.1 (by decide) (by decide) _)]; decide), if_neg (by rw [h1.is_no (s := ⟨#[118, 111, 105, 100]⟩) (decl_hd ho.1 (by decide) (by decide) _)]; decide)]
  refine (decl_bk ho.1 h1).th fun j hj => ?_
  have := prog_globals (ss := ss) hps hd20 hb l n (gs ++ [x.er]) j ho.2 (by simp at hn; omega) hj
  rwa [List.append_assoc] at this
theorem prog_structs {gs : List Dc} {ps : List Pc} (hgs : gs.all okDecl = true) (hps : ps.all okProc = true) (hd20 : ∀ p ∈ ps, dp p.body ≤ 20) (hb : cntP ps ≤ 400) : ∀ (l : List Sr) (n : Nat) (ss : List Sr) (i : Nat), l.all okStruct = true → l.length + gs.length + ps.length < n → Rs t i (structsK l (fieldsK gs (procsK ps ++ endK))) →
  Bk t (Pr.program t n ss [] [] ⟨i, 0, 0⟩) ⟨⟨none, 0, ss ++ l.map Sr.er⟩, ⟨none, 0, gs.map Dc.er⟩, ⟨none, 0, ps.map Pc.er⟩⟩ 0 (cntP ps) endK
 | [], n, ss, i, _, hn, h => by
  have := prog_globals (t := t) (ss := ss) hps hd20 hb gs n [] i hgs (by simpa using hn) h
  simpa using this
 | x :: l, 0, _, _, _, hn, _ => absurd hn (by simp)
 | x :: l, n + 1, ss, i, ho, hn, h => by
  simp only [List.all_cons, Bool.and_eq_true] at ho
  have h1 : Rs t i (ky tStruct :: nm x.name :: mk [123] :: fieldsK x.fields.l (mk [125] :: structsK l (fieldsK gs (procsK ps ++ endK)))) := h
  unfold Pr.program
  have hk : (Pr.sg t i).kind = 3 := h1.kind
  rw [if_neg (by show ¬ (Pr.sg t i).kind = 0; rw [hk]; decide), if_pos (h1.is_yes rfl)]
  refine (struct_bk ho.1 h1).th fun j hj => ?_
  have := prog_structs hgs hps hd20 hb l n (ss ++ [x.er]) j ho.2 (by simp at hn; omega) hj
  rwa [List.append_assoc] at this
end
/-- Is a program as a text's is? -/
def right (p : Pg) : Bool := okProg p && p.procs.l.all (fun q => decide (dp q.body ≤ 20)) && decide (cntP p.procs.l ≤ 400)
theorem structsK_app : ∀ (l : List Sr) (k q : List K), structsK l k ++ q = structsK l (k ++ q)
 | [], k, q => rfl
 | y :: l, k, q => by simp only [structsK, List.cons_append, fieldsK_app, structsK_app l k q]
theorem structs_len : ∀ (l : List Sr) (k : List K), l.length + k.length ≤ (structsK l k).length
 | [], k => by simp [structsK]
 | x :: l, k => by
  have h1 := structs_len l k
  have h2 : ∀ (l : List Dc) (k : List K), k.length ≤ (fieldsK l k).length := by
   intro l k; induction l with
   | nil => exact Nat.le_refl _
   | cons y l ih => simp only [fieldsK, List.length_append, List.length_cons]; omega
  have h3 := h2 x.fields.l (mk [125] :: structsK l k)
  simp only [structsK, List.length_cons] at h3 ⊢; omega
theorem fieldsK_len : ∀ (l : List Dc) (k : List K), l.length + k.length ≤ (fieldsK l k).length
 | [], k => by simp [fieldsK]
 | y :: l, k => by have := fieldsK_len l k; simp only [fieldsK, List.length_append, List.length_cons]; omega
theorem procsK_len : ∀ l : List Pc, l.length ≤ (procsK l).length
 | [] => Nat.le_refl _
 | x :: l => by
  have h1 := procsK_len l
  have h3 := fieldsK_len x.locals_.l (linesK x.body ++ mk [125] :: procsK l)
  simp only [procsK, List.length_cons, List.length_append] at h3 ⊢; omega
/-- What is printed is read as it was, but for places. -/
theorem rd_print {p : Pg} (h : right p = true) {s : ByteArray} (hs : s.data.toList = progT p) (hz : s.size ≤ 65536) : Pr.rd s = (0, p.er) := by
 simp only [right, Bool.and_eq_true, decide_eq_true_eq, List.all_eq_true] at h
 obtain ⟨⟨h1, h2⟩, h3⟩ := h
 obtain ⟨e1, e2⟩ := alls_prog h1 hs hz
 simp only [okProg, Bool.and_eq_true] at h1
 have ht : (Tx.alls s).1.map Pr.tk = (progK p ++ endK).map toTk := by
  have : (Tx.alls s).1.map Pr.tk = ((Tx.alls s).1.map Tx.key).map toTk := by rw [List.map_map]; rfl
  rw [this, e2]; rfl
 have hl : p.structs.l.length + p.globals.l.length + p.procs.l.length ≤ (progK p).length := by
  have a := structs_len p.structs.l (fieldsK p.globals.l (procsK p.procs.l))
  have b := fieldsK_len p.globals.l (procsK p.procs.l)
  have c := procsK_len p.procs.l
  unfold progK; omega
 obtain ⟨i, q1, q2⟩ := prog_structs (t := (progK p ++ endK).map toTk) h1.1.2 h1.2 h2 h3 p.structs.l (((progK p ++ endK).map toTk).length + 1) [] 0 h1.1.1 (by rw [List.length_map, List.length_append]; omega)
  (by unfold Rs; rw [List.drop_zero]; unfold progK; rw [structsK_app, fieldsK_app])
 unfold Pr.rd
 rw [if_pos e1, ht]
 unfold Pr.whole
 rw [q1]
 have hk : (Pr.sg ((progK p ++ endK).map toTk) i).kind = 0 := q2.kind
 simp only [hk, if_true]
 rfl
end Pn
end Go.Proofs.YtdlchhimkelinaaGreatDoor
namespace Go.Proofs.YtdlchhimkelinaaGreatDoor
namespace Pn
theorem hopsT_er : ∀ l : List Hp, hopsT (l.map Hp.er) = hopsT l
 | [] => rfl
 | h :: l => by simp only [List.map_cons, hopsT, hopsT_er l]; rfl
theorem pathT_er (w : Pth) : pathT w.er = pathT w := by unfold pathT; show _ ++ hopsT (w.hops.l.map Hp.er) = _; rw [hopsT_er]; rfl
theorem okPath_er (w : Pth) : okPath w.er = okPath w := by
 unfold okPath
 show (okN w.name && decide ((w.hops.l.map Hp.er).length ≤ 8) && (w.hops.l.map Hp.er).all fun h => okN h.name) = _
 rw [List.length_map, List.all_map]; rfl
theorem noP_er' (w : Pth) : noP w.er = noP w := by
 unfold noP
 show (decide (txt w.name = []) && decide (w.hops.l.map Hp.er = [])) = _
 simp only [List.map_eq_nil_iff]
theorem valT_er (v : Vl) : valT v.er = valT v := by
 unfold valT
 show (if v.kind = 0 then tNull else if v.kind = 1 then pathT v.path.er else _) = _
 rw [pathT_er]; rfl
theorem okVal_er (v : Vl) : okVal v.er = okVal v := by
 unfold okVal
 show (if v.kind = 0 ∨ v.kind = 3 then noP v.path.er && _ && _ && _ else if v.kind = 1 then _ && _ && _ && okPath v.path.er else if v.kind = 2 then noP v.path.er && _ && _ && _ else if v.kind = 4 then noP v.path.er && _ && _ && _ && _ else if v.kind = 5 ∨ v.kind = 6 then noP v.path.er && _ && _ && _ else false) = _
 rw [noP_er', okPath_er]; rfl
theorem okSide_er (v : Vl) : okSide v.er = okSide v := by unfold okSide; rw [okVal_er]; rfl
theorem noVal_er' (v : Vl) : noVal v.er = noVal v := by unfold noVal; rw [okVal_er]; rfl
theorem condT_er (c : Cd) : condT c.er = condT c := by
 unfold condT
 show (if c.kind = 0 then _ else valT c.left.er ++ _ ++ _ ++ _ ++ valT c.right.er) = _
 rw [valT_er, valT_er]; rfl
theorem noCond_er' (c : Cd) : noCond c.er = noCond c := by
 unfold noCond
 show (_ && noVal c.left.er && noVal c.right.er) = _
 rw [noVal_er', noVal_er']; rfl
theorem okCond_er (c : Cd) : okCond c.er = okCond c := by
 unfold okCond
 rw [noCond_er']
 show (if c.kind = 0 then _ else _ && _ && okSide c.left.er && okSide c.right.er) = _
 rw [okSide_er, okSide_er]; rfl
theorem commaT_er {α : Type} {f : α → List UInt8} {e : α → α} (h : ∀ a, f (e a) = f a) : ∀ l : List α, commaT f (l.map e) = commaT f l
 | [] => rfl
 | [a] => h a
 | a :: b :: l => by
  have := commaT_er h (b :: l)
  simp only [List.map_cons] at this ⊢
  simp only [commaT, this, h a]
theorem stT_er (h : Hd) (t e : List UInt8) (d : Nat) (k : List UInt8) : stT h.er t e d k = stT h t e d k := by
 unfold stT
 show (if h.kind = 0 then _ else if h.kind = 1 then pathT h.place.er ++ 32 :: 61 :: 32 :: (valT h.value.er ++ _) else if h.kind = 2 then tFree ++ 40 :: (pathT h.place.er ++ _) else if h.kind = 3 then txt h.name ++ 40 :: (commaT valT (h.args.l.map Vl.er) ++ _) else if h.kind = 4 then tIf ++ 32 :: 40 :: (condT h.cond.er ++ _) else if h.kind = 5 then tWhile ++ 32 :: 40 :: (condT h.cond.er ++ _) else _) = _
 rw [pathT_er, valT_er, commaT_er valT_er, condT_er]; rfl
theorem linesT_er : ∀ (l : SL) (d : Nat), linesT l.er d = linesT l d
 | .nil, _ => rfl
 | .cons h _ _ t _ _ e r, d => by simp only [SL.er, linesT, stT_er, linesT_er t, linesT_er e, linesT_er r]
theorem noCall_er' (h : Hd) : noCall h.er = noCall h := by
 unfold noCall
 show (decide (txt h.name = []) && decide (h.args.l.map Vl.er = [])) = _
 simp only [List.map_eq_nil_iff]
theorem all_er {α : Type} {f : α → Bool} {e : α → α} (h : ∀ a, f (e a) = f a) (l : List α) : (l.map e).all f = l.all f := by
 rw [List.all_map]; congr 1; funext a; exact h a
theorem okStmt_er (h : Hd) (t0 e0 : Bool) : okStmt h.er t0 e0 = okStmt h t0 e0 := by
 unfold okStmt
 rw [noCall_er']
 show (if h.kind = 0 then noP h.place.er && noVal h.value.er && noCond h.cond.er && _ && _ && _ && _ else if h.kind = 1 then okPath h.place.er && okVal h.value.er && noCond h.cond.er && _ && _ && _ && _ else if h.kind = 2 then okPath h.place.er && noVal h.value.er && noCond h.cond.er && _ && _ && _ && _
  else if h.kind = 3 then (h.args.l.map Vl.er).all okSide && noP h.place.er && noVal h.value.er && noCond h.cond.er && _ && _ && _ && _ else if h.kind = 4 then noP h.place.er && noVal h.value.er && okCond h.cond.er && _ && _ else if h.kind = 5 then noP h.place.er && noVal h.value.er && okCond h.cond.er && _ && _ && _ else if h.kind = 6 then noP h.place.er && noVal h.value.er && noCond h.cond.er && _ && _ && _ else false) = _
 rw [noP_er', noVal_er', noCond_er', okPath_er, okVal_er, okCond_er, all_er okSide_er]; rfl
theorem isNil_er (l : SL) : isNil l.er = isNil l := by cases l <;> rfl
theorem okList_er : ∀ l : SL, okList l.er = okList l
 | .nil => rfl
 | .cons h _ _ t _ _ e r => by simp only [SL.er, okList, okStmt_er, isNil_er, okList_er t, okList_er e, okList_er r]
theorem cnt_er : ∀ l : SL, cnt l.er = cnt l
 | .nil => rfl
 | .cons h _ _ t _ _ e r => by simp only [SL.er, cnt, cnt_er t, cnt_er e, cnt_er r]
theorem dp_er : ∀ l : SL, dp l.er = dp l
 | .nil => rfl
 | .cons h _ _ t _ _ e r => by simp only [SL.er, dp, dp_er t, dp_er e, dp_er r, Hd.er]
theorem declT_er (d : Dc) : declT d.er = declT d := rfl
theorem okDecl_er (d : Dc) : okDecl d.er = okDecl d := rfl
theorem fieldsT_er (n : Nat) (k : List UInt8) : ∀ l : List Dc, fieldsT n (l.map Dc.er) k = fieldsT n l k
 | [] => rfl
 | x :: l => by simp only [List.map_cons, fieldsT, fieldsT_er n k l]; rfl
theorem structsT_er (k : List UInt8) : ∀ l : List Sr, structsT (l.map Sr.er) k = structsT l k
 | [] => rfl
 | x :: l => by
  simp only [List.map_cons, structsT, structsT_er k l]
  show tStruct ++ 32 :: (txt x.name ++ 32 :: 123 :: 10 :: fieldsT 1 (x.fields.l.map Dc.er) _) = _
  rw [fieldsT_er]
theorem procsT_er : ∀ l : List Pc, procsT (l.map Pc.er) = procsT l
 | [] => rfl
 | x :: l => by
  simp only [List.map_cons, procsT, procsT_er l]
  show tVoid ++ 32 :: (txt x.name ++ 40 :: (commaT declT (x.params.l.map Dc.er) ++ 41 :: 32 :: 123 :: 10 :: fieldsT 1 (x.locals_.l.map Dc.er) (linesT x.body.er 1 ++ _))) = _
  rw [commaT_er declT_er, fieldsT_er, linesT_er]
theorem progT_er (p : Pg) : progT p.er = progT p := by
 unfold progT
 show structsT (p.structs.l.map Sr.er) (fieldsT 0 (p.globals.l.map Dc.er) (procsT (p.procs.l.map Pc.er))) = _
 rw [structsT_er, fieldsT_er, procsT_er]
theorem okStruct_er (x : Sr) : okStruct x.er = okStruct x := by
 unfold okStruct
 show (okN x.name && (x.fields.l.map Dc.er).all okField) = _
 rw [all_er (f := okField) (e := Dc.er) (fun _ => rfl)]
theorem okProc_er (x : Pc) : okProc x.er = okProc x := by
 unfold okProc
 show (okN x.name && (x.params.l.map Dc.er).all okDecl && (x.locals_.l.map Dc.er).all okDecl && okList x.body.er) = _
 rw [all_er okDecl_er, all_er okDecl_er, okList_er]
theorem cntP_er : ∀ l : List Pc, cntP (l.map Pc.er) = cntP l
 | [] => rfl
 | x :: l => by simp only [List.map_cons, cntP, cntP_er l]; show cnt x.body.er + _ = _; rw [cnt_er]
theorem right_er (p : Pg) : right p.er = right p := by
 unfold right okProg
 show ((p.structs.l.map Sr.er).all okStruct && (p.globals.l.map Dc.er).all okDecl && (p.procs.l.map Pc.er).all okProc && (p.procs.l.map Pc.er).all (fun q => decide (dp q.body ≤ 20)) && decide (cntP (p.procs.l.map Pc.er) ≤ 400)) = _
 rw [all_er okStruct_er, all_er okDecl_er, all_er okProc_er, all_er (f := fun q : Pc => decide (dp q.body ≤ 20)) (e := Pc.er) (fun q => by show decide (dp q.body.er ≤ 20) = _; rw [dp_er]), cntP_er]
end Pn
end Go.Proofs.YtdlchhimkelinaaGreatDoor
namespace Go.Proofs.YtdlchhimkelinaaGreatDoor
open Go.RowKit Go.Sort
namespace Tx
def headL (s : ByteArray) : Bool := if h : 0 < s.size then ltr (s[0].toNat : Int) else false
/-- May it be a Name? -/
def nameB (s : ByteArray) : Bool := decide (s.size ≤ 16) && headL s && decide (wend wrd s 0 = s.size) && !isKey s
theorem headL_eq (s : ByteArray) (h : 0 < s.size) : headL s = ltr (s[0].toNat : Int) := by unfold headL; rw [dif_pos h]
end Tx
theorem toList_ne (s : ByteArray) (h : 0 < s.size) : (s.toList == []) = false := by
 rw [Lib.toList_data]
 rw [Bool.eq_false_iff]
 intro e
 have := Tx.len_eq s
 rw [beq_iff_eq] at e
 rw [e] at this
 simp at this
 omega
theorem isNameRef_any (s : ByteArray) (w : World) (hs : s.size ≤ 5000000) :
  Calls Tryz.prog 106 #[.string s] w fun e w' => e = .returned (.bool (Tx.nameB s)) ∧ Below w.heap.size w w' := by
 by_cases h0 : s.size = 0
 ·obtain rfl := Tx.empty_of s h0
  clear h0
  go_enter Tryz.func106, Tryz.ntmps106
  go_wp2
  go_ret
  exact ⟨rfl, Below.refl _ _⟩
 ·have h1 : 0 < s.size := by omega
  have hw := hdn (Tx.headL_eq s h1)
  have hz : ((s.size : Int) == 0) = false := by rw [Bool.eq_false_iff]; intro e; rw [beq_iff_eq] at e; omega
  clear h0
  by_cases h16 : s.size ≤ 16
  ·cases hl : Tx.ltr (s[0].toNat : Int)
   ·have HE : Hid (Tx.nameB s = false) := hdn (by unfold Tx.nameB; rw [hw.out, hl]; simp)
    go_enter Tryz.func106, Tryz.ntmps106
    go_wp2_with (first | (go_at_call 126; refine (letter_any _ _).mono ?_; rintro e w' ⟨rfl, rfl⟩) | (go_at_call 127; refine (digit_any _ _).mono ?_; rintro e w' ⟨rfl, rfl⟩))
    go_ret
    exact ⟨ret_bool HE.out.symm, Below.refl _ _⟩
   ·cases hk : Tx.isKey s
    ·have HE : Hid (Tx.nameB s = decide (Tx.wend Tx.wrd s 0 = s.size)) := hdn (by unfold Tx.nameB; rw [hw.out, hl, hk, decide_eq_true h16]; simp)
     go_enter Tryz.func106, Tryz.ntmps106
     go_wp2_with (first | (go_at_call 126; refine (letter_any _ _).mono ?_; rintro e w' ⟨rfl, rfl⟩) | (go_at_call 128; refine (isKeyRef_any _ _).mono ?_; rintro e w1 ⟨rfl, hb⟩; have HB := hdn hb; clear hb))
     clear hk hl
     go_loop [3] (fun v => ∃ k : Nat, k ≤ s.size ∧ v = .int .i64 k ∧ Hid (Tx.wend Tx.wrd s k = Tx.wend Tx.wrd s 0)) (fun v => s.size - (intOf v).toNat)
     case atStart => exact ⟨0, by omega, rfl, rfl⟩
     case round =>
      obtain ⟨k, hk, rfl, HR⟩ := hrel
      by_cases hlt : k < s.size
      ·cases hl : Tx.ltr (s[k].toNat : Int)
       ·cases hd : Tx.dgt (s[k].toNat : Int)
        ·have HO := hdn (Tx.wend_out Tx.wrd s k hlt (by unfold Tx.wrd; rw [hl, hd]; rfl))
         go_wp2_with (first | (go_at_call 126; refine (letter_any _ _).mono ?_; rintro e w' ⟨rfl, rfl⟩) | (go_at_call 127; refine (digit_any _ _).mono ?_; rintro e w' ⟨rfl, rfl⟩))
         go_ret
         exact ⟨ret_bool (by rw [HE.out, ← HR.out, HO.out, decide_eq_false (by omega)]), HB.out⟩
        ·have HO := hdn (Tx.wend_in Tx.wrd s k hlt (by unfold Tx.wrd; rw [hl, hd]; rfl))
         go_wp2_with (first | (go_at_call 126; refine (letter_any _ _).mono ?_; rintro e w' ⟨rfl, rfl⟩) | (go_at_call 127; refine (digit_any _ _).mono ?_; rintro e w' ⟨rfl, rfl⟩))
         go_round
         case rel => exact ⟨k + 1, by omega, by go_num, HO.out.trans HR.out⟩
         case measure => simp [intOf]; omega
       ·have HO := hdn (Tx.wend_in Tx.wrd s k hlt (by unfold Tx.wrd; rw [hl]; rfl))
        go_wp2_with (first | (go_at_call 126; refine (letter_any _ _).mono ?_; rintro e w' ⟨rfl, rfl⟩) | (go_at_call 127; refine (digit_any _ _).mono ?_; rintro e w' ⟨rfl, rfl⟩))
        go_round
        case rel => exact ⟨k + 1, by omega, by go_num, HO.out.trans HR.out⟩
        case measure => simp [intOf]; omega
      ·have HO := hdn (Tx.wend_end Tx.wrd s k (by omega))
       go_wp2_with fail
       go_ret
       exact ⟨ret_bool (by rw [HE.out, ← HR.out, HO.out, decide_eq_true (by omega)]), HB.out⟩
    ·have HE : Hid (Tx.nameB s = false) := hdn (by unfold Tx.nameB; rw [hk]; simp)
     go_enter Tryz.func106, Tryz.ntmps106
     go_wp2_with (first | (go_at_call 126; refine (letter_any _ _).mono ?_; rintro e w' ⟨rfl, rfl⟩) | (go_at_call 128; refine (isKeyRef_any _ _).mono ?_; rintro e w1 ⟨rfl, hb⟩; have HB := hdn hb; clear hb))
     go_ret
     exact ⟨ret_bool HE.out.symm, HB.out⟩
  ·have HE : Hid (Tx.nameB s = false) := hdn (by unfold Tx.nameB; rw [decide_eq_false h16]; simp)
   go_enter Tryz.func106, Tryz.ntmps106
   go_wp2_with fail
   go_ret
   exact ⟨ret_bool HE.out.symm, Below.refl _ _⟩
namespace Pn
theorem okN_nameB {x : ByteArray} (h : okN x = true) : x.size ≤ 16 ∧ Tx.nameB x = true := by
 obtain ⟨⟨⟨b, l, e1, e2⟩, e3, e4⟩, e5⟩ := okN_word h
 have hs : x.size ≤ 16 := by have := Tx.len_eq x; unfold txt at e4; omega
 refine ⟨hs, ?_⟩
 have hr := Tx.run_all Tx.wrd (txt x) [] e3 (fun b hb => by cases hb)
 rw [List.append_nil] at hr
 have hlen : (txt x).length = x.size := Tx.len_eq x
 have h0 : 0 < x.size := by rw [← hlen, e1]; simp
 have hw : Tx.wend Tx.wrd x 0 = x.size := by
  unfold Tx.wend
  rw [List.drop_zero]
  show 0 + Tx.run Tx.wrd (txt x) = _
  rw [hr, hlen, Nat.zero_add]
 have hh : Tx.headL x = true := by
  rw [Tx.headL_eq x h0]
  have : x[0] = b := by
   have : x.data.toList[0]? = some b := by show (txt x)[0]? = some b; rw [e1]; rfl
   obtain ⟨_, e⟩ := List.getElem?_eq_some_iff.1 this
   rw [ByteArray.getElem_eq_getElem_data, ← e]; simp
  rw [this]; exact e2
 have hk : Tx.isKey x = false := e5
 unfold Tx.nameB
 rw [decide_eq_true hs, hh, decide_eq_true hw, hk]
 rfl
end Pn
/-- May they be names? -/
theorem names_any (x : ByteArray) (b : Nat) (w : World) (hx : Pn.okN x = true) (hc : w.cell? ⟨b, 0, none⟩ = some (.string x)) :
  Calls Tryz.prog 63 #[.slice (some ⟨b, 0, none⟩) 1 1] w fun e w' => e = .returned (.bool true) ∧ Below w.heap.size w w' := by
 obtain ⟨hs, hn⟩ := Pn.okN_nameB hx
 have HN := hdn hn
 have HC := hdn hc
 clear hx hn hc
 go_enter Tryz.func63, Tryz.ntmps63
 go_wp2_with fail
 go_loopw [3] (fun i wr => ∃ k : Nat, k ≤ 1 ∧ i = .int .i64 k ∧ Hid (Below w.heap.size w wr)) (fun i _ => 1 - (intOf i).toNat)
 case atStart => exact ⟨0, Nat.zero_le _, rfl, hdn (Below.refl _ _)⟩
 case round =>
  obtain ⟨k, hk, rfl, HB⟩ := hrel
  by_cases hlt : k < 1
  ·obtain rfl : k = 0 := by omega
   have c0 : wr.cell? ⟨b, 0, none⟩ = some (.string x) := (HB.out.cell (p := ⟨b, 0, none⟩) (World.block_lt_of_cell? w _ HC.out)).trans HC.out
   go_wp2_with (first | (go_at_call 106; refine (isNameRef_any x _ (by omega)).mono ?_; rintro e w1 ⟨rfl, hb⟩; rw [HN.out]; have HB1 := hdn (HB.out.trans (hb.mono HB.out.size)); clear hb))
   go_roundw
   case rel => exact ⟨1, Nat.le_refl _, by go_num, HB1⟩
   case measure => simp [intOf]
  ·obtain rfl : k = 1 := by omega
   go_wp2_with fail
   go_ret
   exact ⟨rfl, HB.out⟩
end Go.Proofs.YtdlchhimkelinaaGreatDoor
namespace Go.Proofs.YtdlchhimkelinaaGreatDoor
open Go.RowKit Go.Sort
theorem below_new {w w1 : World} {o : Obj} (h : Below (w.alloc o).heap.size (w.alloc o) w1) : Below w.heap.size w w1 :=
 ((Below.refl _ _).alloc (Nat.le_refl _) o).trans (h.mono (by simp))
theorem okNum_any (n : Int) (w : World) (h : Pn.okNum n = true) : Calls Tryz.prog 166 #[.int .i64 n] w fun e w' => e = .returned (.bool true) ∧ w = w' := by
 unfold Pn.okNum at h
 simp only [Bool.and_eq_true, decide_eq_true_eq] at h
 obtain ⟨h1, h2⟩ := h
 go_enter Tryz.func166, Tryz.ntmps166
 go_wp2_with fail
 go_ret
 exact ⟨rfl, rfl⟩
theorem okPath_any (x : Pth) (w : World) (hp : pthLies w x) (ho : Pn.okPath x = true) :
  Calls Tryz.prog 143 #[.agg #[.string x.name, .int .i64 x.pos, .slice x.hops.p x.hops.l.length x.hops.cap]] w fun e w' => e = .returned (.bool true) ∧ Below w.heap.size w w' := by
 unfold Pn.okPath at ho
 simp only [Bool.and_eq_true, decide_eq_true_eq, List.all_eq_true] at ho
 obtain ⟨⟨h1, h8⟩, h2⟩ := ho
 obtain ⟨hl, hp⟩ := Lay.of_sl hp (by decide)
 have H1 := hdn h1; have H2 := hdn h2; have HP := hdn hp
 clear h1 h2 hp hl
 have h8' : ¬ ((8 : Int) < (x.hops.l.length : Int)) := by omega
 obtain ⟨wA, hwA⟩ : ∃ wA : World, wA = w.alloc (.cells #[.string x.name, .int .i64 x.pos, .slice x.hops.p x.hops.l.length x.hops.cap] 45) := ⟨_, rfl⟩
 have HBA : Hid (Below w.heap.size w wA) := hdn (by rw [hwA]; exact (Below.refl _ _).alloc (Nat.le_refl _) _)
 have HK : Hid (Bk wA w.heap.size 45 #[.string x.name, .int .i64 x.pos, .slice x.hops.p x.hops.l.length x.hops.cap]) := hdn (by rw [hwA]; exact heap_alloc_new _ _)
 go_enter Tryz.func143, Tryz.ntmps143
 go_upto_region 1 with fail
 rw [← hwA]
 clear hwA
 generalize x.hops.p = p at *
 generalize x.hops.l = l at *
 generalize x.hops.cap = c at *
 generalize x.name = nx at *
 generalize x.pos = ax at *
 obtain ⟨A, hA⟩ : ∃ A, A = w.heap.size := ⟨_, rfl⟩
 have HAw := hdn hA
 rw [← hA] at HK ⊢
 clear hA
 have c0 : wA.cell? ⟨A, 0, none⟩ = some (.string nx) := HK.out.cell 0
 go_wp2_with (go_at_call 63; refine (names_any nx _ _ H1.out (by simp [go_sem])).mono ?_; rintro e w1 ⟨rfl, hb⟩; have hb1 := below_new hb; have HB1 := hdn (HBA.out.trans (hb1.mono HBA.out.size)); have HK1 := hdn (HK.out.below hb1 HK.out.lt); have c2 : w1.cell? ⟨A, 2, none⟩ = some (.slice p l.length c) := HK1.out.cell 2; clear hb hb1)
 clear c2 c0
 go_loopw [3] (fun i wr => ∃ k : Nat, k ≤ l.length ∧ i = .int .i64 k ∧ Hid (Below w.heap.size w wr) ∧ Hid (Bk wr A 45 #[.string nx, .int .i64 ax, .slice p l.length c])) (fun i _ => l.length - (intOf i).toNat)
 case atStart => exact ⟨0, Nat.zero_le _, rfl, HB1, HK1⟩
 case round =>
  obtain ⟨k, hk, rfl, HB, HKR⟩ := hrel
  have c2 : wr.cell? ⟨A, 2, none⟩ = some (.slice p l.length c) := HKR.out.cell 2
  by_cases hkl : k < l.length
  ·obtain ⟨b1, o1, rfl, hx⟩ : ∃ b o, p = some ⟨b, o, none⟩ ∧ ∀ k x, l[k]? = some x → w.rangeAt b (o + k * 2) (Hp.cells x) ∧ triv w x := by
    rcases HP.out with h | h
    ·rw [h] at hkl; simp at hkl
    ·exact h
   have cx := cell_at (rangeAt_below (hx k l[k] (List.getElem?_eq_getElem hkl)).1 HB.out) 0 _ rfl
   rw [Nat.add_zero] at cx
   have hok := hdn (H2.out l[k] (List.getElem_mem hkl))
   generalize l[k].name = nk at cx hok
   clear hx
   have hk0 : (0 : Int) ≤ (k : Int) := Int.natCast_nonneg _
   have hk1 : (k : Int) < (l.length : Int) := by omega
   go_wp2_with (go_at_call 63; refine (names_any nk _ _ hok.out (by simp [go_sem])).mono ?_; rintro e w2 ⟨rfl, hb⟩; have hb1 := below_new hb; have HB2 := hdn (HB.out.trans (hb1.mono HB.out.size)); have HK2 := hdn (HKR.out.below hb1 HKR.out.lt); clear hb hb1)
   go_roundw
   case rel => exact ⟨k + 1, by omega, by go_num, HB2, HK2⟩
   case measure => simp [intOf]; omega
  ·obtain rfl : k = l.length := by omega
   go_wp2_with fail
   go_ret
   exact ⟨rfl, HB.out⟩
theorem okTerm_any (x : Tm) (w : World) (ho : Pn.okTerm x = true) :
  Calls Tryz.prog 167 #[.agg #[.string x.name, .int .i64 x.n, .int .i64 x.pos]] w fun e w' => e = .returned (.bool true) ∧ Below w.heap.size w w' := by
 unfold Pn.okTerm at ho
 obtain ⟨wA, hwA⟩ : ∃ wA : World, wA = w.alloc (.cells #[.string x.name, .int .i64 x.n, .int .i64 x.pos] 47) := ⟨_, rfl⟩
 have HBA : Hid (Below w.heap.size w wA) := hdn (by rw [hwA]; exact (Below.refl _ _).alloc (Nat.le_refl _) _)
 have HK : Hid (Bk wA w.heap.size 47 #[.string x.name, .int .i64 x.n, .int .i64 x.pos]) := hdn (by rw [hwA]; exact heap_alloc_new _ _)
 go_enter Tryz.func167, Tryz.ntmps167
 go_upto_region 1 with fail
 rw [← hwA]
 clear hwA
 obtain ⟨A, hA⟩ : ∃ A, A = w.heap.size := ⟨_, rfl⟩
 rw [← hA] at HK ⊢
 have HA := hdn hA
 clear hA
 have c0 : wA.cell? ⟨A, 0, none⟩ = some (.string x.name) := HK.out.cell 0
 have c1 : wA.cell? ⟨A, 1, none⟩ = some (.int .i64 x.n) := HK.out.cell 1
 by_cases h0 : Pn.txt x.name = []
 ·rw [if_pos h0] at ho
  have hn := hdn ho
  have he : (x.name.toList == []) = true := by rw [Lib.toList_data]; rw [show x.name.data.toList = [] from h0]; rfl
  clear h0 ho
  go_wp2_with (go_at_call 166; refine (okNum_any x.n _ hn.out).mono ?_; rintro e w1 ⟨rfl, rfl⟩)
  go_ret
  exact ⟨rfl, HBA.out⟩
 ·rw [if_neg h0] at ho
  simp only [Bool.and_eq_true, decide_eq_true_eq] at ho
  have he : (x.name.toList == []) = false := by rw [Lib.toList_data]; rw [Bool.eq_false_iff]; intro e; exact h0 (beq_iff_eq.1 e)
  obtain ⟨hn, hz⟩ := ho
  have HN := hdn hn
  clear h0 hn
  go_wp2_with (go_at_call 63; refine (names_any x.name _ _ HN.out (by simp [go_sem])).mono ?_; rintro e w1 ⟨rfl, hb⟩; have hb1 := below_new hb; have HB1 := hdn (HBA.out.trans (hb1.mono HBA.out.size)); have HK1 := hdn (HK.out.below hb1 HK.out.lt); have c1 : w1.cell? ⟨A, 1, none⟩ = some (.int .i64 x.n) := HK1.out.cell 1; clear hb hb1)
  go_ret
  exact ⟨rfl, HB1.out⟩
end Go.Proofs.YtdlchhimkelinaaGreatDoor
namespace Go.Proofs.YtdlchhimkelinaaGreatDoor
open Go.RowKit Go.Sort
theorem e_txt {x : ByteArray} (h : Pn.txt x = []) : (x.toList == []) = true := by
 rw [Lib.toList_data, show x.data.toList = [] from h]; rfl
theorem bare0 (x : Vl) (w : World) (k : x.kind = 0) (p1 : (x.path.name.toList == []) = true) (p2 : x.path.hops.l.length = 0) (l1 : (x.left.name.toList == []) = true) (l2 : x.left.n = 0) (r1 : (x.right.name.toList == []) = true) (r2 : x.right.n = 0) (t1 : (x.type.toList == []) = true) :
  Calls Tryz.prog 144 #[.agg #[.int .i64 x.kind, .int .i64 x.pos, .string x.path.name, .int .i64 x.path.pos, .slice x.path.hops.p x.path.hops.l.length x.path.hops.cap, .string x.type, .string x.left.name, .int .i64 x.left.n, .int .i64 x.left.pos, .string x.right.name, .int .i64 x.right.n, .int .i64 x.right.pos]] w fun e w' => e = .returned (.bool true) ∧ Below w.heap.size w w' := by
 have Z_k := hdn k
 clear k
 have Z_p1 := hdn p1
 clear p1
 have Z_p2 := hdn p2
 clear p2
 have Z_l1 := hdn l1
 clear l1
 have Z_l2 := hdn l2
 clear l2
 have Z_r1 := hdn r1
 clear r1
 have Z_r2 := hdn r2
 clear r2
 have Z_t1 := hdn t1
 clear t1
 obtain ⟨wA, hwA⟩ : ∃ wA : World, wA = w.alloc (.cells #[.int .i64 x.kind, .int .i64 x.pos, .string x.path.name, .int .i64 x.path.pos, .slice x.path.hops.p x.path.hops.l.length x.path.hops.cap, .string x.type, .string x.left.name, .int .i64 x.left.n, .int .i64 x.left.pos, .string x.right.name, .int .i64 x.right.n, .int .i64 x.right.pos] 49) := ⟨_, rfl⟩
 have HBA : Hid (Below w.heap.size w wA) := hdn (by rw [hwA]; exact (Below.refl _ _).alloc (Nat.le_refl _) _)
 have HK : Hid (Bk wA w.heap.size 49 #[.int .i64 x.kind, .int .i64 x.pos, .string x.path.name, .int .i64 x.path.pos, .slice x.path.hops.p x.path.hops.l.length x.path.hops.cap, .string x.type, .string x.left.name, .int .i64 x.left.n, .int .i64 x.left.pos, .string x.right.name, .int .i64 x.right.n, .int .i64 x.right.pos]) := hdn (by rw [hwA]; exact heap_alloc_new _ _)
 go_enter Tryz.func144, Tryz.ntmps144
 go_upto_region 1 with fail
 rw [← hwA]
 clear hwA
 obtain ⟨A, hA⟩ : ∃ A, A = w.heap.size := ⟨_, rfl⟩
 rw [← hA] at HK ⊢
 have HA := hdn hA
 clear hA
 have c0 : wA.cell? ⟨A, 0, none⟩ = some (.int .i64 x.kind) := HK.out.cell 0
 have c1 : wA.cell? ⟨A, 1, none⟩ = some (.int .i64 x.pos) := HK.out.cell 1
 have c2 : wA.cell? ⟨A, 2, none⟩ = some (.string x.path.name) := HK.out.cell 2
 have c3 : wA.cell? ⟨A, 3, none⟩ = some (.int .i64 x.path.pos) := HK.out.cell 3
 have c4 : wA.cell? ⟨A, 4, none⟩ = some (.slice x.path.hops.p x.path.hops.l.length x.path.hops.cap) := HK.out.cell 4
 have c5 : wA.cell? ⟨A, 5, none⟩ = some (.string x.type) := HK.out.cell 5
 have c6 : wA.cell? ⟨A, 6, none⟩ = some (.string x.left.name) := HK.out.cell 6
 have c7 : wA.cell? ⟨A, 7, none⟩ = some (.int .i64 x.left.n) := HK.out.cell 7
 have c8 : wA.cell? ⟨A, 8, none⟩ = some (.int .i64 x.left.pos) := HK.out.cell 8
 have c9 : wA.cell? ⟨A, 9, none⟩ = some (.string x.right.name) := HK.out.cell 9
 have c10 : wA.cell? ⟨A, 10, none⟩ = some (.int .i64 x.right.n) := HK.out.cell 10
 have c11 : wA.cell? ⟨A, 11, none⟩ = some (.int .i64 x.right.pos) := HK.out.cell 11
 have k := Z_k.out
 have p1 := Z_p1.out
 have p2 := Z_p2.out
 have l1 := Z_l1.out
 have l2 := Z_l2.out
 have r1 := Z_r1.out
 have r2 := Z_r2.out
 have t1 := Z_t1.out
 go_wp2_with fail
 go_ret
 exact ⟨rfl, HBA.out⟩
theorem bare3 (x : Vl) (w : World) (k : x.kind = 3) (p1 : (x.path.name.toList == []) = true) (p2 : x.path.hops.l.length = 0) (l1 : (x.left.name.toList == []) = true) (l2 : x.left.n = 0) (r1 : (x.right.name.toList == []) = true) (r2 : x.right.n = 0) (t1 : (x.type.toList == []) = true) :
  Calls Tryz.prog 144 #[.agg #[.int .i64 x.kind, .int .i64 x.pos, .string x.path.name, .int .i64 x.path.pos, .slice x.path.hops.p x.path.hops.l.length x.path.hops.cap, .string x.type, .string x.left.name, .int .i64 x.left.n, .int .i64 x.left.pos, .string x.right.name, .int .i64 x.right.n, .int .i64 x.right.pos]] w fun e w' => e = .returned (.bool true) ∧ Below w.heap.size w w' := by
 have Z_k := hdn k
 clear k
 have Z_p1 := hdn p1
 clear p1
 have Z_p2 := hdn p2
 clear p2
 have Z_l1 := hdn l1
 clear l1
 have Z_l2 := hdn l2
 clear l2
 have Z_r1 := hdn r1
 clear r1
 have Z_r2 := hdn r2
 clear r2
 have Z_t1 := hdn t1
 clear t1
 obtain ⟨wA, hwA⟩ : ∃ wA : World, wA = w.alloc (.cells #[.int .i64 x.kind, .int .i64 x.pos, .string x.path.name, .int .i64 x.path.pos, .slice x.path.hops.p x.path.hops.l.length x.path.hops.cap, .string x.type, .string x.left.name, .int .i64 x.left.n, .int .i64 x.left.pos, .string x.right.name, .int .i64 x.right.n, .int .i64 x.right.pos] 49) := ⟨_, rfl⟩
 have HBA : Hid (Below w.heap.size w wA) := hdn (by rw [hwA]; exact (Below.refl _ _).alloc (Nat.le_refl _) _)
 have HK : Hid (Bk wA w.heap.size 49 #[.int .i64 x.kind, .int .i64 x.pos, .string x.path.name, .int .i64 x.path.pos, .slice x.path.hops.p x.path.hops.l.length x.path.hops.cap, .string x.type, .string x.left.name, .int .i64 x.left.n, .int .i64 x.left.pos, .string x.right.name, .int .i64 x.right.n, .int .i64 x.right.pos]) := hdn (by rw [hwA]; exact heap_alloc_new _ _)
 go_enter Tryz.func144, Tryz.ntmps144
 go_upto_region 1 with fail
 rw [← hwA]
 clear hwA
 obtain ⟨A, hA⟩ : ∃ A, A = w.heap.size := ⟨_, rfl⟩
 rw [← hA] at HK ⊢
 have HA := hdn hA
 clear hA
 have c0 : wA.cell? ⟨A, 0, none⟩ = some (.int .i64 x.kind) := HK.out.cell 0
 have c1 : wA.cell? ⟨A, 1, none⟩ = some (.int .i64 x.pos) := HK.out.cell 1
 have c2 : wA.cell? ⟨A, 2, none⟩ = some (.string x.path.name) := HK.out.cell 2
 have c3 : wA.cell? ⟨A, 3, none⟩ = some (.int .i64 x.path.pos) := HK.out.cell 3
 have c4 : wA.cell? ⟨A, 4, none⟩ = some (.slice x.path.hops.p x.path.hops.l.length x.path.hops.cap) := HK.out.cell 4
 have c5 : wA.cell? ⟨A, 5, none⟩ = some (.string x.type) := HK.out.cell 5
 have c6 : wA.cell? ⟨A, 6, none⟩ = some (.string x.left.name) := HK.out.cell 6
 have c7 : wA.cell? ⟨A, 7, none⟩ = some (.int .i64 x.left.n) := HK.out.cell 7
 have c8 : wA.cell? ⟨A, 8, none⟩ = some (.int .i64 x.left.pos) := HK.out.cell 8
 have c9 : wA.cell? ⟨A, 9, none⟩ = some (.string x.right.name) := HK.out.cell 9
 have c10 : wA.cell? ⟨A, 10, none⟩ = some (.int .i64 x.right.n) := HK.out.cell 10
 have c11 : wA.cell? ⟨A, 11, none⟩ = some (.int .i64 x.right.pos) := HK.out.cell 11
 have k := Z_k.out
 have p1 := Z_p1.out
 have p2 := Z_p2.out
 have l1 := Z_l1.out
 have l2 := Z_l2.out
 have r1 := Z_r1.out
 have r2 := Z_r2.out
 have t1 := Z_t1.out
 go_wp2_with fail
 go_ret
 exact ⟨rfl, HBA.out⟩
theorem bare1true (x : Vl) (w : World) (hl : vlLies w x) (hp : Pn.okPath x.path = true) (k : x.kind = 1) (he : (x.path.name.toList == []) = true) (l1 : (x.left.name.toList == []) = true) (l2 : x.left.n = 0) (r1 : (x.right.name.toList == []) = true) (r2 : x.right.n = 0) (t1 : (x.type.toList == []) = true) :
  Calls Tryz.prog 144 #[.agg #[.int .i64 x.kind, .int .i64 x.pos, .string x.path.name, .int .i64 x.path.pos, .slice x.path.hops.p x.path.hops.l.length x.path.hops.cap, .string x.type, .string x.left.name, .int .i64 x.left.n, .int .i64 x.left.pos, .string x.right.name, .int .i64 x.right.n, .int .i64 x.right.pos]] w fun e w' => e = .returned (.bool true) ∧ Below w.heap.size w w' := by
 have HL := hdn (pthLies_of hl)
 have HP := hdn hp
 clear hl hp
 have Z_k := hdn k
 clear k
 have Z_he := hdn he
 clear he
 have Z_l1 := hdn l1
 clear l1
 have Z_l2 := hdn l2
 clear l2
 have Z_r1 := hdn r1
 clear r1
 have Z_r2 := hdn r2
 clear r2
 have Z_t1 := hdn t1
 clear t1
 obtain ⟨wA, hwA⟩ : ∃ wA : World, wA = w.alloc (.cells #[.int .i64 x.kind, .int .i64 x.pos, .string x.path.name, .int .i64 x.path.pos, .slice x.path.hops.p x.path.hops.l.length x.path.hops.cap, .string x.type, .string x.left.name, .int .i64 x.left.n, .int .i64 x.left.pos, .string x.right.name, .int .i64 x.right.n, .int .i64 x.right.pos] 49) := ⟨_, rfl⟩
 have HBA : Hid (Below w.heap.size w wA) := hdn (by rw [hwA]; exact (Below.refl _ _).alloc (Nat.le_refl _) _)
 have HK : Hid (Bk wA w.heap.size 49 #[.int .i64 x.kind, .int .i64 x.pos, .string x.path.name, .int .i64 x.path.pos, .slice x.path.hops.p x.path.hops.l.length x.path.hops.cap, .string x.type, .string x.left.name, .int .i64 x.left.n, .int .i64 x.left.pos, .string x.right.name, .int .i64 x.right.n, .int .i64 x.right.pos]) := hdn (by rw [hwA]; exact heap_alloc_new _ _)
 go_enter Tryz.func144, Tryz.ntmps144
 go_upto_region 1 with fail
 rw [← hwA]
 clear hwA
 obtain ⟨A, hA⟩ : ∃ A, A = w.heap.size := ⟨_, rfl⟩
 rw [← hA] at HK ⊢
 have HA := hdn hA
 clear hA
 have c0 : wA.cell? ⟨A, 0, none⟩ = some (.int .i64 x.kind) := HK.out.cell 0
 have c1 : wA.cell? ⟨A, 1, none⟩ = some (.int .i64 x.pos) := HK.out.cell 1
 have c2 : wA.cell? ⟨A, 2, none⟩ = some (.string x.path.name) := HK.out.cell 2
 have c3 : wA.cell? ⟨A, 3, none⟩ = some (.int .i64 x.path.pos) := HK.out.cell 3
 have c4 : wA.cell? ⟨A, 4, none⟩ = some (.slice x.path.hops.p x.path.hops.l.length x.path.hops.cap) := HK.out.cell 4
 have c5 : wA.cell? ⟨A, 5, none⟩ = some (.string x.type) := HK.out.cell 5
 have c6 : wA.cell? ⟨A, 6, none⟩ = some (.string x.left.name) := HK.out.cell 6
 have c7 : wA.cell? ⟨A, 7, none⟩ = some (.int .i64 x.left.n) := HK.out.cell 7
 have c8 : wA.cell? ⟨A, 8, none⟩ = some (.int .i64 x.left.pos) := HK.out.cell 8
 have c9 : wA.cell? ⟨A, 9, none⟩ = some (.string x.right.name) := HK.out.cell 9
 have c10 : wA.cell? ⟨A, 10, none⟩ = some (.int .i64 x.right.n) := HK.out.cell 10
 have c11 : wA.cell? ⟨A, 11, none⟩ = some (.int .i64 x.right.pos) := HK.out.cell 11
 have k := Z_k.out
 have he := Z_he.out
 have l1 := Z_l1.out
 have l2 := Z_l2.out
 have r1 := Z_r1.out
 have r2 := Z_r2.out
 have t1 := Z_t1.out
 have HL1 := hdn (pthLies_below HL.out HBA.out)
 go_wp2_with (go_at_call 143; refine (okPath_any x.path _ HL1.out HP.out).mono ?_; rintro e w1 ⟨rfl, hb⟩; have HB1 := hdn (HBA.out.trans (hb.mono HBA.out.size)); have HK1 := hdn (HK.out.below hb HK.out.lt); clear hb)
 go_ret
 exact ⟨rfl, HB1.out⟩
theorem bare1false (x : Vl) (w : World) (hl : vlLies w x) (hp : Pn.okPath x.path = true) (k : x.kind = 1) (he : (x.path.name.toList == []) = false) (l1 : (x.left.name.toList == []) = true) (l2 : x.left.n = 0) (r1 : (x.right.name.toList == []) = true) (r2 : x.right.n = 0) (t1 : (x.type.toList == []) = true) :
  Calls Tryz.prog 144 #[.agg #[.int .i64 x.kind, .int .i64 x.pos, .string x.path.name, .int .i64 x.path.pos, .slice x.path.hops.p x.path.hops.l.length x.path.hops.cap, .string x.type, .string x.left.name, .int .i64 x.left.n, .int .i64 x.left.pos, .string x.right.name, .int .i64 x.right.n, .int .i64 x.right.pos]] w fun e w' => e = .returned (.bool true) ∧ Below w.heap.size w w' := by
 have HL := hdn (pthLies_of hl)
 have HP := hdn hp
 clear hl hp
 have Z_k := hdn k
 clear k
 have Z_he := hdn he
 clear he
 have Z_l1 := hdn l1
 clear l1
 have Z_l2 := hdn l2
 clear l2
 have Z_r1 := hdn r1
 clear r1
 have Z_r2 := hdn r2
 clear r2
 have Z_t1 := hdn t1
 clear t1
 obtain ⟨wA, hwA⟩ : ∃ wA : World, wA = w.alloc (.cells #[.int .i64 x.kind, .int .i64 x.pos, .string x.path.name, .int .i64 x.path.pos, .slice x.path.hops.p x.path.hops.l.length x.path.hops.cap, .string x.type, .string x.left.name, .int .i64 x.left.n, .int .i64 x.left.pos, .string x.right.name, .int .i64 x.right.n, .int .i64 x.right.pos] 49) := ⟨_, rfl⟩
 have HBA : Hid (Below w.heap.size w wA) := hdn (by rw [hwA]; exact (Below.refl _ _).alloc (Nat.le_refl _) _)
 have HK : Hid (Bk wA w.heap.size 49 #[.int .i64 x.kind, .int .i64 x.pos, .string x.path.name, .int .i64 x.path.pos, .slice x.path.hops.p x.path.hops.l.length x.path.hops.cap, .string x.type, .string x.left.name, .int .i64 x.left.n, .int .i64 x.left.pos, .string x.right.name, .int .i64 x.right.n, .int .i64 x.right.pos]) := hdn (by rw [hwA]; exact heap_alloc_new _ _)
 go_enter Tryz.func144, Tryz.ntmps144
 go_upto_region 1 with fail
 rw [← hwA]
 clear hwA
 obtain ⟨A, hA⟩ : ∃ A, A = w.heap.size := ⟨_, rfl⟩
 rw [← hA] at HK ⊢
 have HA := hdn hA
 clear hA
 have c0 : wA.cell? ⟨A, 0, none⟩ = some (.int .i64 x.kind) := HK.out.cell 0
 have c1 : wA.cell? ⟨A, 1, none⟩ = some (.int .i64 x.pos) := HK.out.cell 1
 have c2 : wA.cell? ⟨A, 2, none⟩ = some (.string x.path.name) := HK.out.cell 2
 have c3 : wA.cell? ⟨A, 3, none⟩ = some (.int .i64 x.path.pos) := HK.out.cell 3
 have c4 : wA.cell? ⟨A, 4, none⟩ = some (.slice x.path.hops.p x.path.hops.l.length x.path.hops.cap) := HK.out.cell 4
 have c5 : wA.cell? ⟨A, 5, none⟩ = some (.string x.type) := HK.out.cell 5
 have c6 : wA.cell? ⟨A, 6, none⟩ = some (.string x.left.name) := HK.out.cell 6
 have c7 : wA.cell? ⟨A, 7, none⟩ = some (.int .i64 x.left.n) := HK.out.cell 7
 have c8 : wA.cell? ⟨A, 8, none⟩ = some (.int .i64 x.left.pos) := HK.out.cell 8
 have c9 : wA.cell? ⟨A, 9, none⟩ = some (.string x.right.name) := HK.out.cell 9
 have c10 : wA.cell? ⟨A, 10, none⟩ = some (.int .i64 x.right.n) := HK.out.cell 10
 have c11 : wA.cell? ⟨A, 11, none⟩ = some (.int .i64 x.right.pos) := HK.out.cell 11
 have k := Z_k.out
 have he := Z_he.out
 have l1 := Z_l1.out
 have l2 := Z_l2.out
 have r1 := Z_r1.out
 have r2 := Z_r2.out
 have t1 := Z_t1.out
 have HL1 := hdn (pthLies_below HL.out HBA.out)
 go_wp2_with (go_at_call 143; refine (okPath_any x.path _ HL1.out HP.out).mono ?_; rintro e w1 ⟨rfl, hb⟩; have HB1 := hdn (HBA.out.trans (hb.mono HBA.out.size)); have HK1 := hdn (HK.out.below hb HK.out.lt); clear hb)
 go_ret
 exact ⟨rfl, HB1.out⟩
theorem bare2 (x : Vl) (w : World) (ht : Pn.okN x.type = true) (k : x.kind = 2) (p1 : (x.path.name.toList == []) = true) (p2 : x.path.hops.l.length = 0) (l1 : (x.left.name.toList == []) = true) (l2 : x.left.n = 0) (r1 : (x.right.name.toList == []) = true) (r2 : x.right.n = 0) :
  Calls Tryz.prog 144 #[.agg #[.int .i64 x.kind, .int .i64 x.pos, .string x.path.name, .int .i64 x.path.pos, .slice x.path.hops.p x.path.hops.l.length x.path.hops.cap, .string x.type, .string x.left.name, .int .i64 x.left.n, .int .i64 x.left.pos, .string x.right.name, .int .i64 x.right.n, .int .i64 x.right.pos]] w fun e w' => e = .returned (.bool true) ∧ Below w.heap.size w w' := by
 have HT := hdn ht
 clear ht
 have Z_k := hdn k
 clear k
 have Z_p1 := hdn p1
 clear p1
 have Z_p2 := hdn p2
 clear p2
 have Z_l1 := hdn l1
 clear l1
 have Z_l2 := hdn l2
 clear l2
 have Z_r1 := hdn r1
 clear r1
 have Z_r2 := hdn r2
 clear r2
 obtain ⟨wA, hwA⟩ : ∃ wA : World, wA = w.alloc (.cells #[.int .i64 x.kind, .int .i64 x.pos, .string x.path.name, .int .i64 x.path.pos, .slice x.path.hops.p x.path.hops.l.length x.path.hops.cap, .string x.type, .string x.left.name, .int .i64 x.left.n, .int .i64 x.left.pos, .string x.right.name, .int .i64 x.right.n, .int .i64 x.right.pos] 49) := ⟨_, rfl⟩
 have HBA : Hid (Below w.heap.size w wA) := hdn (by rw [hwA]; exact (Below.refl _ _).alloc (Nat.le_refl _) _)
 have HK : Hid (Bk wA w.heap.size 49 #[.int .i64 x.kind, .int .i64 x.pos, .string x.path.name, .int .i64 x.path.pos, .slice x.path.hops.p x.path.hops.l.length x.path.hops.cap, .string x.type, .string x.left.name, .int .i64 x.left.n, .int .i64 x.left.pos, .string x.right.name, .int .i64 x.right.n, .int .i64 x.right.pos]) := hdn (by rw [hwA]; exact heap_alloc_new _ _)
 go_enter Tryz.func144, Tryz.ntmps144
 go_upto_region 1 with fail
 rw [← hwA]
 clear hwA
 obtain ⟨A, hA⟩ : ∃ A, A = w.heap.size := ⟨_, rfl⟩
 rw [← hA] at HK ⊢
 have HA := hdn hA
 clear hA
 have c0 : wA.cell? ⟨A, 0, none⟩ = some (.int .i64 x.kind) := HK.out.cell 0
 have c1 : wA.cell? ⟨A, 1, none⟩ = some (.int .i64 x.pos) := HK.out.cell 1
 have c2 : wA.cell? ⟨A, 2, none⟩ = some (.string x.path.name) := HK.out.cell 2
 have c3 : wA.cell? ⟨A, 3, none⟩ = some (.int .i64 x.path.pos) := HK.out.cell 3
 have c4 : wA.cell? ⟨A, 4, none⟩ = some (.slice x.path.hops.p x.path.hops.l.length x.path.hops.cap) := HK.out.cell 4
 have c5 : wA.cell? ⟨A, 5, none⟩ = some (.string x.type) := HK.out.cell 5
 have c6 : wA.cell? ⟨A, 6, none⟩ = some (.string x.left.name) := HK.out.cell 6
 have c7 : wA.cell? ⟨A, 7, none⟩ = some (.int .i64 x.left.n) := HK.out.cell 7
 have c8 : wA.cell? ⟨A, 8, none⟩ = some (.int .i64 x.left.pos) := HK.out.cell 8
 have c9 : wA.cell? ⟨A, 9, none⟩ = some (.string x.right.name) := HK.out.cell 9
 have c10 : wA.cell? ⟨A, 10, none⟩ = some (.int .i64 x.right.n) := HK.out.cell 10
 have c11 : wA.cell? ⟨A, 11, none⟩ = some (.int .i64 x.right.pos) := HK.out.cell 11
 have k := Z_k.out
 have p1 := Z_p1.out
 have p2 := Z_p2.out
 have l1 := Z_l1.out
 have l2 := Z_l2.out
 have r1 := Z_r1.out
 have r2 := Z_r2.out
 go_wp2_with (go_at_call 63; refine (names_any x.type _ _ HT.out (by simp [go_sem])).mono ?_; rintro e w1 ⟨rfl, hb0⟩; have hb := below_new hb0; have HB1 := hdn (HBA.out.trans (hb.mono HBA.out.size)); have HK1 := hdn (HK.out.below hb HK.out.lt); clear hb hb0)
 go_ret
 exact ⟨rfl, HB1.out⟩
theorem bare4 (x : Vl) (w : World) (hn : Pn.okNum x.left.n = true) (k : x.kind = 4) (p1 : (x.path.name.toList == []) = true) (p2 : x.path.hops.l.length = 0) (l1 : (x.left.name.toList == []) = true) (r1 : (x.right.name.toList == []) = true) (r2 : x.right.n = 0) (t1 : (x.type.toList == []) = true) :
  Calls Tryz.prog 144 #[.agg #[.int .i64 x.kind, .int .i64 x.pos, .string x.path.name, .int .i64 x.path.pos, .slice x.path.hops.p x.path.hops.l.length x.path.hops.cap, .string x.type, .string x.left.name, .int .i64 x.left.n, .int .i64 x.left.pos, .string x.right.name, .int .i64 x.right.n, .int .i64 x.right.pos]] w fun e w' => e = .returned (.bool true) ∧ Below w.heap.size w w' := by
 have HN := hdn hn
 clear hn
 have Z_k := hdn k
 clear k
 have Z_p1 := hdn p1
 clear p1
 have Z_p2 := hdn p2
 clear p2
 have Z_l1 := hdn l1
 clear l1
 have Z_r1 := hdn r1
 clear r1
 have Z_r2 := hdn r2
 clear r2
 have Z_t1 := hdn t1
 clear t1
 obtain ⟨wA, hwA⟩ : ∃ wA : World, wA = w.alloc (.cells #[.int .i64 x.kind, .int .i64 x.pos, .string x.path.name, .int .i64 x.path.pos, .slice x.path.hops.p x.path.hops.l.length x.path.hops.cap, .string x.type, .string x.left.name, .int .i64 x.left.n, .int .i64 x.left.pos, .string x.right.name, .int .i64 x.right.n, .int .i64 x.right.pos] 49) := ⟨_, rfl⟩
 have HBA : Hid (Below w.heap.size w wA) := hdn (by rw [hwA]; exact (Below.refl _ _).alloc (Nat.le_refl _) _)
 have HK : Hid (Bk wA w.heap.size 49 #[.int .i64 x.kind, .int .i64 x.pos, .string x.path.name, .int .i64 x.path.pos, .slice x.path.hops.p x.path.hops.l.length x.path.hops.cap, .string x.type, .string x.left.name, .int .i64 x.left.n, .int .i64 x.left.pos, .string x.right.name, .int .i64 x.right.n, .int .i64 x.right.pos]) := hdn (by rw [hwA]; exact heap_alloc_new _ _)
 go_enter Tryz.func144, Tryz.ntmps144
 go_upto_region 1 with fail
 rw [← hwA]
 clear hwA
 obtain ⟨A, hA⟩ : ∃ A, A = w.heap.size := ⟨_, rfl⟩
 rw [← hA] at HK ⊢
 have HA := hdn hA
 clear hA
 have c0 : wA.cell? ⟨A, 0, none⟩ = some (.int .i64 x.kind) := HK.out.cell 0
 have c1 : wA.cell? ⟨A, 1, none⟩ = some (.int .i64 x.pos) := HK.out.cell 1
 have c2 : wA.cell? ⟨A, 2, none⟩ = some (.string x.path.name) := HK.out.cell 2
 have c3 : wA.cell? ⟨A, 3, none⟩ = some (.int .i64 x.path.pos) := HK.out.cell 3
 have c4 : wA.cell? ⟨A, 4, none⟩ = some (.slice x.path.hops.p x.path.hops.l.length x.path.hops.cap) := HK.out.cell 4
 have c5 : wA.cell? ⟨A, 5, none⟩ = some (.string x.type) := HK.out.cell 5
 have c6 : wA.cell? ⟨A, 6, none⟩ = some (.string x.left.name) := HK.out.cell 6
 have c7 : wA.cell? ⟨A, 7, none⟩ = some (.int .i64 x.left.n) := HK.out.cell 7
 have c8 : wA.cell? ⟨A, 8, none⟩ = some (.int .i64 x.left.pos) := HK.out.cell 8
 have c9 : wA.cell? ⟨A, 9, none⟩ = some (.string x.right.name) := HK.out.cell 9
 have c10 : wA.cell? ⟨A, 10, none⟩ = some (.int .i64 x.right.n) := HK.out.cell 10
 have c11 : wA.cell? ⟨A, 11, none⟩ = some (.int .i64 x.right.pos) := HK.out.cell 11
 have k := Z_k.out
 have p1 := Z_p1.out
 have p2 := Z_p2.out
 have l1 := Z_l1.out
 have r1 := Z_r1.out
 have r2 := Z_r2.out
 have t1 := Z_t1.out
 go_wp2_with (go_at_call 166; refine (okNum_any _ _ HN.out).mono ?_; rintro e w1 ⟨rfl, rfl⟩)
 go_ret
 exact ⟨rfl, HBA.out⟩
end Go.Proofs.YtdlchhimkelinaaGreatDoor
