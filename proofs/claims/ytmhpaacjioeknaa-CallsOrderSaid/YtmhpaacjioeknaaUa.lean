/-
  DERIVED. Plain: what the program is that is read.
-/
import Derived.Test.YtmhpaacjioeknaaP14


namespace Go.Proofs.Ytmhpaacjioeknaa
open Go.RowKit Go.Sort
namespace Pr

section
variable {t : List Tk}
theorem decl_fwd {u v : St} {x : Dc} (h : decl t u = .ok (x, v)) : Fwd 1 u v := by
  obtain ⟨a, u1, h1, h⟩ := th_ok h
  obtain ⟨b, u2, h2, h⟩ := th_ok h
  injection h with h; injection h with _ h; subst h
  exact ((variable_fwd h1).tr (must_fwd h2)).le (by omega)

end
end Pr
end Go.Proofs.Ytmhpaacjioeknaa



namespace Go.Proofs.Ytmhpaacjioeknaa
namespace Pn
open Tx (Lx Clear NoPair Any)

theorem okN_word {x : ByteArray} (h : okN x = true) : Tx.isWord (txt x) ∧ Tx.isKeyL (txt x) = false := by
  unfold okN at h
  simp only [Bool.and_eq_true, Bool.not_eq_true', List.all_eq_true, decide_eq_true_eq] at h
  obtain ⟨⟨⟨h1, h2⟩, h3⟩, h4⟩ := h
  refine ⟨⟨?_, h2, h3⟩, h4⟩
  cases ht : txt x with
  | nil => rw [ht] at h1; simp at h1
  | cons b l => rw [ht] at h1; exact ⟨b, l, rfl, h1⟩



end Pn
end Go.Proofs.Ytmhpaacjioeknaa



namespace Go.Proofs.Ytmhpaacjioeknaa
namespace Pn
open Pr (th St Res)

section
variable {t : List Pr.Tk}
theorem okN_ne {x : ByteArray} (h : okN x = true) {a : List UInt8} (ha : Tx.isKeyL a = true ∨ ∀ b l, a = b :: l → Tx.wrd (b.toNat : Int) = false) : txt x ≠ a := by
  intro e
  obtain ⟨⟨⟨b, l, hb, hl⟩, hw, _⟩, h2⟩ := okN_word h
  rcases ha with ha | ha
  · rw [e, ha] at h2; cases h2
  · have h3 := ha b l (e.symm.trans hb)
    rw [hw b (by rw [hb]; exact List.mem_cons_self)] at h3; cases h3
end
end Pn
end Go.Proofs.Ytmhpaacjioeknaa



namespace Go.Proofs.Ytmhpaacjioeknaa
namespace Pn
open Pr (th St Res)

theorem dp_nn : ∀ l : SL, 0 ≤ dp l
  | .nil => Int.le_refl _
  | .cons _ _ _ t _ _ e r => by have := dp_nn r; simp only [dp]; omega
section
variable {t : List Pr.Tk}
end
end Pn
end Go.Proofs.Ytmhpaacjioeknaa




namespace Go.Proofs.Ytmhpaacjioeknaa
open Go.RowKit Go.Sort
namespace Pa
open Pr (St Res th noTm noPth noVl noCd noHd th_ok)

section
variable (l : List Tx.Sg)
end

section
variable {l : List Tx.Sg}
theorem decl_er (u : St) : Like Dc.er (decl l u) (Pr.decl (ts l) u) :=
  Like.th (variable_er u) fun _ v => Like.th (must_er _ v) fun _ _ => Like.ok rfl
section
variable {rec rec' : St → Res SL} (h : ∀ u, Like SL.er (rec u) (rec' u))
include h
end
theorem stmts_er : ∀ (n : Nat) (u : St), Like SL.er (stmts l n u) (Pr.stmts (ts l) n u)
  | 0, _ => rfl
  | n + 1, u => by
    unfold stmts Pr.stmts
    exact Like.ite (Like.th (stmt_er (stmts_er n) u) fun _ v => Like.th (stmts_er n v) fun _ _ => Like.ok rfl) (Like.ok rfl)
theorem fields_er : ∀ (n : Nat) (acc : List Dc) (u : St), Like (List.map Dc.er) (fields l n acc u) (Pr.fields (ts l) n (acc.map Dc.er) u)
  | 0, _, _ => rfl
  | n + 1, acc, u => by
    unfold fields Pr.fields
    refine Like.ite (Like.ok rfl) (Like.th (pointer_er u) fun d v => Like.th (must_er _ v) fun _ v => ?_)
    have := fields_er n (acc ++ [d]) v
    rw [List.map_append] at this
    exact this
theorem structure_er (u : St) : Like Sr.er (structure_ l u) (Pr.structure_ (ts l) u) :=
  Like.th (must_er _ u) fun _ v => Like.th (name_er v) fun _ v => Like.th (must_er _ v) fun _ v => Like.th (fields_er _ [] v) fun _ _ => Like.ok rfl
theorem locals_er : ∀ (n : Nat) (acc : List Dc) (u : St), Like (List.map Dc.er) (locals l n acc u) (Pr.locals (ts l) n (acc.map Dc.er) u)
  | 0, _, _ => rfl
  | n + 1, acc, u => by
    unfold locals Pr.locals
    refine Like.ite (Like.th (decl_er u) fun d v => ?_) (Like.ok rfl)
    have := locals_er n (acc ++ [d]) v
    rw [List.map_append] at this
    exact this
end
section
variable (l : List Tx.Sg)
theorem proc_er (u : St) : Like Pc.er (proc l u) (Pr.proc (ts l) u) :=
  Like.th (must_er _ u) fun _ v => Like.th (name_er v) fun _ v => Like.th (listed_er variable_er v) fun _ v => Like.th (must_er _ v) fun _ v => Like.th (locals_er _ [] v) fun _ v => Like.th (stmts_er _ v) fun _ v => Like.th (must_er _ v) fun _ _ => Like.ok rfl
theorem program_er : ∀ (n : Nat) (ss : List Sr) (gs : List Dc) (ps : List Pc) (u : St), Like Pg.er (program l n ss gs ps u) (Pr.program (ts l) n (ss.map Sr.er) (gs.map Dc.er) (ps.map Pc.er) u)
  | 0, _, _, _, _ => rfl
  | n + 1, ss, gs, ps, u => by
    unfold program Pr.program
    rw [kind_tk]
    refine Like.ite (Like.ok rfl) (Like.ite (Like.th (structure_er u) fun x v => ?_) (Like.ite (Like.th (proc_er l u) fun x v => ?_) (Like.th (decl_er u) fun x v => ?_)))
    · have := program_er n (ss ++ [x]) gs ps v; rw [List.map_append] at this; exact this
    · have := program_er n ss gs (ps ++ [x]) v; rw [List.map_append] at this; exact this
    · have := program_er n ss (gs ++ [x]) ps v; rw [List.map_append] at this; exact this
end
end Pa
end Go.Proofs.Ytmhpaacjioeknaa



namespace Go.Proofs.Ytmhpaacjioeknaa
open Go.RowKit Go.Sort
namespace Pa
open Pr (St Res th noHd)

theorem Eqo.rfl' {α : Type} (r : Res α) : Eqo r r := fun _ => Iff.rfl
variable {l : List Tx.Sg}
theorem block_eqo {r1 r2 : St → Res SL} (h : ∀ u x, r1 u = .ok x ↔ (r2 u = .ok x ∧ fin l x.2)) (u : St) : Eqo (block l r1 u) (block l r2 u) := by
  unfold block Pr.block
  refine Eqo.th (Eqo.rfl' _) fun _ u1 => Eqo.th (Eqo.rfl' _) fun _ u2 => ?_
  intro x
  rcases q1 : r1 ⟨u2.i, u2.o + 1, u2.b⟩ with n | ⟨a, v⟩
  · rcases q2 : r2 ⟨u2.i, u2.o + 1, u2.b⟩ with m | ⟨b, v⟩
    · exact ⟨(fun e => by cases e), (fun e => by cases e)⟩
    · have hn : ¬ fin l v := fun hf => by
        have := (h _ (b, v)).2 ⟨q2, hf⟩
        rw [q1] at this; cases this
      have hm : Pr.is (ts l) v.i ⟨#[125]⟩ = false := by
        rcases q : Pr.is (ts l) v.i ⟨#[125]⟩ with _ | _
        · rfl
        · exact absurd (.inr q) hn
      constructor
      · intro e; cases e
      · intro e
        change Pr.th (Pr.must (ts l) ⟨#[125]⟩ v) _ = _ at e
        unfold Pr.must at e
        rw [if_neg (by rw [hm]; decide)] at e
        cases e
  · have := ((h _ (a, v)).1 q1).1
    rw [this]
theorem stmt_eqo {r1 r2 : St → Res SL} (h : ∀ u x, r1 u = .ok x ↔ (r2 u = .ok x ∧ fin l x.2)) (u : St) : Eqo (stmt l r1 u) (stmt l r2 u) := by
  rw [stmt_rbody, stmt_rbody]
  refine Eqo.th (Eqo.rfl' _) fun _ u => ?_
  unfold rbody
  refine Eqo.ite (Eqo.rfl' _) (Eqo.ite (Eqo.th (block_eqo h u) fun _ _ => Eqo.rfl' _) (Eqo.ite (Eqo.rfl' _) (Eqo.ite ?_ (Eqo.ite ?_ (Eqo.rfl' _)))))
  · unfold branch
    refine Eqo.th (Eqo.rfl' _) fun _ v => Eqo.th (Eqo.rfl' _) fun _ v => Eqo.th (block_eqo h v) fun _ v => Eqo.ite (Eqo.th (block_eqo h _) fun _ _ => Eqo.rfl' _) (Eqo.rfl' _)
  · unfold loop
    exact Eqo.th (Eqo.rfl' _) fun _ v => Eqo.th (Eqo.rfl' _) fun _ v => Eqo.th (block_eqo h v) fun _ _ => Eqo.rfl' _
/-- Where statements end, none begins. -/
theorem begins_fin {N : Nat} (C : RC l N) {u : St} (hi : u.i < l.length) (hf : fin l u) : Pr.begins (ts l) u = false := by
  have hx : l[u.i]? = some (sg l u.i) := by unfold sg; rw [List.getD_eq_getElem?_getD, List.getElem?_eq_getElem hi]; rfl
  have hkk : (Pr.sg (ts l) u.i).kind = (sg l u.i).kind := (kind_tk _).symm
  rcases hf with h0 | h1
  · have ht : (sg l u.i).text = ByteArray.empty := C.good.none _ _ hx ((C.good.fin _ _ hx).1 h0)
    have hne : ∀ s : ByteArray, s.toList ≠ [] → Pr.is (ts l) u.i s = false := by
      intro s hs
      unfold Pr.is
      rw [← sg_tk]
      show ((sg l u.i).text.toList == s.toList) = false
      rw [ht, beq_eq_false_iff_ne, Lib.toList_data]
      intro e; exact hs e.symm
    unfold Pr.begins
    rw [hne _ (by rw [Lib.toList_data]; decide), hne _ (by rw [Lib.toList_data]; decide), hne _ (by rw [Lib.toList_data]; decide), hne _ (by rw [Lib.toList_data]; decide), hne _ (by rw [Lib.toList_data]; decide), hkk, h0]
    rfl
  · unfold Pr.begins
    rw [is_one h1 (by rw [Lib.toList_data, Lib.toList_data]; decide), is_one h1 (by rw [Lib.toList_data, Lib.toList_data]; decide), is_one h1 (by rw [Lib.toList_data, Lib.toList_data]; decide), is_one h1 (by rw [Lib.toList_data, Lib.toList_data]; decide), is_one h1 (by rw [Lib.toList_data, Lib.toList_data]; decide), hkk]
    rw [← isNx_pr hi] at h1
    rcases isNx_kind C.kinds (by omega) (by decide) h1 with hh | hh <;> rw [rsg_lt hi] at hh <;> rw [hh] <;> rfl
end Pa
end Go.Proofs.Ytmhpaacjioeknaa



namespace Go.Proofs.Ytmhpaacjioeknaa
open Go.RowKit Go.Sort
namespace Pa
open Pr (St Res th noHd)
variable {l : List Tx.Sg}
theorem is_out {i : Nat} {s : ByteArray} (h : ¬ i < l.length) (hs : s.toList ≠ []) : Pr.is (ts l) i s = false := by
  unfold Pr.is
  rw [← sg_tk]
  show ((sg l i).text.toList == s.toList) = false
  have : (sg l i).text = ByteArray.empty := by
    unfold sg; rw [List.getD_eq_getElem?_getD, List.getElem?_eq_none (by omega)]; rfl
  rw [this, beq_eq_false_iff_ne, Lib.toList_data]
  intro e; exact hs e.symm
theorem begins_end {N : Nat} (C : RC l N) {u : St} (hf : fin l u) : Pr.begins (ts l) u = false := by
  by_cases hi : u.i < l.length
  · exact begins_fin C hi hf
  · have hk : (Pr.sg (ts l) u.i).kind = 0 := by
      rw [← kind_tk]; unfold sg; rw [List.getD_eq_getElem?_getD, List.getElem?_eq_none (by omega)]; rfl
    unfold Pr.begins
    rw [is_out hi (by rw [Lib.toList_data]; decide), is_out hi (by rw [Lib.toList_data]; decide), is_out hi (by rw [Lib.toList_data]; decide), is_out hi (by rw [Lib.toList_data]; decide), is_out hi (by rw [Lib.toList_data]; decide), hk]
    rfl
theorem rstmt_none {rec : St → Res SL} {u : St} (hb : Pr.begins (ts l) u = false) (x : (Hd × SL × SL) × St) : rstmt l rec u ≠ .ok x := by
  unfold Pr.begins at hb
  simp only [Bool.or_eq_false_iff] at hb
  obtain ⟨⟨⟨⟨⟨h1, h2⟩, h3⟩, h4⟩, h5⟩, h6⟩ := hb
  have hk : ¬ (sg l u.i).kind = 1 := by
    rw [kind_tk]; rw [beq_eq_false_iff_ne] at h6; exact h6
  unfold rstmt
  split
  · intro e; cases e
  · unfold rbody named path name
    show (if Pr.is (ts l) u.i ⟨#[59]⟩ = true then _ else _) ≠ _
    rw [if_neg (by rw [h1]; decide), if_neg (by rw [h2]; decide), if_neg (by rw [h3]; decide), if_neg (by rw [h4]; decide), if_neg (by rw [h5]; decide)]
    rw [if_neg hk]
    split
    · intro e; cases e
    · intro e; cases e
theorem rstmts_iff {N : Nat} (C : RC l N) : ∀ (n : Nat) (u : St) (x : SL × St), rstmts l (rstmt l) n u = .ok x ↔ (stmts l n u = .ok x ∧ fin l x.2)
  | 0, u, x => ⟨(fun e => by cases e), (fun e => by cases e.1)⟩
  | n + 1, u, x => by
    unfold rstmts stmts
    by_cases hf : (sg l u.i).kind = 0 ∨ Pr.is (ts l) u.i ⟨#[125]⟩ = true
    · rw [if_pos hf, if_neg (by rw [begins_end C hf]; decide)]
      exact ⟨fun e => ⟨e, by injection e with e; rw [← e]; exact hf⟩, And.left⟩
    · rw [if_neg hf]
      by_cases hb : Pr.begins (ts l) u = true
      · rw [if_pos hb]
        have hs : ∀ y, rstmt l (rstmts l (rstmt l) n) u = .ok y ↔ stmt l (stmts l n) u = .ok y := fun y => (rstmt_iff _ u y).trans (stmt_eqo (rstmts_iff C n) u y)
        rcases q : stmt l (stmts l n) u with m | ⟨a, v⟩
        · rcases q' : rstmt l (rstmts l (rstmt l) n) u with m' | y
          · exact ⟨(fun e => by cases e), (fun e => by cases e.1)⟩
          · have := (hs y).1 q'
            rw [q] at this; cases this
        · rw [(hs (a, v)).2 q]
          show thenOnto [itB a] (rstmts l (rstmt l) n v) = _ ↔ (Pr.th (stmts l n v) _ = _ ∧ _)
          rcases q3 : rstmts l (rstmt l) n v with m | ⟨s, z⟩
          · rcases q4 : stmts l n v with m' | ⟨s', z'⟩
            · exact ⟨(fun e => by cases e), (fun e => by cases e.1)⟩
            · have hn : ¬ fin l z' := fun h => by
                have := (rstmts_iff C n v (s', z')).2 ⟨q4, h⟩
                rw [q3] at this; cases this
              refine ⟨(fun e => by cases e), fun e => ?_⟩
              obtain ⟨e1, e2⟩ := e
              injection e1 with e1
              rw [← e1] at e2
              exact absurd e2 hn
          · obtain ⟨h1, h2⟩ := (rstmts_iff C n v (s, z)).1 q3
            rw [h1]
            exact ⟨fun e => ⟨e, by injection e with e; rw [← e]; exact h2⟩, And.left⟩
      · rw [if_neg hb]
        have hb' : Pr.begins (ts l) u = false := by simpa using hb
        rcases q' : rstmt l (rstmts l (rstmt l) n) u with m' | y
        · refine ⟨(fun e => by cases e), fun e => ?_⟩
          obtain ⟨e1, e2⟩ := e
          injection e1 with e1
          rw [← e1] at e2
          exact absurd e2 hf
        · exact absurd q' (rstmt_none hb' y)
end Pa
end Go.Proofs.Ytmhpaacjioeknaa



namespace Go.Proofs.Ytmhpaacjioeknaa
open Go.RowKit Go.Sort
namespace Pa
open Pr (St Res th noHd)
variable {l : List Tx.Sg}
end Pa
end Go.Proofs.Ytmhpaacjioeknaa



namespace Go.Proofs.Ytmhpaacjioeknaa
open Go.RowKit Go.Sort

namespace Pa
theorem structure_strct (l : List Tx.Sg) (u : Pr.St) : structure_ l u = Pr.th (Pr.must (ts l) ⟨#[115, 116, 114, 117, 99, 116]⟩ u) fun _ u => strct l u := rfl
end Pa
section
variable {α : Type} {rb sb cap : Nat} {l : List Tx.Sg} {o : Int} {N : Nat}
end
end Go.Proofs.Ytmhpaacjioeknaa




namespace Go.Proofs.Ytmhpaacjioeknaa
namespace Pn
open Pr (th St Res th_ok)

/-- All names and numbers among the signs may be. -/
def Gt (t : List Pr.Tk) : Prop := ∀ i, ((Pr.sg t i).kind = 1 → okN (Pr.sg t i).text = true) ∧ ((Pr.sg t i).kind = 2 → okNum (Pr.sg t i).num = true)
theorem fold_bound : ∀ (l : List UInt8) (n : Int) (k : Nat), 0 ≤ n → n < 10 ^ k → (∀ b ∈ l, Tx.dgt (b.toNat : Int) = true) → 0 ≤ l.foldl (fun n b => 10 * n + ((b.toNat : Int) - 48)) n ∧ l.foldl (fun n b => 10 * n + ((b.toNat : Int) - 48)) n < 10 ^ (k + l.length)
  | [], n, k, h0, h1, _ => ⟨h0, by simpa using h1⟩
  | b :: l, n, k, h0, h1, hd => by
    have hb := hd b List.mem_cons_self
    unfold Tx.dgt at hb
    simp only [decide_eq_true_eq] at hb
    have hp : (10 : Int) ^ (k + 1) = 10 * 10 ^ k := by rw [Int.pow_succ, Int.mul_comm]
    have := fold_bound l (10 * n + ((b.toNat : Int) - 48)) (k + 1) (by omega) (by rw [hp]; omega) (fun c hc => hd c (List.mem_cons_of_mem _ hc))
    rw [show k + 1 + l.length = k + (l.length + 1) by omega] at this
    exact this
theorem tokL_gt (D : List UInt8) : ((Tx.tokL D).kind = 1 → okN ⟨(D.take (Tx.tokL D).len).toArray⟩ = true) ∧ ((Tx.tokL D).kind = 2 → okNum (Tx.tokL D).num = true) := by
  cases D with
  | nil => exact ⟨fun h => absurd h (by show ¬ (0 : Int) = 1; decide), fun h => absurd h (by show ¬ (0 : Int) = 2; decide)⟩
  | cons b l =>
    rw [Tx.tokL_cons]
    by_cases hl : Tx.ltr (b.toNat : Int) = true
    · rw [if_pos hl]
      by_cases h16 : 16 < Tx.run Tx.wrd (b :: l)
      · rw [if_pos h16]; exact ⟨fun h => absurd h (by show ¬ (0 : Int) = 1; decide), fun h => absurd h (by show ¬ (0 : Int) = 2; decide)⟩
      · rw [if_neg h16]
        by_cases hk : Tx.isKeyL ((b :: l).take (Tx.run Tx.wrd (b :: l))) = true
        · rw [if_pos hk]; exact ⟨fun h => absurd h (by show ¬ (3 : Int) = 1; decide), fun h => absurd h (by show ¬ (3 : Int) = 2; decide)⟩
        · rw [if_neg hk]
          refine ⟨fun _ => ?_, fun h => absurd h (by show ¬ (1 : Int) = 2; decide)⟩
          have hw : Tx.wrd (b.toNat : Int) = true := by unfold Tx.wrd; rw [hl]; rfl
          have hall := run_take Tx.wrd (b :: l)
          have hrun : Tx.run Tx.wrd (b :: l) = Tx.run Tx.wrd l + 1 := by simp only [Tx.run, hw, if_true]
          show okN ⟨((b :: l).take (Tx.run Tx.wrd (b :: l))).toArray⟩ = true
          unfold okN txt
          simp only [Bool.and_eq_true, Bool.not_eq_true', List.all_eq_true, decide_eq_true_eq]
          refine ⟨⟨⟨?_, hall⟩, by rw [List.length_take]; omega⟩, by simpa using hk⟩
          rw [hrun, List.take_succ_cons]; exact hl
    · rw [if_neg hl]
      by_cases hg : Tx.dgt (b.toNat : Int) = true
      · rw [if_pos hg]
        by_cases h9 : 9 < Tx.run Tx.dgt (b :: l)
        · rw [if_pos h9]; exact ⟨fun h => absurd h (by show ¬ (0 : Int) = 1; decide), fun h => absurd h (by show ¬ (0 : Int) = 2; decide)⟩
        · rw [if_neg h9]
          refine ⟨fun h => absurd h (by show ¬ (2 : Int) = 1; decide), fun _ => ?_⟩
          obtain ⟨g1, g2⟩ := fold_bound ((b :: l).take (Tx.run Tx.dgt (b :: l))) 0 0 (Int.le_refl _) (by decide) (run_take Tx.dgt (b :: l))
          have hle : (10 : Int) ^ (0 + ((b :: l).take (Tx.run Tx.dgt (b :: l))).length) ≤ 10 ^ 9 := by
            have : ((b :: l).take (Tx.run Tx.dgt (b :: l))).length ≤ 9 := by rw [List.length_take]; omega
            have h2 : (10 : Nat) ^ (0 + ((b :: l).take (Tx.run Tx.dgt (b :: l))).length) ≤ 10 ^ 9 := Nat.pow_le_pow_right (by decide) (by omega)
            exact_mod_cast h2
          show okNum (Tx.val ((b :: l).take (Tx.run Tx.dgt (b :: l)))) = true
          unfold okNum Tx.val
          simp only [Bool.and_eq_true, decide_eq_true_eq]
          exact ⟨g1, by omega⟩
      · rw [if_neg hg]
        split
        · exact ⟨fun h => absurd h (by show ¬ (0 : Int) = 1; decide), fun h => absurd h (by show ¬ (0 : Int) = 2; decide)⟩
        · exact ⟨fun h => absurd h (by show ¬ (4 : Int) = 1; decide), fun h => absurd h (by show ¬ (4 : Int) = 2; decide)⟩
theorem nx_gt (s : ByteArray) (i : Nat) : ((Tx.nx s i).sg.kind = 1 → okN (Tx.nx s i).sg.text = true) ∧ ((Tx.nx s i).sg.kind = 2 → okNum (Tx.nx s i).sg.num = true) := by
  have h := Tx.nx_list s i
  have hp := Tx.part_take s (Tx.skp s i) (Tx.tokL (s.data.toList.drop (Tx.skp s i))).len
  have hg := tokL_gt (s.data.toList.drop (Tx.skp s i))
  rw [← hp] at hg
  rw [show (⟨(s.extract (Tx.skp s i) (Tx.skp s i + (Tx.tokL (s.data.toList.drop (Tx.skp s i))).len)).data.toList.toArray⟩ : ByteArray) = s.extract (Tx.skp s i) (Tx.skp s i + (Tx.tokL (s.data.toList.drop (Tx.skp s i))).len) by rw [Array.toArray_toList]] at hg
  rw [h]; exact hg
theorem chain_gt : ∀ (l : List Tx.Sg) (s : ByteArray) (i : Nat), Tx.Chain s i l → ∀ a ∈ l, (a.kind = 1 → okN a.text = true) ∧ (a.kind = 2 → okNum a.num = true)
  | [], s, i, h => h.elim
  | b :: l, s, i, h => by
    obtain ⟨_, rfl, h1⟩ := h
    intro a ha
    rcases List.mem_cons.1 ha with rfl | ha
    · exact nx_gt s i
    · rcases h1 with ⟨_, rfl⟩ | ⟨_, hc⟩
      · simp at ha
      · exact chain_gt l s _ hc a ha
theorem alls_gt (s : ByteArray) (h : (Tx.alls s).2.2 = 0) : Gt ((Tx.alls s).1.map Pr.tk) := by
  intro i
  unfold Pr.sg
  rw [List.getD_eq_getElem?_getD]
  cases hx : ((Tx.alls s).1.map Pr.tk)[i]? with
  | none => exact ⟨fun h => absurd h (by show ¬ (0 : Int) = 1; decide), fun h => absurd h (by show ¬ (0 : Int) = 2; decide)⟩
  | some y =>
    obtain ⟨a, ha, rfl⟩ := List.mem_map.1 (List.mem_of_getElem? hx)
    exact chain_gt _ s 0 (Tx.alls_chain s h) a ha

theorem fwd_o {n : Nat} {u v : St} (h : Pr.Fwd n u v) : v.o = u.o ∧ v.b = u.b := h.2
section
variable {t : List Pr.Tk}
theorem name_gt (g : Gt t) {u v : St} {x : Pr.Tk} (h : Pr.name t u = .ok (x, v)) : okN x.text = true := by
  unfold Pr.name at h
  split at h
  · rename_i hk
    injection h with h; injection h with h _; subst h
    exact (g u.i).1 hk
  · cases h
theorem hops_gt (g : Gt t) : ∀ (n : Nat) (acc : List Hp) (u : St) {l : List Hp} {v : St}, Pr.hops t n acc u = .ok (l, v) → (∀ x ∈ acc, okN x.name = true) → l.length ≤ acc.length + n ∧ ∀ x ∈ l, okN x.name = true
  | 0, acc, u, l, v, h, ha => by
    unfold Pr.hops at h
    split at h
    · cases h
    · injection h with h; injection h with h _; subst h; exact ⟨by omega, ha⟩
  | n + 1, acc, u, l, v, h, ha => by
    unfold Pr.hops at h
    split at h
    · obtain ⟨x, w, h1, h2⟩ := th_ok h
      have := hops_gt g n _ w h2 (by
        intro y hy
        rcases List.mem_append.1 hy with hy | hy
        · exact ha y hy
        · rw [List.mem_singleton.1 hy]; exact name_gt g h1)
      exact ⟨by have := this.1; simp at this; omega, this.2⟩
    · injection h with h; injection h with h _; subst h; exact ⟨by omega, ha⟩
theorem path_gt (g : Gt t) {u v : St} {x : Pth} (h : Pr.path t u = .ok (x, v)) : okPath x = true := by
  obtain ⟨a, u1, h1, h⟩ := th_ok h
  obtain ⟨b, u2, h2, h⟩ := th_ok h
  injection h with h; injection h with h _; subst h
  have hh := hops_gt g _ _ _ h2 (by simp)
  unfold okPath
  simp only [Bool.and_eq_true, decide_eq_true_eq, List.all_eq_true]
  exact ⟨⟨name_gt g h1, by simpa using hh.1⟩, hh.2⟩
theorem term_gt (g : Gt t) {u v : St} {x : Tm} (h : Pr.term t u = .ok (x, v)) : okTerm x = true := by
  unfold Pr.term at h
  split at h
  · rename_i hk
    injection h with h; injection h with h _; subst h
    unfold okTerm
    exact (if_pos (rfl : txt ByteArray.empty = [])).trans ((g u.i).2 hk)
  · obtain ⟨a, u1, h1, h⟩ := th_ok h
    injection h with h; injection h with h _; subst h
    have hn := name_gt g h1
    unfold okTerm
    rw [if_neg (fun e => okN_ne hn (.inr (fun b l e => by cases e)) e)]
    rw [hn]; rfl
theorem side_gt (g : Gt t) {u v : St} {x : Vl} (h : Pr.side t u = .ok (x, v)) : okSide x = true := by
  unfold Pr.side at h
  split at h
  · injection h with h; injection h with h _; subst h; rfl
  · split at h
    · rename_i hk
      obtain ⟨a, u1, h1, h⟩ := th_ok h
      injection h with h; injection h with h _; subst h
      unfold Pr.term at h1
      rw [if_pos hk] at h1
      injection h1 with h1; injection h1 with h1 _; subst h1
      have := (g u.i).2 hk
      unfold okSide okVal
      simp [Pr.noVl, noP, noT, Pr.noPth, Pr.noTm, txt, this]
    · obtain ⟨a, u1, h1, h⟩ := th_ok h
      injection h with h; injection h with h _; subst h
      have := path_gt g h1
      unfold okSide okVal
      simp [Pr.noVl, noT, Pr.noTm, txt, this]
theorem value_gt (g : Gt t) {u v : St} {x : Vl} (h : Pr.value t u = .ok (x, v)) : okVal x = true := by
  unfold Pr.value at h
  split at h
  · obtain ⟨a, u1, h1, h⟩ := th_ok h
    injection h with h; injection h with h _; subst h
    have := name_gt g h1
    unfold okVal
    simp [Pr.noVl, noP, noT, Pr.noPth, Pr.noTm, txt, this]
  · split at h
    · injection h with h; injection h with h _; subst h; rfl
    · split at h
      · obtain ⟨a, u1, h1, h⟩ := th_ok h
        obtain ⟨b, u2, h2, h⟩ := th_ok h
        injection h with h; injection h with h _; subst h
        have ha := term_gt g h1
        have hb := term_gt g h2
        unfold okVal
        split <;> simp [Pr.noVl, noP, Pr.noPth, txt, ha, hb]
      · have := side_gt g h
        unfold okSide at this
        simp only [Bool.and_eq_true] at this
        exact this.1
theorem relation_gt {u v : St} {k : Int} (h : Pr.relation t u = .ok (k, v)) : 1 ≤ k ∧ k ≤ 4 := by
  unfold Pr.relation at h
  split at h
  · injection h with h; injection h with h _; subst h; decide
  · split at h
    · injection h with h; injection h with h _; subst h; decide
    · split at h
      · injection h with h; injection h with h _; subst h; decide
      · obtain ⟨a, u1, h1, h⟩ := th_ok h
        injection h with h; injection h with h _; subst h; decide
theorem cond_gt (g : Gt t) {u v : St} {x : Cd} (h : Pr.cond t u = .ok (x, v)) : okCond x = true := by
  unfold Pr.cond at h
  split at h
  · injection h with h; injection h with h _; subst h; rfl
  · obtain ⟨a, u1, h1, h⟩ := th_ok h
    obtain ⟨b, u2, h2, h⟩ := th_ok h
    obtain ⟨c, u3, h3, h⟩ := th_ok h
    injection h with h; injection h with h _; subst h
    have hr := relation_gt h2
    unfold okCond
    rw [if_neg (by show ¬ b = 0; omega)]
    simp only [Bool.and_eq_true, decide_eq_true_eq]
    exact ⟨⟨hr, side_gt g h1⟩, side_gt g h3⟩
theorem held_gt (g : Gt t) {u v : St} {x : Cd} (h : Pr.held t u = .ok (x, v)) : okCond x = true := by
  obtain ⟨a, u1, h1, h⟩ := th_ok h
  obtain ⟨b, u2, h2, h⟩ := th_ok h
  obtain ⟨c, u3, h3, h⟩ := th_ok h
  injection h with h; injection h with h _; subst h
  exact cond_gt g h2
theorem more_gt {α : Type} {P : α → Prop} {item : St → Res α} (hi : ∀ u x v, item u = .ok (x, v) → P x) : ∀ (n : Nat) (acc : List α) (u : St) {l : List α} {v : St}, Pr.more t item n acc u = .ok (l, v) → (∀ x ∈ acc, P x) → ∀ x ∈ l, P x
  | 0, acc, u, l, v, h, _ => by cases h
  | n + 1, acc, u, l, v, h, ha => by
    unfold Pr.more at h
    split at h
    · obtain ⟨x, w, h1, h2⟩ := th_ok h
      refine more_gt hi n _ w h2 fun y hy => ?_
      rcases List.mem_append.1 hy with hy | hy
      · exact ha y hy
      · rw [List.mem_singleton.1 hy]; exact hi _ _ _ h1
    · obtain ⟨a, u1, h1, h⟩ := th_ok h
      injection h with h; injection h with h _; subst h
      exact ha
theorem listed_gt {α : Type} {P : α → Prop} {item : St → Res α} (hi : ∀ u x v, item u = .ok (x, v) → P x) {u v : St} {l : List α} (h : Pr.listed t item u = .ok (l, v)) : ∀ x ∈ l, P x := by
  obtain ⟨a, u1, h1, h⟩ := th_ok h
  split at h
  · injection h with h; injection h with h _; subst h; simp
  · obtain ⟨b, u2, h2, h⟩ := th_ok h
    exact more_gt hi _ _ _ h (fun x hx => by rw [List.mem_singleton.1 hx]; exact hi _ _ _ h2)
theorem pointer_gt (g : Gt t) {u v : St} {x : Dc} (h : Pr.pointer t u = .ok (x, v)) : okField x = true := by
  obtain ⟨a, u1, h1, h⟩ := th_ok h
  obtain ⟨b, u2, h2, h⟩ := th_ok h
  obtain ⟨c, u3, h3, h⟩ := th_ok h
  injection h with h; injection h with h _; subst h
  have ha := name_gt g h1
  have hn : ¬ txt a.text = [] := fun e => okN_ne ha (.inr (fun b l e => by cases e)) e
  unfold okField okDecl
  simp [ha, name_gt g h3, hn]
theorem variable_gt (g : Gt t) {u v : St} {x : Dc} (h : Pr.variable_ t u = .ok (x, v)) : okDecl x = true := by
  unfold Pr.variable_ at h
  split at h
  · obtain ⟨a, u1, h1, h⟩ := th_ok h
    injection h with h; injection h with h _; subst h
    unfold okDecl
    simp [name_gt g h1, txt]
  · have := pointer_gt g h
    unfold okField at this
    simp only [Bool.and_eq_true] at this
    exact this.1
theorem decl_gt (g : Gt t) {u v : St} {x : Dc} (h : Pr.decl t u = .ok (x, v)) : okDecl x = true := by
  obtain ⟨a, u1, h1, h⟩ := th_ok h
  obtain ⟨b, u2, h2, h⟩ := th_ok h
  injection h with h; injection h with h _; subst h
  exact variable_gt g h1
end
end Pn
end Go.Proofs.Ytmhpaacjioeknaa



namespace Go.Proofs.Ytmhpaacjioeknaa
namespace Pn
open Pr (th St Res th_ok)

theorem e_val : noVal Pr.noVl = true := by rfl
theorem e_cond : noCond Pr.noCd = true := by rfl
theorem e_pth : noP Pr.noPth = true := by rfl
theorem e_condk {c : Cd} (h : noCond c = true) : okCond c = true := by
  have h0 := h
  unfold noCond at h0
  simp only [Bool.and_eq_true, decide_eq_true_eq] at h0
  unfold okCond; rw [if_pos h0.1.1]; exact h
/-- What statements leave that were read from u on. -/
def Sp (u v : St) (l : SL) : Prop := okList l = true ∧ v.o = u.o ∧ v.b = u.b + cnt l ∧ v.b ≤ 400 ∧ u.o + dp l ≤ 20
section
variable {t : List Pr.Tk}
theorem block_gt {rec : St → Res SL} (hr : ∀ u l v, rec u = .ok (l, v) → u.b ≤ 400 → u.o ≤ 20 → Sp u v l) {u v : St} {l : SL} (h : Pr.block t rec u = .ok (l, v)) (hb : u.b ≤ 400) (ho : u.o ≤ 20) : okList l = true ∧ v.o = u.o ∧ v.b = u.b + cnt l ∧ v.b ≤ 400 ∧ u.o + 1 + dp l ≤ 20 := by
  obtain ⟨a, u1, h1, h⟩ := th_ok h
  obtain ⟨b, u2, h2, h⟩ := th_ok h
  obtain ⟨c, u3, h3, h⟩ := th_ok h
  obtain ⟨d, u4, h4, h⟩ := th_ok h
  injection h with h; injection h with hl h; subst h; subst hl
  obtain ⟨rfl, hne⟩ := Pr.mustHold_ok h1
  obtain ⟨hs, rfl⟩ := Pr.must_is h2
  have ho20 := hne hs
  obtain ⟨g1, g2, g3, g4, g5⟩ := hr _ _ _ h3 hb (by show u1.o + 1 ≤ 20; omega)
  have hF := fwd_o (Pr.must_fwd h4)
  simp only [St.go] at g2 g3 g5
  refine ⟨g1, ?_, ?_, ?_, g5⟩
  · show u4.o - 1 = _; rw [hF.1, g2]; omega
  · show u4.b = _; rw [hF.2, g3]
  · show u4.b ≤ _; rw [hF.2]; exact g4
theorem free_gt (g : Gt t) {u v : St} {x : Hd} (h : Pr.free t u = .ok (x, v)) : okStmt x true true = true ∧ x.kind = 2 := by
  obtain ⟨a, u1, h1, h⟩ := th_ok h
  obtain ⟨b, u2, h2, h⟩ := th_ok h
  obtain ⟨c, u3, h3, h⟩ := th_ok h
  obtain ⟨d, u4, h4, h⟩ := th_ok h
  obtain ⟨e, u5, h5, h⟩ := th_ok h
  injection h with h; injection h with h _; subst h
  have hp := path_gt g h3
  refine ⟨?_, rfl⟩
  unfold okStmt
  simp [Pr.noHd, hp, e_val, e_cond, noCall, txt]
theorem named_gt (g : Gt t) {u v : St} {x : Hd} (h : Pr.named t u = .ok (x, v)) : okStmt x true true = true ∧ (x.kind = 1 ∨ x.kind = 3) := by
  unfold Pr.named at h
  split at h
  · obtain ⟨a, u1, h1, h⟩ := th_ok h
    obtain ⟨b, u2, h2, h⟩ := th_ok h
    obtain ⟨c, u3, h3, h⟩ := th_ok h
    injection h with h; injection h with h _; subst h
    have hn := name_gt g h1
    have hl := listed_gt (P := fun x => okSide x = true) (fun _ _ _ h => side_gt g h) h2
    refine ⟨?_, .inr rfl⟩
    unfold okStmt
    simp [Pr.noHd, hn, e_val, e_cond, e_pth]
    exact hl
  · obtain ⟨a, u1, h1, h⟩ := th_ok h
    obtain ⟨b, u2, h2, h⟩ := th_ok h
    obtain ⟨c, u3, h3, h⟩ := th_ok h
    obtain ⟨d, u4, h4, h⟩ := th_ok h
    injection h with h; injection h with h _; subst h
    have hp := path_gt g h1
    have hv := value_gt g h3
    refine ⟨?_, .inl rfl⟩
    unfold okStmt
    simp [Pr.noHd, hp, hv, e_cond, noCall, txt]
theorem stmt_gt (g : Gt t) {rec : St → Res SL} (hr : ∀ u l v, rec u = .ok (l, v) → u.b ≤ 400 → u.o ≤ 20 → Sp u v l) {u v : St} {h : Hd} {T E : SL} (hs : Pr.stmt t rec u = .ok ((h, T, E), v)) (hb : u.b ≤ 400) (ho : u.o ≤ 20) :
    okStmt h (isNil T) (isNil E) = true ∧ okList T = true ∧ okList E = true ∧ v.o = u.o ∧ v.b = u.b + 1 + cnt T + cnt E ∧ v.b ≤ 400 ∧ u.o + (if 4 ≤ h.kind then 1 + max (dp T) (dp E) else 0) ≤ 20 := by
  obtain ⟨a, u1, h1, hs⟩ := th_ok hs
  obtain ⟨rfl, hn⟩ := Pr.count_ok h1
  have hb1 : u.b + 1 ≤ 400 := by omega
  split at hs
  · injection hs with hs; injection hs with hx hv; subst hv
    simp only [Prod.mk.injEq] at hx
    obtain ⟨rfl, rfl, rfl⟩ := hx
    exact ⟨by rfl, rfl, rfl, rfl, by show u.b + 1 = _; simp [cnt], hb1, by rw [if_neg (by show ¬ (4 : Int) ≤ 0; decide)]; omega⟩
  · split at hs
    · obtain ⟨b, u2, h2, hs⟩ := th_ok hs
      injection hs with hs; injection hs with hx hv; subst hv
      simp only [Prod.mk.injEq] at hx
      obtain ⟨rfl, rfl, rfl⟩ := hx
      obtain ⟨g1, g2, g3, g4, g5⟩ := block_gt hr h2 hb1 ho
      refine ⟨?_, g1, rfl, g2, by rw [g3]; simp [cnt], g4, ?_⟩
      · unfold okStmt; simp [Pr.noHd, e_val, e_cond, e_pth, noCall, txt, isNil]
      · rw [if_pos (by show (4 : Int) ≤ 6; decide)]
        have := dp_nn b
        have e : dp SL.nil = 0 := rfl
        simp only [e] at g5 ⊢
        omega
    · split at hs
      · obtain ⟨b, u2, h2, hs⟩ := th_ok hs
        injection hs with hs; injection hs with hx hv; subst hv
        simp only [Prod.mk.injEq] at hx
        obtain ⟨rfl, rfl, rfl⟩ := hx
        obtain ⟨f1, f2⟩ := free_gt g h2
        have hF := fwd_o (Pr.free_fwd h2)
        exact ⟨f1, rfl, rfl, hF.1, by rw [hF.2]; simp [cnt], by rw [hF.2]; exact hb1, by rw [if_neg (by omega)]; omega⟩
      · split at hs
        · obtain ⟨b, u2, h2, hs⟩ := th_ok hs
          obtain ⟨c, u3, h3, hs⟩ := th_ok hs
          obtain ⟨d, u4, h4, hs⟩ := th_ok hs
          have f2 := fwd_o (Pr.must_fwd h2)
          have f3 := fwd_o (Pr.held_fwd h3)
          have hc := held_gt g h3
          have o3 : u3.o = u.o := f3.1.trans f2.1
          have b3 : u3.b = u.b + 1 := f3.2.trans f2.2
          obtain ⟨g1, g2, g3, g4, g5⟩ := block_gt hr h4 (by omega) (by omega)
          split at hs
          · obtain ⟨e, u5, h5, hs⟩ := th_ok hs
            injection hs with hs; injection hs with hx hv; subst hv
            simp only [Prod.mk.injEq] at hx
            obtain ⟨rfl, rfl, rfl⟩ := hx
            obtain ⟨k1, k2, k3, k4, k5⟩ := block_gt hr h5 g4 (by show u4.o ≤ 20; omega)
            simp only [St.go] at k2 k3 k5
            refine ⟨?_, g1, k1, by omega, by omega, k4, ?_⟩
            · unfold okStmt; simp [Pr.noHd, e_val, e_pth, noCall, txt, hc]
            · rw [if_pos (by show (4 : Int) ≤ 4; decide)]; omega
          · injection hs with hs; injection hs with hx hv; subst hv
            simp only [Prod.mk.injEq] at hx
            obtain ⟨rfl, rfl, rfl⟩ := hx
            refine ⟨?_, g1, rfl, by omega, by rw [g3]; simp [cnt]; omega, g4, ?_⟩
            · unfold okStmt; simp [Pr.noHd, e_val, e_pth, noCall, txt, hc, isNil]
            · rw [if_pos (by show (4 : Int) ≤ 4; decide)]
              have := dp_nn d
              have e : dp SL.nil = 0 := rfl
              simp only [e]
              omega
        · split at hs
          · obtain ⟨b, u2, h2, hs⟩ := th_ok hs
            obtain ⟨c, u3, h3, hs⟩ := th_ok hs
            obtain ⟨d, u4, h4, hs⟩ := th_ok hs
            have f2 := fwd_o (Pr.must_fwd h2)
            have f3 := fwd_o (Pr.held_fwd h3)
            have hc := held_gt g h3
            have o3 : u3.o = u.o := f3.1.trans f2.1
            have b3 : u3.b = u.b + 1 := f3.2.trans f2.2
            obtain ⟨g1, g2, g3, g4, g5⟩ := block_gt hr h4 (by omega) (by omega)
            injection hs with hs; injection hs with hx hv; subst hv
            simp only [Prod.mk.injEq] at hx
            obtain ⟨rfl, rfl, rfl⟩ := hx
            refine ⟨?_, g1, rfl, by omega, by rw [g3]; simp [cnt]; omega, g4, ?_⟩
            · unfold okStmt; simp [Pr.noHd, e_val, e_pth, noCall, txt, hc, isNil]
            · rw [if_pos (by show (4 : Int) ≤ 5; decide)]
              have := dp_nn d
              have e : dp SL.nil = 0 := rfl
              simp only [e]
              omega
          · obtain ⟨b, u2, h2, hs⟩ := th_ok hs
            injection hs with hs; injection hs with hx hv; subst hv
            simp only [Prod.mk.injEq] at hx
            obtain ⟨rfl, rfl, rfl⟩ := hx
            obtain ⟨f1, f2⟩ := named_gt g h2
            have hF := fwd_o (Pr.named_fwd h2)
            exact ⟨f1, rfl, rfl, hF.1, by rw [hF.2]; simp [cnt], by rw [hF.2]; exact hb1, by rw [if_neg (by omega)]; omega⟩
theorem stmts_gt (g : Gt t) : ∀ (n : Nat) (u : St) (l : SL) (v : St), Pr.stmts t n u = .ok (l, v) → u.b ≤ 400 → u.o ≤ 20 → Sp u v l
  | 0, u, l, v, h, _, _ => by cases h
  | n + 1, u, l, v, h, hb, ho => by
    unfold Pr.stmts at h
    split at h
    · obtain ⟨⟨hh, a, e⟩, u1, h1, h⟩ := th_ok h
      obtain ⟨r, u2, h2, h⟩ := th_ok h
      injection h with h; injection h with hl h; subst h; subst hl
      obtain ⟨g1, g2, g3, g4, g5, g6, g7⟩ := stmt_gt g (fun u l v h hb ho => stmts_gt g n u l v h hb ho) h1 hb ho
      obtain ⟨k1, k2, k3, k4, k5⟩ := stmts_gt g n _ _ _ h2 g6 (by omega)
      refine ⟨?_, by omega, ?_, k4, ?_⟩
      · simp only [okList, Bool.and_eq_true]; exact ⟨⟨⟨g1, g2⟩, g3⟩, k1⟩
      · simp only [cnt]; omega
      · simp only [dp]; omega
    · injection h with h; injection h with hl h; subst h; subst hl
      exact ⟨rfl, rfl, by simp [cnt], hb, by simp [dp]; exact ho⟩
theorem fields_gt (g : Gt t) : ∀ (n : Nat) (acc : List Dc) (u : St) {l : List Dc} {v : St}, Pr.fields t n acc u = .ok (l, v) → (∀ x ∈ acc, okField x = true) → (∀ x ∈ l, okField x = true) ∧ v.o = u.o ∧ v.b = u.b
  | 0, acc, u, l, v, h, _ => by cases h
  | n + 1, acc, u, l, v, h, ha => by
    unfold Pr.fields at h
    split at h
    · injection h with h; injection h with hl h; subst h; subst hl; exact ⟨ha, rfl, rfl⟩
    · obtain ⟨x, u1, h1, h⟩ := th_ok h
      obtain ⟨y, u2, h2, h⟩ := th_ok h
      have f1 := fwd_o (Pr.pointer_fwd h1)
      have f2 := fwd_o (Pr.must_fwd h2)
      obtain ⟨k1, k2, k3⟩ := fields_gt g n _ u2 h (fun z hz => by
        rcases List.mem_append.1 hz with hz | hz
        · exact ha z hz
        · rw [List.mem_singleton.1 hz]; exact pointer_gt g h1)
      exact ⟨k1, k2.trans (f2.1.trans f1.1), k3.trans (f2.2.trans f1.2)⟩
theorem locals_gt (g : Gt t) : ∀ (n : Nat) (acc : List Dc) (u : St) {l : List Dc} {v : St}, Pr.locals t n acc u = .ok (l, v) → (∀ x ∈ acc, okDecl x = true) → (∀ x ∈ l, okDecl x = true) ∧ v.o = u.o ∧ v.b = u.b
  | 0, acc, u, l, v, h, _ => by cases h
  | n + 1, acc, u, l, v, h, ha => by
    unfold Pr.locals at h
    split at h
    · obtain ⟨x, u1, h1, h⟩ := th_ok h
      have f1 := fwd_o (Pr.decl_fwd h1)
      obtain ⟨k1, k2, k3⟩ := locals_gt g n _ u1 h (fun z hz => by
        rcases List.mem_append.1 hz with hz | hz
        · exact ha z hz
        · rw [List.mem_singleton.1 hz]; exact decl_gt g h1)
      exact ⟨k1, k2.trans f1.1, k3.trans f1.2⟩
    · injection h with h; injection h with hl h; subst h; subst hl; exact ⟨ha, rfl, rfl⟩
theorem struct_gt (g : Gt t) {u v : St} {x : Sr} (h : Pr.structure_ t u = .ok (x, v)) : okStruct x = true ∧ v.o = u.o ∧ v.b = u.b := by
  obtain ⟨a, u1, h1, h⟩ := th_ok h
  obtain ⟨b, u2, h2, h⟩ := th_ok h
  obtain ⟨c, u3, h3, h⟩ := th_ok h
  obtain ⟨d, u4, h4, h⟩ := th_ok h
  injection h with h; injection h with hl h; subst h; subst hl
  have f1 := fwd_o (Pr.must_fwd h1)
  have f2 := fwd_o (Pr.name_fwd h2)
  have f3 := fwd_o (Pr.must_fwd h3)
  obtain ⟨k1, k2, k3⟩ := fields_gt g _ _ _ h4 (by simp)
  refine ⟨?_, k2.trans (f3.1.trans (f2.1.trans f1.1)), k3.trans (f3.2.trans (f2.2.trans f1.2))⟩
  unfold okStruct
  simp only [Bool.and_eq_true, List.all_eq_true]
  exact ⟨name_gt g h2, k1⟩
theorem proc_gt (g : Gt t) {u v : St} {x : Pc} (h : Pr.proc t u = .ok (x, v)) (hb : u.b ≤ 400) (ho : u.o ≤ 20) : okProc x = true ∧ v.o = u.o ∧ v.b = u.b + cnt x.body ∧ v.b ≤ 400 ∧ u.o + dp x.body ≤ 20 := by
  obtain ⟨a, u1, h1, h⟩ := th_ok h
  obtain ⟨b, u2, h2, h⟩ := th_ok h
  obtain ⟨c, u3, h3, h⟩ := th_ok h
  obtain ⟨d, u4, h4, h⟩ := th_ok h
  obtain ⟨e, u5, h5, h⟩ := th_ok h
  obtain ⟨f, u6, h6, h⟩ := th_ok h
  obtain ⟨k, u7, h7, h⟩ := th_ok h
  injection h with h; injection h with hl h; subst h; subst hl
  have f1 := fwd_o (Pr.must_fwd h1)
  have f2 := fwd_o (Pr.name_fwd h2)
  have f3 := fwd_o (Pr.listed_fwd (fun _ _ _ h => Pr.variable_fwd h) h3)
  have f4 := fwd_o (Pr.must_fwd h4)
  obtain ⟨k1, k2, k3⟩ := locals_gt g _ _ _ h5 (by simp)
  have hl := listed_gt (P := fun x => okDecl x = true) (fun _ _ _ h => variable_gt g h) h3
  have o5 : u5.o = u.o := k2.trans (f4.1.trans (f3.1.trans (f2.1.trans f1.1)))
  have b5 : u5.b = u.b := k3.trans (f4.2.trans (f3.2.trans (f2.2.trans f1.2)))
  obtain ⟨s1, s2, s3, s4, s5⟩ := stmts_gt g _ _ _ _ h6 (by omega) (by omega)
  have f7 := fwd_o (Pr.must_fwd h7)
  refine ⟨?_, by rw [f7.1, s2, o5], by rw [f7.2, s3, b5], by rw [f7.2]; exact s4, by rw [← o5]; exact s5⟩
  unfold okProc
  simp only [Bool.and_eq_true, List.all_eq_true]
  exact ⟨⟨⟨name_gt g h2, hl⟩, k1⟩, s1⟩
theorem cntP_snoc : ∀ (l : List Pc) (x : Pc), cntP (l ++ [x]) = cntP l + cnt x.body
  | [], x => by simp [cntP]
  | y :: l, x => by simp only [List.cons_append, cntP, cntP_snoc l x]; omega
theorem program_gt (g : Gt t) : ∀ (n : Nat) (ss : List Sr) (gs : List Dc) (ps : List Pc) (u : St) {p : Pg} {v : St}, Pr.program t n ss gs ps u = .ok (p, v) → (∀ x ∈ ss, okStruct x = true) → (∀ x ∈ gs, okDecl x = true) → (∀ x ∈ ps, okProc x = true ∧ dp x.body ≤ 20) → u.o = 0 → u.b = cntP ps → u.b ≤ 400 → right p = true
  | 0, ss, gs, ps, u, p, v, h, _, _, _, _, _, _ => by cases h
  | n + 1, ss, gs, ps, u, p, v, h, h1, h2, h3, ho, hb, hb4 => by
    unfold Pr.program at h
    split at h
    · injection h with h; injection h with hl h; subst h; subst hl
      unfold right okProg
      simp only [Bool.and_eq_true, List.all_eq_true, decide_eq_true_eq]
      exact ⟨⟨⟨⟨h1, h2⟩, fun x hx => (h3 x hx).1⟩, fun x hx => (h3 x hx).2⟩, by omega⟩
    · split at h
      · obtain ⟨x, u1, q1, h⟩ := th_ok h
        obtain ⟨k1, k2, k3⟩ := struct_gt g q1
        exact program_gt g n _ gs ps u1 h (fun z hz => by
          rcases List.mem_append.1 hz with hz | hz
          · exact h1 z hz
          · rw [List.mem_singleton.1 hz]; exact k1) h2 h3 (by omega) (by omega) (by omega)
      · split at h
        · obtain ⟨x, u1, q1, h⟩ := th_ok h
          obtain ⟨k1, k2, k3, k4, k5⟩ := proc_gt g q1 hb4 (by omega)
          exact program_gt g n ss gs _ u1 h h1 h2 (fun z hz => by
            rcases List.mem_append.1 hz with hz | hz
            · exact h3 z hz
            · rw [List.mem_singleton.1 hz]; exact ⟨k1, by omega⟩) (by omega) (by rw [cntP_snoc]; omega) k4
        · obtain ⟨x, u1, q1, h⟩ := th_ok h
          have f1 := fwd_o (Pr.decl_fwd q1)
          exact program_gt g n ss _ ps u1 h h1 (fun z hz => by
            rcases List.mem_append.1 hz with hz | hz
            · exact h2 z hz
            · rw [List.mem_singleton.1 hz]; exact decl_gt g q1) h3 (by omega) (by omega) (by omega)
end
end Pn
end Go.Proofs.Ytmhpaacjioeknaa

