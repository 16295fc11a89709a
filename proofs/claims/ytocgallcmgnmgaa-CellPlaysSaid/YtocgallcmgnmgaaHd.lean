/-
  DERIVED. How the program's heap lies, and what tells its length and its cells.
-/
import Derived.Test.YtocgallcmgnmgaaKn
namespace Go.Proofs.Ytocgallcmgnmgaa
open Go.RowKit Go.Maps

theorem law3 : Keyed Try.prog 3 := int_keyed Try.underlying3
def IK (k : Nat) : Lit := .int .i64 k
def zI : DataW Unit := .lit (.int .i64 0)
/-- A map of places from 8 on. -/
def FarD (F : Nat) (c : PC) (D : DataW Unit) : Prop :=
  (∀ k : Nat, 8 ≤ k → k < F → D.atKey (IK k) zI = .lit (.int .i64 (c.at k))) ∧ (∀ kl, has D kl = true → ∃ k : Nat, 8 ≤ k ∧ k < F ∧ kl = IK k)
def FarIs (w : World) (F : Nat) (c : PC) : Option Nat → Prop
  | none => ∀ k, 8 ≤ k → c.at k = 0
  | some m => ∃ D, w.ownsMap Try.prog 3 (plainElem Try.prog 3) m F D ∧ FarD F c D
def hcells (c : PC) (far : Option Nat) : List Value := [.int .i64 c.ty, .bool c.fr, .int .i64 (c.at 0), .int .i64 (c.at 1), .int .i64 (c.at 2), .int .i64 (c.at 3), .int .i64 (c.at 4), .int .i64 (c.at 5), .int .i64 (c.at 6), .int .i64 (c.at 7), .map far]
theorem hcells_near (c : PC) (far : Option Nat) (k : Nat) (h : k < 8) : (hcells c far)[2 + k]? = some (.int .i64 (c.at k)) := by
  match k, h with
  | 0, _ => rfl
  | 1, _ => rfl
  | 2, _ => rfl
  | 3, _ => rfl
  | 4, _ => rfl
  | 5, _ => rfl
  | 6, _ => rfl
  | 7, _ => rfl
/-- Numbers that fit. -/
def okI (n : Int) : Prop := (Lit.int .i64 n).wf = true
def PC.ok (c : PC) : Prop := ∀ k, okI (c.at k)

def HeldK (F : Nat) : Kin PC (Option Nat) where
  T := 59
  sz := 11
  pos := by decide
  cells := hcells
  len _ _ := rfl
  blk := id
  sub w c far := c.to.length = F ∧ c.ok ∧ FarIs w F c far
  has w c far m h hm := by
    simp only [id] at hm; subst hm
    obtain ⟨_, _, D, hD, _⟩ := h
    exact hD.lt
  keep w w' c far h _ hm := by
    refine ⟨h.1, h.2.1, ?_⟩
    match far, h.2.2, hm with
    | none, h2, _ => exact h2
    | some m, ⟨D, ⟨es, clock, hb, rest⟩, hD⟩, hm => exact ⟨D, ⟨es, clock, (hm m rfl).trans hb, rest⟩, hD⟩

/-- The program's heap at a block: its row and maps are among R, it itself is not. -/
structure HIs (w : World) (b : Nat) (R : Nat → Prop) (F : Nat) (cs : List PC) (v : Value) : Prop where
  top : Bk w b 50 #[.bool true, .int .i64 F, v]
  out : ¬ R b
  lie : (HeldK F).Lie w R v cs
def hp (b : Nat) : Value := .pointer (some ⟨b, 0, none⟩)

theorem Kin.Lie.form {α β : Type} {K : Kin α β} {w : World} {R : Nat → Prop} {v : Value} {xs : List α} (h : K.Lie w R v xs) : ∃ p cap, v = .slice p xs.length cap := by
  rcases h.2 with ⟨rfl, rfl⟩ | ⟨g, cap, cur, fm, rfl, _⟩
  · exact ⟨_, _, rfl⟩
  · exact ⟨_, _, rfl⟩

set_option maxHeartbeats 800000 in
theorem len_any (b : Nat) (v0 v1 : Value) (p : Option Addr) (n c : Nat) (w : World) (h : Bk w b 50 #[v0, v1, .slice p n c]) :
    Calls Try.prog 17 #[hp b] w fun en w' => en = .returned (.int .i64 n) ∧ w = w' := by
  have c2 : w.cell? ⟨b, 2, none⟩ = some (.slice p n c) := h.cell 2
  clear h
  unfold hp
  go_enter Try.func17, Try.ntmps17
  go_wp2_with fail
  go_ret
  exact ⟨rfl, rfl⟩
set_option maxHeartbeats 800000 in
theorem len_nil (w : World) : Calls Try.prog 17 #[.pointer none] w fun en w' => en = .returned (.int .i64 0) ∧ w = w' := by
  go_enter Try.func17, Try.ntmps17
  go_wp2_with fail
  go_ret
  exact ⟨rfl, rfl⟩
theorem HIs.len {w : World} {b : Nat} {R : Nat → Prop} {F : Nat} {cs : List PC} {v : Value} (h : HIs w b R F cs v) : Calls Try.prog 17 #[hp b] w fun en w' => en = .returned (.int .i64 cs.length) ∧ w = w' := by
  obtain ⟨p, c, rfl⟩ := h.lie.form
  exact len_any b _ _ p _ c w h.top

set_option maxHeartbeats 800000 in
theorem hasCell_of (x : Int) (n : Nat) (q : Value) (w : World) (HL : Calls Try.prog 17 #[q] w fun en w' => en = .returned (.int .i64 n) ∧ w = w') :
    Calls Try.prog 18 #[q, .int .i64 x] w fun en w' => en = .returned (.bool (isCell n x)) ∧ w = w' := by
  have HC := Lib.hid HL
  clear HL
  by_cases h1 : 1 ≤ x
  · have hb : decide (1 ≤ x) = true := decide_eq_true h1
    have HB := Lib.hid hb
    clear h1
    go_enter Try.func18, Try.ntmps18
    go_wp2_with (go_at_call 17; refine HC.out.mono ?_; rintro e w' ⟨rfl, rfl⟩)
    go_ret
    exact ⟨by unfold isCell; rw [HB.out]; simp, rfl⟩
  · have hb : decide (1 ≤ x) = false := decide_eq_false h1
    have HB := Lib.hid hb
    clear h1
    go_enter Try.func18, Try.ntmps18
    go_wp2_with fail
    go_ret
    exact ⟨by unfold isCell; rw [HB.out]; simp, rfl⟩

set_option maxHeartbeats 800000 in
theorem hasField_any (b : Nat) (v0 v2 : Value) (F : Nat) (f : Int) (w : World) (h : Bk w b 50 #[v0, .int .i64 F, v2]) :
    Calls Try.prog 27 #[hp b, .int .i64 f] w fun en w' => en = .returned (.bool (isField F f)) ∧ w = w' := by
  have c1 : w.cell? ⟨b, 1, none⟩ = some (.int .i64 F) := h.cell 1
  clear h
  unfold hp
  by_cases h1 : 0 ≤ f
  · have hb : decide (0 ≤ f) = true := decide_eq_true h1
    have HB := Lib.hid hb
    clear h1
    go_enter Try.func27, Try.ntmps27
    go_wp2_with fail
    go_ret
    exact ⟨by unfold isField; rw [HB.out]; simp, rfl⟩
  · have hb : decide (0 ≤ f) = false := decide_eq_false h1
    have HB := Lib.hid hb
    clear h1
    go_enter Try.func27, Try.ntmps27
    go_wp2_with fail
    go_ret
    exact ⟨by unfold isField; rw [HB.out]; simp, rfl⟩

/-- No such cell. -/
def noCell (k : Int) : Value := .tuple #[.pointer none, .int .i64 k]
set_option maxHeartbeats 800000 in
theorem alive_no (x : Int) (n : Nat) (q : Value) (w : World) (hx : isCell n x = false) (HL : Calls Try.prog 17 #[q] w fun en w' => en = .returned (.int .i64 n) ∧ w = w') :
    Calls Try.prog 26 #[q, .int .i64 x] w fun en w' => en = .returned (noCell 1) ∧ w = w' := by
  have h := hasCell_of x n q w HL
  rw [hx] at h
  have HC := Lib.hid h
  clear h HL hx
  go_enter Try.func26, Try.ntmps26
  go_wp2_with (go_at_call 18; refine HC.out.mono ?_; rintro e w' ⟨rfl, rfl⟩)
  go_ret2
  exact ⟨rfl, rfl⟩
set_option maxHeartbeats 1600000 in
theorem alive_at (b : Nat) (R : Nat → Prop) (F : Nat) (cs : List PC) (v0 v1 : Value) (g cap : Nat) (cur : Array Value) (fm : Nat → Option Nat) (i : Nat) (x : PC) (w : World)
    (ht : Bk w b 50 #[v0, v1, .slice (some ⟨g, 0, none⟩) cs.length cap]) (ha : (HeldK F).At w R g cap cur fm cs) (hi : cs[i]? = some x) (hil : i < cs.length) (hn : cs.length ≤ maxLen) :
    Calls Try.prog 26 #[hp b, .int .i64 ((i : Int) + 1)] w fun en w' => en = .returned (if x.fr = true then noCell 2 else .tuple #[.pointer (some ⟨g, i * 11, none⟩), .int .i64 0]) ∧ w = w' := by
  have hx : isCell cs.length ((i : Int) + 1) = true := isCell_iff.2 ⟨i, hil, rfl⟩
  have h := hasCell_of ((i : Int) + 1) cs.length (hp b) w (len_any b _ _ _ _ _ w ht)
  rw [hx] at h
  have HC := Lib.hid h
  have c2 : w.cell? ⟨b, 2, none⟩ = some (.slice (some ⟨g, 0, none⟩) cs.length cap) := ht.cell 2
  have d1 : w.cell? ⟨g, i * 11 + 1, none⟩ = some (.bool x.fr) := ha.at_cell hi 1 _ rfl
  unfold maxLen at hn
  clear h hx ht ha hi
  have hi1 : ((i : Int) + 1 - 1) = (i : Int) := by omega
  have hi2 : (i : Int) < (cs.length : Int) := by omega
  unfold hp at HC ⊢
  cases hf : x.fr with
  | true =>
    rw [hf] at d1
    go_enter Try.func26, Try.ntmps26
    go_wp2_with (go_at_call 18; refine HC.out.mono ?_; rintro e w' ⟨rfl, rfl⟩)
    go_ret2
    exact ⟨rfl, rfl⟩
  | false =>
    rw [hf] at d1
    go_enter Try.func26, Try.ntmps26
    go_wp2_with (go_at_call 18; refine HC.out.mono ?_; rintro e w' ⟨rfl, rfl⟩)
    go_ret2
    exact ⟨rfl, rfl⟩
end Go.Proofs.Ytocgallcmgnmgaa
