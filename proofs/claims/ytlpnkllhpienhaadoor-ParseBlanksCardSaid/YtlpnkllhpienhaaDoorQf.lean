/-
  DERIVED. Plain: a statement in a block of one's own, part by part.
-/
import Derived.Test.YtlpnkllhpienhaaDoorQe
namespace Go.Proofs.YtlpnkllhpienhaaDoor
open Go.RowKit Go.Sort

/-- Of the blocks that were there only two have turned. -/
structure Gr2 (w w' : World) (a b : Nat) : Prop where
  os : w'.os = w.os
  tape : w'.tape = w.tape
  output : w'.output = w.output
  size : w.heap.size ≤ w'.heap.size
  block : ∀ i, i < w.heap.size → i ≠ a → i ≠ b → w'.heap[i]? = w.heap[i]?
theorem Gr2.refl (w : World) (a b : Nat) : Gr2 w w a b := ⟨rfl, rfl, rfl, Nat.le_refl _, fun _ _ _ _ => rfl⟩
theorem Gr2.one {w w1 w2 : World} {a b : Nat} (h : Gr2 w w1 a b) (k : w1.grownBy w2 (some a)) : Gr2 w w2 a b :=
  ⟨k.os.trans h.os, k.tape.trans h.tape, k.output.trans h.output, Nat.le_trans h.size k.size, fun i hi h1 h2 => (k.block i (Nat.lt_of_lt_of_le hi h.size) (by intro e; injection e with e; exact h1 e)).trans (h.block i hi h1 h2)⟩
theorem Gr2.two {w w1 w2 : World} {a b : Nat} (h : Gr2 w w1 a b) (k : w1.grownBy w2 (some b)) : Gr2 w w2 a b :=
  ⟨k.os.trans h.os, k.tape.trans h.tape, k.output.trans h.output, Nat.le_trans h.size k.size, fun i hi h1 h2 => (k.block i (Nat.lt_of_lt_of_le hi h.size) (by intro e; injection e with e; exact h2 e)).trans (h.block i hi h1 h2)⟩
theorem Gr2.own {w0 w w' : World} {a b : Nat} (h : w0.grownBy w (some a)) (k : Gr2 w w' a b) (hb : w0.heap.size ≤ b) : w0.grownBy w' (some a) :=
  ⟨k.os.trans h.os, k.tape.trans h.tape, k.output.trans h.output, Nat.le_trans h.size k.size, fun i hi hne => (k.block i (Nat.lt_of_lt_of_le hi h.size) (by intro e; exact hne (by rw [e])) (by omega)).trans (h.block i hi hne)⟩
theorem Gr2.bk {w w' : World} {a b g : Nat} {t : TypeId} {cs : Array Value} (h : Gr2 w w' a b) (k : Bk w g t cs) (h1 : g ≠ a) (h2 : g ≠ b) : Bk w' g t cs := (h.block g k.lt h1 h2).trans k

theorem putC_eq : ∀ (vs l : List Value) (o : Nat), o + vs.length ≤ l.length → putC l o vs = l.take o ++ vs ++ l.drop (o + vs.length)
  | [], l, o, _ => by simp [putC]
  | v :: r, l, o, h => by
    simp only [List.length_cons] at h
    have ho : o < l.length := by omega
    have hA : (l.take o).length = o := by rw [List.length_take]; omega
    have hs : l.set o v = l.take o ++ v :: l.drop (o + 1) := by rw [List.set_eq_take_append_cons_drop, if_pos ho]
    have e1 : (l.set o v).take (o + 1) = l.take o ++ [v] := by
      rw [hs, List.take_append, hA, List.take_of_length_le (by omega), show o + 1 - o = 1 by omega]; rfl
    have e2 : (l.set o v).drop (o + 1 + r.length) = l.drop (o + (r.length + 1)) := by
      rw [hs, List.drop_append, hA, List.drop_of_length_le (by omega), List.nil_append, show o + 1 + r.length - o = r.length + 1 by omega, List.drop_succ_cons, List.drop_drop, show o + 1 + r.length = o + (r.length + 1) by omega]
    rw [putC, putC_eq r (l.set o v) (o + 1) (by rw [List.length_set]; omega), e1, e2]
    simp only [List.length_cons, List.append_assoc, List.singleton_append]
theorem put_place (x : It) (p : Pth) : putC x.cells 2 p.cells = It.cells { x with h := { x.h with place := p } } := (putC_eq _ _ _ (show 5 ≤ 48 by decide)).trans rfl
theorem put_value (x : It) (p : Vl) : putC x.cells 5 p.cells = It.cells { x with h := { x.h with value := p } } := (putC_eq _ _ _ (show 17 ≤ 48 by decide)).trans rfl
theorem put_cond (x : It) (p : Cd) : putC x.cells 17 p.cells = It.cells { x with h := { x.h with cond := p } } := (putC_eq _ _ _ (show 43 ≤ 48 by decide)).trans rfl
/-- A statement in block S; what it leads to is new. -/
def Stc (w0 w : World) (S : Nat) (x : It) : Prop := Bk w S 52 x.cells.toArray ∧ itLies (fresh w0.heap.size w) x
/-- The statement as it begins. -/
def it0 (p : Int) : It := ⟨{ Pr.noHd with pos := p }, none, 0, .nil, none, 0, .nil⟩
section
variable {w0 w w' : World} {S pb : Nat} {x : It}
theorem Stc.par (h : Stc w0 w S x) (g : w.grownBy w' (some pb)) (h1 : S ≠ pb) (h2 : pb < w0.heap.size) : Stc w0 w' S x :=
  ⟨h.1.kept g h1, itLies_ext (fresh_par g h2) h.2⟩
theorem Stc.kind (h : Stc w0 w S x) (hS : S < w0.heap.size) (k : Int) : Stc w0 (w.setCell ⟨S, 0, none⟩ (.int .i64 k)) S { x with h := { x.h with kind := k } } :=
  ⟨h.1.set_ 0 _, itLies_ext (fresh_par (grownBy_setC w ⟨S, 0, none⟩ _) hS) h.2⟩
theorem Stc.name (h : Stc w0 w S x) (hS : S < w0.heap.size) (s : ByteArray) (hs : s.size ≤ maxLen) : Stc w0 (w.setCell ⟨S, 43, none⟩ (.string s)) S { x with h := { x.h with name := s } } :=
  ⟨h.1.set_ 43 _, by
    have h2 := itLies_ext (fresh_par (grownBy_setC w ⟨S, 43, none⟩ (.string s)) hS) h.2
    exact ⟨⟨h2.1.1, h2.1.2.1, h2.1.2.2.1, h2.1.2.2.2.1, h2.1.2.2.2.2.1, hs⟩, h2.2⟩⟩
theorem Stc.both (h : Stc w0 w S x) (hS : S < w0.heap.size) (b : Bool) : Stc w0 (w.setCell ⟨S, 47, none⟩ (.bool b)) S { x with h := { x.h with both := b } } :=
  ⟨h.1.set_ 47 _, itLies_ext (fresh_par (grownBy_setC w ⟨S, 47, none⟩ _) hS) h.2⟩
theorem Stc.args (h : Stc w0 w S x) (hS : S < w0.heap.size) (s : Sl Vl) (hs : argsLie (fresh w0.heap.size w) s) : Stc w0 (w.setCell ⟨S, 44, none⟩ (.slice s.p s.l.length s.cap)) S { x with h := { x.h with args := s } } :=
  ⟨h.1.set_ 44 _, by
    have he := fresh_par (B := w0.heap.size) (grownBy_setC w ⟨S, 44, none⟩ (.slice s.p s.l.length s.cap)) hS
    have h2 := itLies_ext he h.2
    exact ⟨⟨h2.1.1, h2.1.2.1, h2.1.2.2.1, h2.1.2.2.2.1, argsLie_ext he hs, h2.1.2.2.2.2.2⟩, h2.2⟩⟩
theorem Stc.then_ (h : Stc w0 w S x) (hS : S < w0.heap.size) (p : Option Addr) (c : Nat) (s : SL) (hs : sLies (fresh w0.heap.size w) p s) : Stc w0 (w.setCell ⟨S, 45, none⟩ (.slice p s.len c)) S { x with tp := p, tc := c, t := s } :=
  ⟨h.1.set_ 45 _, by
    have he := fresh_par (B := w0.heap.size) (grownBy_setC w ⟨S, 45, none⟩ (.slice p s.len c)) hS
    have h2 := itLies_ext he h.2
    exact ⟨h2.1, sLies_ext he hs, h2.2.2⟩⟩
theorem Stc.else_ (h : Stc w0 w S x) (hS : S < w0.heap.size) (p : Option Addr) (c : Nat) (s : SL) (hs : sLies (fresh w0.heap.size w) p s) : Stc w0 (w.setCell ⟨S, 46, none⟩ (.slice p s.len c)) S { x with ep := p, ec := c, e := s } :=
  ⟨h.1.set_ 46 _, by
    have he := fresh_par (B := w0.heap.size) (grownBy_setC w ⟨S, 46, none⟩ (.slice p s.len c)) hS
    have h2 := itLies_ext he h.2
    exact ⟨h2.1, h2.2.1, sLies_ext he hs⟩⟩
theorem Stc.place (h : Stc w0 w S x) (hS : S < w0.heap.size) {p : Pth} (hB : Bk w' S 52 (putC x.cells 2 p.cells).toArray) (hF : w.grownBy w' (some S)) (hs : hopsLie (fresh w0.heap.size w) p.hops) : Stc w0 w' S { x with h := { x.h with place := p } } :=
  ⟨by rw [← put_place]; exact hB, by
    have he := fresh_par (B := w0.heap.size) hF hS
    have h2 := itLies_ext he h.2
    exact ⟨⟨hopsLie_ext he hs, h2.1.2⟩, h2.2⟩⟩
theorem Stc.value (h : Stc w0 w S x) (hS : S < w0.heap.size) {p : Vl} (hB : Bk w' S 52 (putC x.cells 5 p.cells).toArray) (hF : w.grownBy w' (some S)) (hs : vlLies (fresh w0.heap.size w) p) : Stc w0 w' S { x with h := { x.h with value := p } } :=
  ⟨by rw [← put_value]; exact hB, by
    have he := fresh_par (B := w0.heap.size) hF hS
    have h2 := itLies_ext he h.2
    exact ⟨⟨h2.1.1, vlLies_ext he hs, h2.1.2.2⟩, h2.2⟩⟩
theorem Stc.cond (h : Stc w0 w S x) (hS : S < w0.heap.size) {p : Cd} (hB : Bk w' S 52 (putC x.cells 17 p.cells).toArray) (hF : w.grownBy w' (some S)) (hs : kCd.R (fresh w0.heap.size w) p) : Stc w0 w' S { x with h := { x.h with cond := p } } :=
  ⟨by rw [← put_cond]; exact hB, by
    have he := fresh_par (B := w0.heap.size) hF hS
    have h2 := itLies_ext he h.2
    exact ⟨⟨h2.1.1, h2.1.2.1, vlLies_ext he hs.1, vlLies_ext he hs.2, h2.1.2.2.2.2⟩, h2.2⟩⟩
theorem Stc.zero (p : Int) (hB : Bk w S 52 (it0 p).cells.toArray) : Stc w0 w S (it0 p) :=
  ⟨hB, ⟨⟨(show 0 * 24 ≤ 140737488351232 by decide), .inl rfl⟩, ⟨(show 0 * 24 ≤ 140737488351232 by decide), .inl rfl⟩, ⟨(show 0 * 24 ≤ 140737488351232 by decide), .inl rfl⟩, ⟨(show 0 * 24 ≤ 140737488351232 by decide), .inl rfl⟩, ⟨(show 0 * 144 ≤ 140737488351232 by decide), .inl rfl⟩, (show 0 ≤ maxLen from Nat.zero_le _)⟩, ⟨(show 0 * 608 ≤ 140737488351232 by decide), .inl rfl⟩, ⟨(show 0 * 608 ≤ 140737488351232 by decide), .inl rfl⟩⟩
end
/-- What a part that fills in a statement ends in. -/
def OutS {α : Type} (f : α → It) (w : World) (pb sb cap S : Nat) (l : List Tx.Sg) (r : Pr.Res α) (e : Ending) (w' : World) : Prop :=
  Gr2 w w' pb S ∧ match r with
  | .ok (a, u) => e = .returned (.tuple #[]) ∧ (∃ x : It, x.er = f a ∧ Stc w w' S x) ∧ PS w' pb sb cap l u.i u.o u.b
  | .error n => ∃ _ : Unit, e = faultN l n
theorem OutS.err {α : Type} {f : α → It} {w w' : World} {pb sb cap S : Nat} {l : List Tx.Sg} {r : Pr.Res α} {n : Int × Nat} (hr : r = .error n) (hg : Gr2 w w' pb S) : OutS f w pb sb cap S l r (faultN l n) w' := by
  subst hr; exact ⟨hg, (), rfl⟩
theorem OutS.ok {α : Type} {f : α → It} {w w' : World} {pb sb cap S : Nat} {l : List Tx.Sg} {r : Pr.Res α} {a : α} {u : Pr.St} {x : It} (hr : r = .ok (a, u)) (hg : Gr2 w w' pb S) (hx : x.er = f a) (hs : Stc w w' S x) (hp : PS w' pb sb cap l u.i u.o u.b) : OutS f w pb sb cap S l r (.returned (.tuple #[])) w' := by
  subst hr; exact ⟨hg, rfl, ⟨x, hx, hs⟩, hp⟩
theorem OutS.of_err {α : Type} {f : α → It} {w w' : World} {pb sb cap S : Nat} {l : List Tx.Sg} {r : Pr.Res α} {n : Int × Nat} {e : Ending} (h : OutS f w pb sb cap S l r e w') (hr : r = .error n) : ∃ _ : Unit, e = faultN l n ∧ Gr2 w w' pb S := by
  subst hr; exact ⟨h.2.choose, h.2.choose_spec, h.1⟩
theorem OutS.of_ok {α : Type} {f : α → It} {w w' : World} {pb sb cap S : Nat} {l : List Tx.Sg} {r : Pr.Res α} {a : α} {u : Pr.St} {e : Ending} (h : OutS f w pb sb cap S l r e w') (hr : r = .ok (a, u)) : e = .returned (.tuple #[]) ∧ (∃ x : It, x.er = f a ∧ Stc w w' S x) ∧ PS w' pb sb cap l u.i u.o u.b ∧ Gr2 w w' pb S := by
  subst hr; exact ⟨h.2.1, h.2.2.1, h.2.2.2, h.1⟩
/-- A statement that leads to no others; one that does. -/
def itH (h : Hd) : It := ⟨h, none, 0, .nil, none, 0, .nil⟩
def itB (x : Hd × SL × SL) : It := ⟨x.1, none, 0, x.2.1, none, 0, x.2.2⟩
/-- No sign's text is longer than a text may be. -/
def Tex (l : List Tx.Sg) : Prop := ∀ (k : Nat) (x : Tx.Sg), l[k]? = some x → x.text.size ≤ maxLen
theorem size43 : (Tryd.prog.info? 43).map (·.size) = some 3 := by kernel_rfl
end Go.Proofs.YtlpnkllhpienhaaDoor
