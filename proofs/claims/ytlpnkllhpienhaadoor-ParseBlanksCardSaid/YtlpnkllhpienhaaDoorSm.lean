/-
  DERIVED. Plain: when programs are the same, but for places.
-/
import Derived.Test.YtlpnkllhpienhaaDoorKit
namespace Go.Proofs.YtlpnkllhpienhaaDoor
open Go.RowKit Go.Sort

def sameL {α : Type} (f : α → α → Bool) : List α → List α → Bool
  | [], [] => true
  | a :: l, b :: m => f a b && sameL f l m
  | [], _ :: _ => false
  | _ :: _, [] => false
theorem sameL_len {α : Type} {f : α → α → Bool} : ∀ {l m : List α}, l.length ≠ m.length → sameL f l m = false
  | [], [], h => absurd rfl h
  | a :: l, b :: m, h => by
    simp only [List.length_cons, ne_eq, Nat.add_right_cancel_iff] at h
    rw [sameL, sameL_len h, Bool.and_false]
  | [], _ :: _, _ => rfl
  | _ :: _, [], _ => rfl
theorem sameL_step {α : Type} {f : α → α → Bool} : ∀ {l m : List α} (k : Nat) (h1 : k < l.length) (h2 : k < m.length), sameL f (l.take (k + 1)) (m.take (k + 1)) = (sameL f (l.take k) (m.take k) && f l[k] m[k])
  | a :: l, b :: m, 0, _, _ => by simp [sameL]
  | a :: l, b :: m, k + 1, h1, h2 => by
    simp only [List.length_cons, Nat.add_lt_add_iff_right] at h1 h2
    have := sameL_step (f := f) (l := l) (m := m) k h1 h2
    simp only [List.take_succ_cons, sameL, List.getElem_cons_succ] at this ⊢
    rw [this, Bool.and_assoc]
theorem sameL_congr {α : Type} {f g : α → α → Bool} (h : ∀ a b, f a b = g a b) (l m : List α) : sameL f l m = sameL g l m := by
  rw [show f = g from funext fun a => funext fun b => h a b]
theorem sameL_refl {α : Type} {f : α → α → Bool} : ∀ (l : List α), (∀ a, a ∈ l → f a a = true) → sameL f l l = true
  | [], _ => rfl
  | a :: l, h => by rw [sameL, h a (by simp), sameL_refl l (fun b hb => h b (by simp [hb]))]; rfl

def sameHp (a b : Hp) : Bool := a.name.toList == b.name.toList
def sameDc (a b : Dc) : Bool := (a.type.toList == b.type.toList) && (a.name.toList == b.name.toList)
def sameTm (a b : Tm) : Bool := (a.name.toList == b.name.toList) && (a.n == b.n)
def samePth (a b : Pth) : Bool := (a.name.toList == b.name.toList) && sameL sameHp a.hops.l b.hops.l
def sameVl (a b : Vl) : Bool := (a.kind == b.kind) && ((a.type.toList == b.type.toList) && (samePth a.path b.path && (sameTm a.left b.left && sameTm a.right b.right)))
def sameCd (a b : Cd) : Bool := (a.kind == b.kind) && (sameVl a.left b.left && sameVl a.right b.right)
def sameSr (a b : Sr) : Bool := (a.name.toList == b.name.toList) && sameL sameDc a.fields.l b.fields.l
/-- A statement's own, but for its lists of statements. -/
def sameHd (a b : Hd) : Bool := (a.kind == b.kind) && ((a.name.toList == b.name.toList) && ((a.both == b.both) && (samePth a.place b.place && (sameVl a.value b.value && (sameCd a.cond b.cond && sameL sameVl a.args.l b.args.l)))))
def sameSL : SL → SL → Bool
  | .nil, .nil => true
  | .cons h _ _ t _ _ e r, .cons h' _ _ t' _ _ e' r' => (sameHd h h' && (sameSL t t' && sameSL e e')) && sameSL r r'
  | .nil, .cons _ _ _ _ _ _ _ _ => false
  | .cons _ _ _ _ _ _ _ _, .nil => false
def samePc (a b : Pc) : Bool := (a.name.toList == b.name.toList) && (sameL sameDc a.params.l b.params.l && (sameL sameDc a.locals_.l b.locals_.l && sameSL a.body b.body))
def samePg (a b : Pg) : Bool := sameL sameSr a.structs.l b.structs.l && (sameL sameDc a.globals.l b.globals.l && sameL samePc a.procs.l b.procs.l)

/-- A statement as one item of a list. -/
structure It where
  h : Hd
  tp : Option Addr
  tc : Nat
  t : SL
  ep : Option Addr
  ec : Nat
  e : SL
def It.cells (x : It) : List Value := scells x.h x.tp x.t.len x.tc x.ep x.e.len x.ec
def SL.items : SL → List It
  | .nil => []
  | .cons h tp tc t ep ec e r => ⟨h, tp, tc, t, ep, ec, e⟩ :: r.items
theorem SL.items_len : ∀ (l : SL), l.items.length = l.len
  | .nil => rfl
  | .cons _ _ _ _ _ _ _ r => by simp only [SL.items, List.length_cons, SL.len, SL.items_len r]
def itLies (w : World) (x : It) : Prop := hdLies w x.h ∧ sLies w x.tp x.t ∧ sLies w x.ep x.e
theorem itLies_below {w w' : World} {x : It} (h : itLies w x) (hb : Below w.heap.size w w') : itLies w' x := ⟨hdLies_below h.1 hb, sLies_below h.2.1 hb, sLies_below h.2.2 hb⟩
theorem lies_items {w : World} {b : Nat} : ∀ (l : SL) (o : Nat), lies w l b o → ∀ k x, l.items[k]? = some x → w.rangeAt b (o + k * 48) x.cells ∧ itLies w x
  | .nil, _, _, k, x, h => by simp [SL.items] at h
  | .cons hd tp tc t ep ec e r, o, ⟨h1, h2, h3, h4, h5⟩, 0, x, h => by
    simp only [SL.items, List.getElem?_cons_zero, Option.some.injEq] at h
    subst h
    exact ⟨by rw [Nat.zero_mul, Nat.add_zero]; exact h1, h2, h3, h4⟩
  | .cons hd tp tc t ep ec e r, o, ⟨h1, h2, h3, h4, h5⟩, k + 1, x, h => by
    simp only [SL.items, List.getElem?_cons_succ] at h
    have := lies_items r (o + 48) h5 k x h
    rwa [show o + 48 + k * 48 = o + (k + 1) * 48 by omega] at this
/-- A list's items lie in memory (its length is modest). -/
def Lay {α : Type} (size : Nat) (cells : α → List Value) (R : World → α → Prop) (w : World) (p : Option Addr) (l : List α) : Prop :=
  l.length ≤ 6000000000000 ∧ (l = [] ∨ ∃ b o, p = some ⟨b, o, none⟩ ∧ ∀ k x, l[k]? = some x → w.rangeAt b (o + k * size) (cells x) ∧ R w x)
theorem Lay.below {α : Type} {size : Nat} {cells : α → List Value} {R : World → α → Prop} {w w' : World} {p : Option Addr} {l : List α} (h : Lay size cells R w p l) (hb : Below w.heap.size w w') (hR : ∀ x, R w x → R w' x) : Lay size cells R w' p l := by
  obtain ⟨h0, h⟩ := h
  refine ⟨h0, ?_⟩
  rcases h with h | ⟨b, o, hp, hx⟩
  · exact .inl h
  · exact .inr ⟨b, o, hp, fun k x hk => ⟨rangeAt_below (hx k x hk).1 hb, hR x (hx k x hk).2⟩⟩
theorem Lay.of_sl {α : Type} {size bytes : Nat} {cells : α → List Value} {R : World → α → Prop} {w : World} {s : Sl α} (h : slLies w size bytes cells (R w) s) (hb : 24 ≤ bytes) : Lay size cells R w s.p s.l := by
  obtain ⟨h0, h⟩ := h
  refine ⟨?_, h⟩
  have := Nat.mul_le_mul_left s.l.length hb
  omega
theorem Lay.of_sLies {w : World} {p : Option Addr} {l : SL} (h : sLies w p l) : Lay 48 It.cells itLies w p l.items := by
  obtain ⟨h0, h⟩ := h
  refine ⟨by rw [SL.items_len]; omega, ?_⟩
  rcases h with rfl | ⟨b, o, hp, hl⟩
  · exact .inl rfl
  · exact .inr ⟨b, o, hp, lies_items l o hl⟩
def sameIt (x y : It) : Bool := sameHd x.h y.h && (sameSL x.t y.t && sameSL x.e y.e)
theorem sameSL_items : ∀ (l m : SL), sameSL l m = sameL sameIt l.items m.items
  | .nil, .nil => rfl
  | .cons h tp tc t ep ec e r, .cons h' tp' tc' t' ep' ec' e' r' => by
    simp only [sameSL, SL.items, sameL, sameIt]
    rw [sameSL_items r r']
  | .nil, .cons _ _ _ _ _ _ _ _ => rfl
  | .cons _ _ _ _ _ _ _ _, .nil => rfl
/-- What holds of each list within holds of each item's. -/
theorem SL.each_items {P : SL → Prop} : ∀ {l : SL}, l.each P → ∀ x ∈ l.items, P x.t ∧ P x.e
  | .nil, _, x, hx => by simp [SL.items] at hx
  | .cons h tp tc t ep ec e r, ⟨h1, h2, h3⟩, x, hx => by
    simp only [SL.items, List.mem_cons] at hx
    rcases hx with rfl | hx
    · exact ⟨h1, h2⟩
    · exact SL.each_items h3 x hx
theorem rangeAt_sub {w : World} {b q : Nat} {cs : List Value} (h : w.rangeAt b q cs) (o n : Nat) {cs' : List Value} (hs : (cs.drop o).take n = cs') : w.rangeAt b (q + o) cs' := fun j v hv => by
  rw [← hs] at hv
  rw [Nat.add_assoc]
  refine h (o + j) v ?_
  rw [List.getElem?_take] at hv
  split at hv
  · rwa [List.getElem?_drop] at hv
  · cases hv

def pthLies (w : World) (x : Pth) : Prop := slLies w 2 24 Hp.cells (triv w) x.hops
theorem pthLies_of {w : World} {x : Pth} (h : hopsLie w x.hops) : pthLies w x := h
theorem pthLies_below {w w' : World} {x : Pth} (h : pthLies w x) (hb : Below w.heap.size w w') : pthLies w' x := slLies_below h hb (fun _ h => h)
theorem srLies_of {w : World} {x : Sr} (h : srLies w x) : slLies w 3 40 Dc.cells (triv w) x.fields := h
theorem decls_of {w : World} {s : Sl Dc} (h : declsLie w s) : slLies w 3 40 Dc.cells (triv w) s := h
theorem srs_of {w : World} {s : Sl Sr} (h : srsLie w s) : slLies w 3 48 Sr.cells (srLies w) s := h

end Go.Proofs.YtlpnkllhpienhaaDoor
