/-
  DERIVED. Plain: a program without places; what hangs on places and addresses, and what does not.
-/
import Derived.Test.YtlpnkllhpienhaaDoorSm
namespace Go.Proofs.YtlpnkllhpienhaaDoor
open Go.RowKit Go.Sort

/-! What is left when places and addresses are struck. -/
def Sl.er {α : Type} (f : α → α) (s : Sl α) : Sl α := ⟨none, 0, s.l.map f⟩
def Hp.er (x : Hp) : Hp := ⟨x.name, 0⟩
def Pth.er (x : Pth) : Pth := ⟨x.name, 0, x.hops.er Hp.er⟩
def Tm.er (x : Tm) : Tm := ⟨x.name, x.n, 0⟩
def Vl.er (x : Vl) : Vl := ⟨x.kind, 0, x.path.er, x.type, x.left.er, x.right.er⟩
def Cd.er (x : Cd) : Cd := ⟨x.kind, 0, x.left.er, x.right.er⟩
def Hd.er (x : Hd) : Hd := ⟨x.kind, 0, x.place.er, x.value.er, x.cond.er, x.name, x.args.er Vl.er, x.both⟩
def SL.er : SL → SL
  | .nil => .nil
  | .cons h _ _ t _ _ e r => .cons h.er none 0 t.er none 0 e.er r.er
def Dc.er (x : Dc) : Dc := ⟨x.type, x.name, 0⟩
def Sr.er (x : Sr) : Sr := ⟨x.name, 0, x.fields.er Dc.er⟩
def Pc.er (x : Pc) : Pc := ⟨x.name, 0, 0, x.params.er Dc.er, x.locals_.er Dc.er, none, 0, x.body.er⟩
def Pg.er (x : Pg) : Pg := ⟨x.structs.er Sr.er, x.globals.er Dc.er, x.procs.er Pc.er⟩

theorem sameL_er {α : Type} {f : α → α → Bool} {g : α → α} (h : ∀ a b, f a b = f (g a) (g b)) : ∀ (l m : List α), sameL f l m = sameL f (l.map g) (m.map g)
  | [], [] => rfl
  | a :: l, b :: m => by simp only [sameL, List.map_cons]; rw [h a b, sameL_er h l m]
  | [], _ :: _ => rfl
  | _ :: _, [] => rfl
theorem sameHp_er (a b : Hp) : sameHp a b = sameHp a.er b.er := rfl
theorem sameDc_er (a b : Dc) : sameDc a b = sameDc a.er b.er := rfl
theorem samePth_er (a b : Pth) : samePth a b = samePth a.er b.er := by
  simp only [samePth, Pth.er, Sl.er]; rw [sameL_er sameHp_er]
theorem sameTm_er (a b : Tm) : sameTm a b = sameTm a.er b.er := rfl
theorem sameVl_er (a b : Vl) : sameVl a b = sameVl a.er b.er := by
  simp only [sameVl, Vl.er]; rw [samePth_er, sameTm_er a.left, sameTm_er a.right]
theorem sameCd_er (a b : Cd) : sameCd a b = sameCd a.er b.er := by
  simp only [sameCd, Cd.er]; rw [sameVl_er a.left, sameVl_er a.right]
theorem sameHd_er (a b : Hd) : sameHd a b = sameHd a.er b.er := by
  simp only [sameHd, Hd.er, Sl.er]; rw [samePth_er, sameVl_er a.value, sameCd_er, sameL_er sameVl_er]
theorem sameSL_er : ∀ (a b : SL), sameSL a b = sameSL a.er b.er
  | .nil, .nil => rfl
  | .cons h tp tc t ep ec e r, .cons h' tp' tc' t' ep' ec' e' r' => by
    simp only [sameSL, SL.er]; rw [sameHd_er, sameSL_er t t', sameSL_er e e', sameSL_er r r']
  | .nil, .cons _ _ _ _ _ _ _ _ => rfl
  | .cons _ _ _ _ _ _ _ _, .nil => rfl
theorem sameSr_er (a b : Sr) : sameSr a b = sameSr a.er b.er := by
  simp only [sameSr, Sr.er, Sl.er]; rw [sameL_er sameDc_er]
theorem samePc_er (a b : Pc) : samePc a b = samePc a.er b.er := by
  simp only [samePc, Pc.er, Sl.er]; rw [sameL_er sameDc_er a.params.l, sameL_er sameDc_er a.locals_.l, sameSL_er]
theorem samePg_er (a b : Pg) : samePg a b = samePg a.er b.er := by
  simp only [samePg, Pg.er, Sl.er]; rw [sameL_er sameSr_er, sameL_er sameDc_er, sameL_er samePc_er]

theorem sameHp_refl (a : Hp) : sameHp a a = true := by simp [sameHp]
theorem sameDc_refl (a : Dc) : sameDc a a = true := by simp [sameDc]
theorem samePth_refl (a : Pth) : samePth a a = true := by simp [samePth, sameL_refl _ (fun x _ => sameHp_refl x)]
theorem sameTm_refl (a : Tm) : sameTm a a = true := by simp [sameTm]
theorem sameVl_refl (a : Vl) : sameVl a a = true := by simp [sameVl, samePth_refl, sameTm_refl]
theorem sameCd_refl (a : Cd) : sameCd a a = true := by simp [sameCd, sameVl_refl]
theorem sameHd_refl (a : Hd) : sameHd a a = true := by simp [sameHd, samePth_refl, sameVl_refl, sameCd_refl, sameL_refl _ (fun x _ => sameVl_refl x)]
theorem sameSL_refl : ∀ (a : SL), sameSL a a = true
  | .nil => rfl
  | .cons h tp tc t ep ec e r => by simp only [sameSL]; rw [sameHd_refl, sameSL_refl t, sameSL_refl e, sameSL_refl r]; rfl
theorem sameSr_refl (a : Sr) : sameSr a a = true := by simp [sameSr, sameL_refl _ (fun x _ => sameDc_refl x)]
theorem samePc_refl (a : Pc) : samePc a a = true := by simp [samePc, sameL_refl _ (fun x _ => sameDc_refl x), sameSL_refl]
theorem samePg_refl (a : Pg) : samePg a a = true := by simp [samePg, sameL_refl _ (fun x _ => sameSr_refl x), sameL_refl _ (fun x _ => sameDc_refl x), sameL_refl _ (fun x _ => samePc_refl x)]
/-- What is one but for places and addresses is the same. -/
theorem samePg_of {a b : Pg} (h : a.er = b.er) : samePg a b = true := by rw [samePg_er, h]; exact samePg_refl _

/-! No places. -/
def Hp.flat (x : Hp) : Prop := x.pos = 0
def Pth.flat (x : Pth) : Prop := x.pos = 0 ∧ ∀ h ∈ x.hops.l, h.flat
def Tm.flat (x : Tm) : Prop := x.pos = 0
def Vl.flat (x : Vl) : Prop := x.pos = 0 ∧ x.path.flat ∧ x.left.flat ∧ x.right.flat
def Cd.flat (x : Cd) : Prop := x.pos = 0 ∧ x.left.flat ∧ x.right.flat
def Hd.flat (x : Hd) : Prop := x.pos = 0 ∧ x.place.flat ∧ x.value.flat ∧ x.cond.flat ∧ ∀ v ∈ x.args.l, v.flat
def SL.flat : SL → Prop
  | .nil => True
  | .cons h _ _ t _ _ e r => h.flat ∧ t.flat ∧ e.flat ∧ r.flat
def Dc.flat (x : Dc) : Prop := x.pos = 0
def Sr.flat (x : Sr) : Prop := x.pos = 0 ∧ ∀ d ∈ x.fields.l, d.flat
def Pc.flat (x : Pc) : Prop := x.pos = 0 ∧ x.fin = 0 ∧ (∀ d ∈ x.params.l, d.flat) ∧ (∀ d ∈ x.locals_.l, d.flat) ∧ x.body.flat
def Pg.flat (x : Pg) : Prop := (∀ s ∈ x.structs.l, s.flat) ∧ (∀ d ∈ x.globals.l, d.flat) ∧ ∀ p ∈ x.procs.l, p.flat
def It.flat (x : It) : Prop := x.h.flat ∧ x.t.flat ∧ x.e.flat
theorem SL.flat_items : ∀ {l : SL}, l.flat ↔ ∀ x ∈ l.items, x.flat
  | .nil => by simp [SL.flat, SL.items]
  | .cons h tp tc t ep ec e r => by
    simp only [SL.flat, SL.items, List.mem_cons, forall_eq_or_imp, It.flat]
    rw [SL.flat_items (l := r)]
    constructor
    · rintro ⟨a, b, c, d⟩; exact ⟨⟨a, b, c⟩, d⟩
    · rintro ⟨⟨a, b, c⟩, d⟩; exact ⟨a, b, c, d⟩
/-- Items make a list of statements. -/
def SL.of : List It → SL
  | [] => .nil
  | x :: l => .cons x.h x.tp x.tc x.t x.ep x.ec x.e (SL.of l)
theorem SL.items_of : ∀ (l : List It), (SL.of l).items = l
  | [] => rfl
  | x :: l => by simp only [SL.of, SL.items, SL.items_of l]
theorem SL.of_items : ∀ (l : SL), SL.of l.items = l
  | .nil => rfl
  | .cons _ _ _ _ _ _ _ r => by simp only [SL.items, SL.of, SL.of_items r]
def It.er (x : It) : It := ⟨x.h.er, none, 0, x.t.er, none, 0, x.e.er⟩
theorem SL.er_items : ∀ (l : SL), l.er.items = l.items.map It.er
  | .nil => rfl
  | .cons _ _ _ _ _ _ _ r => by simp only [SL.er, SL.items, List.map_cons, SL.er_items r, It.er]
theorem SL.er_of (l : List It) : (SL.of l).er = SL.of (l.map It.er) := by
  rw [← SL.of_items (SL.of l).er, SL.er_items, SL.items_of]

/-! Worlds with blocks struck out. -/
/-- The world without the blocks that are struck. -/
def mask (S : Nat → Bool) (w : World) : World := { w with heap := w.heap.mapIdx fun i o => if S i then .cells #[] 0 else o }
/-- What can be read in one world can be read in the other. -/
def Ext (w w' : World) : Prop := ∀ b o v, w.cell? ⟨b, o, none⟩ = some v → w'.cell? ⟨b, o, none⟩ = some v
theorem Ext.refl (w : World) : Ext w w := fun _ _ _ h => h
theorem Ext.trans {a b c : World} (h : Ext a b) (k : Ext b c) : Ext a c := fun _ _ _ x => k _ _ _ (h _ _ _ x)
theorem mask_cell {S : Nat → Bool} {w : World} {b o : Nat} : (mask S w).cell? ⟨b, o, none⟩ = if S b then none else w.cell? ⟨b, o, none⟩ := by
  unfold mask World.cell?
  simp only [Array.getElem?_mapIdx]
  cases hb : w.heap[b]? with
  | none => simp
  | some ob =>
    simp only [Option.map_some]
    by_cases hs : S b = true
    · simp [hs]
    · simp [hs]
theorem Ext.mask (S : Nat → Bool) (w : World) : Ext (mask S w) w := fun b o v h => by
  rw [mask_cell] at h
  split at h
  · cases h
  · exact h
/-- From one struck world to another. -/
theorem Ext.of_mask {S T : Nat → Bool} {w w' : World} (h : ∀ b, S b = false → b < w.heap.size → T b = false ∧ w'.heap[b]? = w.heap[b]?) : Ext (YtlpnkllhpienhaaDoor.mask S w) (YtlpnkllhpienhaaDoor.mask T w') := fun b o v hc => by
  rw [mask_cell] at hc ⊢
  split at hc
  · cases hc
  · rename_i hs
    have hs' : S b = false := by simpa using hs
    have hlt := World.block_lt_of_cell? w _ hc
    obtain ⟨h1, h2⟩ := h b hs' hlt
    rw [if_neg (by simp [h1])]
    exact (World.cell?_of_block (w := w) h2).trans hc
theorem rangeAt_ext {w w' : World} (h : Ext w w') {b o : Nat} {cs : List Value} (hr : w.rangeAt b o cs) : w'.rangeAt b o cs := fun j v hv => h _ _ _ (hr j v hv)
theorem slLies_ext {α : Type} {w w' : World} {size bytes : Nat} {cells : α → List Value} {R R' : α → Prop} {s : Sl α} (h : Ext w w') (hs : slLies w size bytes cells R s) (hR : ∀ x, R x → R' x) : slLies w' size bytes cells R' s := by
  obtain ⟨hl, hs⟩ := hs
  refine ⟨hl, ?_⟩
  rcases hs with hs | ⟨b, o, hp, hx⟩
  · exact .inl hs
  · exact .inr ⟨b, o, hp, fun k x hk => ⟨rangeAt_ext h (hx k x hk).1, hR x (hx k x hk).2⟩⟩
theorem hopsLie_ext {w w' : World} (h : Ext w w') {s : Sl Hp} (hs : hopsLie w s) : hopsLie w' s := slLies_ext h hs (fun _ h => h)
theorem vlLies_ext {w w' : World} (h : Ext w w') {v : Vl} (hs : vlLies w v) : vlLies w' v := hopsLie_ext h hs
theorem argsLie_ext {w w' : World} (h : Ext w w') {s : Sl Vl} (hs : argsLie w s) : argsLie w' s := slLies_ext h hs (fun _ hv => vlLies_ext h hv)
theorem hdLies_ext {w w' : World} (h : Ext w w') {x : Hd} (H : hdLies w x) : hdLies w' x :=
  ⟨hopsLie_ext h H.1, vlLies_ext h H.2.1, vlLies_ext h H.2.2.1, vlLies_ext h H.2.2.2.1, argsLie_ext h H.2.2.2.2.1, H.2.2.2.2.2⟩
theorem lies_ext {w w' : World} (hx : Ext w w') : ∀ (l : SL) (b o : Nat), lies w l b o → lies w' l b o
  | .nil, _, _, _ => trivial
  | .cons h tp tc t ep ec e r, b, o, H => by
    obtain ⟨h1, h2, ⟨l3, h3⟩, ⟨l4, h4⟩, h5⟩ := H
    refine ⟨rangeAt_ext hx h1, hdLies_ext hx h2, ⟨l3, ?_⟩, ⟨l4, ?_⟩, lies_ext hx r b _ h5⟩
    · rcases h3 with h | ⟨b', o', hp, h⟩
      · exact .inl h
      · exact .inr ⟨b', o', hp, lies_ext hx t b' o' h⟩
    · rcases h4 with h | ⟨b', o', hp, h⟩
      · exact .inl h
      · exact .inr ⟨b', o', hp, lies_ext hx e b' o' h⟩
theorem sLies_ext {w w' : World} (hx : Ext w w') {p : Option Addr} {l : SL} (h : sLies w p l) : sLies w' p l := by
  obtain ⟨hl, h⟩ := h
  refine ⟨hl, ?_⟩
  rcases h with h | ⟨b, o, hp, h⟩
  · exact .inl h
  · exact .inr ⟨b, o, hp, lies_ext hx l b o h⟩
theorem itLies_ext {w w' : World} (hx : Ext w w') {x : It} (h : itLies w x) : itLies w' x := ⟨hdLies_ext hx h.1, sLies_ext hx h.2.1, sLies_ext hx h.2.2⟩
theorem declsLie_ext {w w' : World} (h : Ext w w') {s : Sl Dc} (hs : declsLie w s) : declsLie w' s := slLies_ext h hs (fun _ h => h)
theorem srsLie_ext {w w' : World} (h : Ext w w') {s : Sl Sr} (hs : srsLie w s) : srsLie w' s := slLies_ext h hs (fun _ hv => declsLie_ext h hv)
theorem pcLies_ext {w w' : World} (h : Ext w w') {x : Pc} (hs : pcLies w x) : pcLies w' x := ⟨declsLie_ext h hs.1, declsLie_ext h hs.2.1, sLies_ext h hs.2.2⟩
theorem pcsLie_ext {w w' : World} (h : Ext w w') {s : Sl Pc} (hs : pcsLie w s) : pcsLie w' s := slLies_ext h hs (fun _ hv => pcLies_ext h hv)
theorem pgLies_ext {w w' : World} (h : Ext w w') {p : Pg} (hs : pgLies w p) : pgLies w' p := ⟨srsLie_ext h hs.1, declsLie_ext h hs.2.1, pcsLie_ext h hs.2.2⟩
/-- The blocks that were there are struck: what lies in the rest is new. -/
def fresh (B : Nat) (w : World) : World := mask (fun b => decide (b < B)) w
/-- One row's block is struck. -/
def hole (r : Option Nat) (w : World) : World := mask (fun b => decide (some b = r)) w
theorem fresh_hole {B g : Nat} (h : g < B) (w : World) : Ext (fresh B w) (hole (some g) w) := Ext.of_mask (fun b hb _ => by
  simp only [decide_eq_false_iff_not] at hb ⊢
  exact ⟨by intro e; injection e with e; omega, trivial⟩)
theorem fresh_mono {B B' : Nat} (h : B' ≤ B) (w : World) : Ext (fresh B w) (fresh B' w) := Ext.of_mask (fun b hb _ => by
  simp only [decide_eq_false_iff_not] at hb ⊢
  exact ⟨by omega, trivial⟩)
theorem fresh_below {B : Nat} {w w' : World} (h : Below w.heap.size w w') : Ext (fresh B w) (fresh B w') := Ext.of_mask (fun b hb hlt => ⟨hb, h.block b hlt⟩)
/-- A row of one's own goes on; what lies beside it stays. -/
theorem hole_grown {r r' : Option Nat} {w w' : World} (h : w.grownBy w' r) (hr : r' = r ∨ ∃ k, w.heap.size ≤ k ∧ r' = some k) : Ext (hole r w) (hole r' w') := Ext.of_mask (fun b hb hlt => by
  simp only [decide_eq_false_iff_not] at hb ⊢
  refine ⟨?_, h.block b hlt hb⟩
  rcases hr with rfl | ⟨k, hk, rfl⟩
  · exact hb
  · intro e; injection e with e; omega)

end Go.Proofs.YtlpnkllhpienhaaDoor
