/-
  DERIVED. Plain: what the document's Plain leaves at a statement's first region.
-/
import Derived.Test.YtpbjnjnmbglllaaBu
namespace Go.Proofs.Ytpbjnjnmbglllaa
open Go.RowKit Go.Sort

def tm0 : Tm := ⟨ByteArray.empty, 0, 0⟩
def vl0 : Vl := ⟨0, 0, ⟨ByteArray.empty, 0, ⟨none, 0, []⟩⟩, ByteArray.empty, tm0, tm0⟩
def cd0 : Cd := ⟨0, 0, vl0, vl0⟩
/-- The cells that the first region writes. -/
def cells6 (kind : Int) (y : Pth) (z : Vl) (name : ByteArray) (both : Bool) : List Value := scells ⟨kind, 0, y, z, cd0, name, ⟨none, 0, []⟩, both⟩ none 0 0 none 0 0
theorem one_of {l : List Value} (h : l.toArray.all (·.oneCell') = true) : ∀ u ∈ l, u.oneCell' = true := fun u hu => by
  have := Array.all_eq_true'.1 h u (by simpa using hu)
  exact this
theorem cells6_one (kind : Int) (y : Pth) (z : Vl) (name : ByteArray) (both : Bool) : ∀ u ∈ cells6 kind y z name both, u.oneCell' = true := one_of (scells_one _ _ _ _ _ _ _)
/-- What the first region leaves. -/
def Reg6 (wS : World) (kind : Int) (place : Pth) (value : Vl) (name : ByteArray) (both : Bool) (s6 : Value) (wx : World) : Prop :=
  ∃ (X : Nat) (y : Pth) (z : Vl), s6 = .pointer (some ⟨X, 0, none⟩) ∧ wS.heap.size ≤ X ∧ Mine wx X ∧ wx.rangeAt X 0 (cells6 kind y z name both) ∧ y.er = place.er ∧ y.flat ∧ z.er = value.er ∧ z.flat ∧
    hopsLie (rest wS.heap.size (some X) wx) y.hops ∧ vlLies (rest wS.heap.size (some X) wx) z ∧ Below wS.heap.size wS wx
section
variable {wS w1 w2 : World} {kind : Int} {place y : Pth} {value z : Vl} {name : ByteArray} {both : Bool} {Z : Array Value}
/-- The block was made last. -/
theorem reg6C (a1 : y.er = place.er) (a2 : y.flat) (a3 : hopsLie (fresh wS.heap.size w1) y.hops) (b1 : z.er = value.er) (b2 : z.flat) (b3 : vlLies (fresh w1.heap.size w2) z) (b4 : Below w1.heap.size w1 w2) (h1 : Below wS.heap.size wS w1) :
    Reg6 wS kind place value name both (.pointer (some ⟨w2.heap.size, 0, none⟩)) (w2.alloc (.cells (cells6 kind y z name both).toArray 57)) := by
  have hn : Below w2.heap.size w2 (w2.alloc (.cells (cells6 kind y z name both).toArray 57)) := Below.alloc (Below.refl _ _) (Nat.le_refl _) _
  have hk : Bk (w2.alloc (.cells (cells6 kind y z name both).toArray 57)) w2.heap.size 57 (cells6 kind y z name both).toArray := heap_alloc_new _ _
  refine ⟨w2.heap.size, y, z, rfl, Nat.le_trans h1.size b4.size, hk.mine, hk.range, a1, a2, b1, b2, ?_, ?_, h1.trans ((b4.trans (hn.mono b4.size)).mono h1.size)⟩
  · exact hopsLie_ext (fresh_new (b4.trans (hn.mono b4.size)) b4.size) a3
  · exact vlLies_ext ((fresh_mono h1.size _).trans (fresh_new hn (Nat.le_refl _))) b3
/-- The block was made between the two calls. -/
theorem reg6B {w3 : World} (ho : Only w2 w1.heap.size 0 48 w3) (hr : w3.rangeAt w1.heap.size 0 (cells6 kind y z name both)) (a1 : y.er = place.er) (a2 : y.flat) (a3 : hopsLie (fresh wS.heap.size w1) y.hops) (b1 : z.er = value.er) (b2 : z.flat) (b3 : vlLies (fresh (w1.alloc (.cells Z 57)).heap.size w2) z) (b4 : Below (w1.alloc (.cells Z 57)).heap.size (w1.alloc (.cells Z 57)) w2) (h1 : Below wS.heap.size wS w1) :
    Reg6 wS kind place value name both (.pointer (some ⟨w1.heap.size, 0, none⟩)) w3 := by
  have hz := World.size_alloc w1 (.cells Z 57)
  have hw : Below w1.heap.size w1 w2 := (Below.alloc (Below.refl _ _) (Nat.le_refl _) _).trans (b4.mono (by omega))
  have hx : Below w1.heap.size w1 w3 := hw.trans (ho.to_below (Nat.le_refl _) hw.size)
  refine ⟨w1.heap.size, y, z, rfl, h1.size, ho.mine, hr, a1, a2, b1, b2, ?_, ?_, h1.trans (hx.mono h1.size)⟩
  · exact hopsLie_ext (fresh_new hx (Nat.le_refl _)) a3
  · exact vlLies_ext ((fresh_rest (w0 := w1.alloc (.cells Z 57)) (by have := h1.size; omega) (by omega)).trans (rest_only ho)) b3
/-- The block was made ahead of both calls. -/
theorem reg6A {wA w3 : World} (ho : Only w2 wS.heap.size 0 48 w3) (hr : w3.rangeAt wS.heap.size 0 (cells6 kind y z name both)) (hAs : wA.heap.size = wS.heap.size + 1) (hD : Below wS.heap.size wS wA) (a1 : y.er = place.er) (a2 : y.flat) (a3 : hopsLie (fresh wA.heap.size w1) y.hops) (a4 : Below wA.heap.size wA w1) (b1 : z.er = value.er) (b2 : z.flat) (b3 : vlLies (fresh w1.heap.size w2) z) (b4 : Below w1.heap.size w1 w2) :
    Reg6 wS kind place value name both (.pointer (some ⟨wS.heap.size, 0, none⟩)) w3 := by
  have hs := a4.size
  have hw : Below wS.heap.size wS w2 := hD.trans ((a4.trans (b4.mono hs)).mono (by omega))
  have hx : Below wS.heap.size wS w3 := hw.trans (ho.to_below (Nat.le_refl _) hw.size)
  refine ⟨wS.heap.size, y, z, rfl, Nat.le_refl _, ho.mine, hr, a1, a2, b1, b2, ?_, ?_, hx⟩
  · exact hopsLie_ext ((fresh_rest (w0 := wA) (by omega) (by omega)).trans ((rest_below b4).trans (rest_only ho))) a3
  · exact vlLies_ext ((fresh_rest (w0 := w1) (by omega) (by omega)).trans (rest_only ho)) b3
end

/-- The cells that the second region leaves, and the loop: the arguments at v. -/
def cells7 (kind : Int) (y : Pth) (z : Vl) (c : Cd) (name : ByteArray) (both : Bool) (v : Value) : List Value := (scells ⟨kind, 0, y, z, c, name, ⟨none, 0, []⟩, both⟩ none 0 0 none 0 0).set 44 v
theorem rangeAt_low {B b o : Nat} {w w' : World} {cs : List Value} (h : w.rangeAt b o cs) (hb : Below B w w') (hB : b < B) : w'.rangeAt b o cs := fun j v hv => (hb.cell (p := ⟨b, o + j, none⟩) hB).trans (h j v hv)
theorem Mine.low {B b : Nat} {w w' : World} (h : Mine w b) (hb : Below B w w') (hB : b < B) : Mine w' b := by
  obtain ⟨cs, t, h⟩ := h; exact ⟨cs, t, (hb.block b hB).trans h⟩
theorem grownX_below {B X : Nat} {w w' : World} (h : w.grownBy w' (some X)) (hX : B ≤ X) (hB : B ≤ w.heap.size) : Below B w w' :=
  ⟨h.os, h.tape, h.output, h.size, fun k hk => h.block k (by omega) (by intro e; injection e with e; omega)⟩
theorem grownX_low {B X : Nat} {w w' w'' : World} (h : w.grownBy w' (some X)) (hb : Below B w' w'') (hB : w.heap.size ≤ B) : w.grownBy w'' (some X) :=
  ⟨hb.os.trans h.os, hb.tape.trans h.tape, hb.output.trans h.output, Nat.le_trans h.size hb.size, fun k hk hne => (hb.block k (by omega)).trans (h.block k hk hne)⟩
theorem rest_grownX {B X : Nat} {w w' : World} (h : w.grownBy w' (some X)) : Ext (rest B (some X) w) (rest B (some X) w') := Ext.of_mask fun b hb hlt => by
  simp only [Bool.or_eq_false_iff, decide_eq_false_iff_not] at hb ⊢
  exact ⟨hb, h.block b hlt hb.2⟩

theorem fresh_restv {B : Nat} {r : Option Nat} {w0 w : World} (hB : B ≤ w0.heap.size) (hr : ∀ g, r = some g → g < w0.heap.size) : Ext (fresh w0.heap.size w) (rest B r w) := Ext.of_mask fun b hb _ => by
  simp only [decide_eq_false_iff_not, Bool.or_eq_false_iff] at hb ⊢
  exact ⟨⟨by omega, by intro e; have := hr b e.symm; omega⟩, trivial⟩

end Go.Proofs.Ytpbjnjnmbglllaa
