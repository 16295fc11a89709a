/-
  DERIVED. The walk of a part's reading (read).
-/
import Derived.Test.YtkieiclionkllaaDoorDb
namespace Go.Proofs.YtkieiclionkllaaDoor
open Go.RowKit Go.Sort
open Ac

theorem Bk.keep {w w' : World} {b g : Nat} {t : TypeId} {cs : Array Value} (h : Bk w b t cs) (hg : w.grownBy w' (some g)) (h1 : b ≠ g) : Bk w' b t cs :=
  h.grown hg (fun q hq => by injection hq with hq; omega)
/-- What read leaves: the reader's block R, the action's block A; nothing below B has turned. -/
def RePost (B R A : Nat) (w : World) (p : Nat) (l : List UInt8) (a : Acn) (e : Ending) (w' : World) : Prop :=
  e = .returned (.tuple #[]) ∧ Rd w' R (rd p (l, a)).1 ∧ Bk w' A 25 (rd p (l, a)).2.cs ∧ Below B w w'
/-- What is asked: both blocks, apart, above B. -/
structure Re (B R A : Nat) (w : World) (l : List UInt8) (a : Acn) : Prop where
  r : Rd w R l
  a : Bk w A 25 a.cs
  ne : A ≠ R
  br : B ≤ R
  ba : B ≤ A
  b11 : 11 ≤ B
  gl : Gl w
theorem Re.next {B R A : Nat} {w w' : World} {l : List UInt8} {a : Acn} {e : Ending} (h : Re B R A w l a) (hn : NxPost w R l e w') : Re B R A w' (cutAt l).2 a ∧ Below B w w' :=
  ⟨⟨hn.2.1, h.a.keep hn.2.2 h.ne, h.ne, h.br, h.ba, h.b11, h.gl.grown hn.2.2 (by have := h.b11; have := h.br; omega)⟩, below_of_grown hn.2.2 h.br (Nat.le_trans h.br (Nat.le_of_lt h.r.1.lt))⟩
theorem Re.below {B R A : Nat} {w w' : World} {l : List UInt8} {a : Acn} (h : Re B R A w l a) (hb : Below w.heap.size w w') : Re B R A w' l a ∧ Below B w w' :=
  ⟨⟨⟨h.r.1.below hb h.r.1.lt, h.r.2⟩, h.a.below hb h.a.lt, h.ne, h.br, h.ba, h.b11, h.gl.below hb (by have := h.b11; have := h.br; have := h.r.1.lt; omega)⟩, hb.mono (by have := h.br; have := h.r.1.lt; omega)⟩
theorem Re.set {B R A : Nat} {w w' : World} {l : List UInt8} {a b : Acn} (h : Re B R A w l a) (hk : Bk w' A 25 b.cs) (hg : w.grownBy w' (some A)) : Re B R A w' l b ∧ Below B w w' :=
  ⟨⟨⟨h.r.1.keep hg (Ne.symm h.ne), h.r.2⟩, hk, h.ne, h.br, h.ba, h.b11, h.gl.grown hg (by have := h.b11; have := h.ba; omega)⟩, below_of_grown hg h.ba (Nat.le_trans h.ba (Nat.le_of_lt h.a.lt))⟩
theorem word_le {l : List UInt8} (h : l.length ≤ 100000) : (cutAt l).1.length ≤ 100000 := Nat.le_trans (cut_len l).1 h

set_option maxHeartbeats 1600000 in
theorem read_none (B R A : Nat) (l : List UInt8) (a : Acn) (w : World) (h : Re B R A w l a) :
    Calls Tryd.prog 28 #[.int .u8 ((0 : Nat) : Int), .pointer (some ⟨R, 0, none⟩), .pointer (some ⟨A, 0, none⟩)] w fun e w' => RePost B R A w 0 l a e w' := by
  have HP : Hid (RePost B R A w 0 l a (.returned (.tuple #[])) w) := Lib.hid ⟨rfl, h.r, h.a, ⟨rfl, rfl, rfl, Nat.le_refl _, fun _ _ => rfl⟩⟩
  clear h
  go_enter Tryd.func28, Tryd.ntmps28
  go_wp2_with fail
  go_end0
  exact HP.out
set_option maxHeartbeats 1600000 in
theorem read_left (B R A : Nat) (l : List UInt8) (a : Acn) (w : World) (h : Re B R A w l a) :
    Calls Tryd.prog 28 #[.int .u8 ((9 : Nat) : Int), .pointer (some ⟨R, 0, none⟩), .pointer (some ⟨A, 0, none⟩)] w fun e w' => RePost B R A w 9 l a e w' := by
  have CN := Lib.hid (next_any R l w h.r h.gl)
  have H := Lib.hid h
  clear h
  go_enter Tryd.func28, Tryd.ntmps28
  go_wp2_with (first
    | (go_at_call 27; refine CN.out.mono ?_; rintro e w1 hn; obtain rfl := hn.1; have h1 := H.out.next hn; have H1 := Lib.hid h1.1; have B1 := Lib.hid h1.2; have CO := Lib.hid (operand_of (cutAt l).1 (word_le H.out.r.2) w1 h1.1.gl); clear hn h1)
    | (go_at_call 35; refine CO.out.mono ?_; rintro e w2 ⟨rfl, hb⟩; have h2 := H1.out.below hb; have H2 := Lib.hid h2.1; have B2 := Lib.hid h2.2; clear hb h2)
    | ((with_reducible show wpList _ _ _ (Oper.mk _ (Op.store 23 _ _) _ _ _ _ :: _) _ _); refine wpList_store_part rfl 23 _ _ rfl A 7 25 a.cs.toList [.int .i64 (operandOf (cutAt l).1).v, .int .i64 (operandOf (cutAt l).1).n] rfl rfl H2.out.a size23 (by show 9 ≤ 12; decide) (oc_one _) ?_; intro w3 hk3 hg3; have h3 := H2.out.set (b := { a with l := operandOf (cutAt l).1 }) hk3 hg3; have H3 := Lib.hid h3.1; have B3 := Lib.hid h3.2; clear hk3 hg3 h3))
  go_end0
  exact ⟨rfl, H3.out.r, H3.out.a, B1.out.trans (B2.out.trans B3.out)⟩
set_option maxHeartbeats 1600000 in
theorem read_right (B R A : Nat) (l : List UInt8) (a : Acn) (w : World) (h : Re B R A w l a) :
    Calls Tryd.prog 28 #[.int .u8 ((10 : Nat) : Int), .pointer (some ⟨R, 0, none⟩), .pointer (some ⟨A, 0, none⟩)] w fun e w' => RePost B R A w 10 l a e w' := by
  have CN := Lib.hid (next_any R l w h.r h.gl)
  have H := Lib.hid h
  clear h
  go_enter Tryd.func28, Tryd.ntmps28
  go_wp2_with (first
    | (go_at_call 27; refine CN.out.mono ?_; rintro e w1 hn; obtain rfl := hn.1; have h1 := H.out.next hn; have H1 := Lib.hid h1.1; have B1 := Lib.hid h1.2; have CO := Lib.hid (operand_of (cutAt l).1 (word_le H.out.r.2) w1 h1.1.gl); clear hn h1)
    | (go_at_call 35; refine CO.out.mono ?_; rintro e w2 ⟨rfl, hb⟩; have h2 := H1.out.below hb; have H2 := Lib.hid h2.1; have B2 := Lib.hid h2.2; clear hb h2)
    | ((with_reducible show wpList _ _ _ (Oper.mk _ (Op.store 23 _ _) _ _ _ _ :: _) _ _); refine wpList_store_part rfl 23 _ _ rfl A 9 25 a.cs.toList [.int .i64 (operandOf (cutAt l).1).v, .int .i64 (operandOf (cutAt l).1).n] rfl rfl H2.out.a size23 (by show 11 ≤ 12; decide) (oc_one _) ?_; intro w3 hk3 hg3; have h3 := H2.out.set (b := { a with r := operandOf (cutAt l).1 }) hk3 hg3; have H3 := Lib.hid h3.1; have B3 := Lib.hid h3.2; clear hk3 hg3 h3))
  go_end0
  exact ⟨rfl, H3.out.r, H3.out.a, B1.out.trans (B2.out.trans B3.out)⟩
set_option maxHeartbeats 1600000 in
theorem read_sense (B R A : Nat) (l : List UInt8) (a : Acn) (w : World) (h : Re B R A w l a) :
    Calls Tryd.prog 28 #[.int .u8 ((13 : Nat) : Int), .pointer (some ⟨R, 0, none⟩), .pointer (some ⟨A, 0, none⟩)] w fun e w' => RePost B R A w 13 l a e w' := by
  have CN := Lib.hid (next_any R l w h.r h.gl)
  have H := Lib.hid h
  have hq : ((bt (cutAt l).1).toList == [121, 101, 115]) = decide ((cutAt l).1 = yesW) := bt_beq _ _
  clear h
  unfold NxPost at CN
  have HQ : Hid (∀ w', Rd w' R (cutAt l).2 → w.grownBy w' (some R) → Re B R A w' (cutAt l).2 a ∧ Below B w w') := Lib.hid (fun w' h1 h2 => H.out.next ⟨rfl, h1, h2⟩)
  have HE : Hid ((rd 13 (l, a)).1 = (cutAt l).2 ∧ (rd 13 (l, a)).2 = { a with sense := decide ((cutAt l).1 = yesW) }) := Lib.hid ⟨rfl, rfl⟩
  generalize bt (cutAt l).1 = t at *
  generalize decide ((cutAt l).1 = yesW) = b at *
  go_enter Tryd.func28, Tryd.ntmps28
  go_wp2_with (go_at_call 27; refine CN.out.mono ?_; rintro e w1 ⟨rfl, hn1, hn2⟩; have h1 := HQ.out _ hn1 hn2; have H1 := Lib.hid h1.1; have B1 := Lib.hid h1.2; have c11 : w1.cell? ⟨A, 11, none⟩ = some (.bool a.sense) := h1.1.a.cell 11; have f11 := h1.1.a.frozen 11; clear hn1 hn2 h1)
  go_end0
  have h3 := H1.out.set (b := { a with sense := b }) (H1.out.a.set_ 11 (.bool b)) (grownBy_setC w1 ⟨A, 11, none⟩ _)
  exact ⟨rfl, by rw [HE.out.1]; exact h3.1.r, by rw [HE.out.2]; exact h3.1.a, B1.out.trans h3.2⟩
end Go.Proofs.YtkieiclionkllaaDoor
