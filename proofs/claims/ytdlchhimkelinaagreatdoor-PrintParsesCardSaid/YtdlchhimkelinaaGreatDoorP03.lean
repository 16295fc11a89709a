/-
  The walks of the parser's terms. The walks of the parser's small calls as what the plain parser says; the relation, the braces, the statements counted. The walks of the parser: statements counted; may a statement, a local, a sum begin here. The walks of the parser: fields, numbers and pointers that 
-/
import Derived.Test.YtdlchhimkelinaaGreatDoorP02
import Derived.BigQuiet
set_option maxHeartbeats 6400000
set_option maxRecDepth 100000
namespace Go.Proofs.YtdlchhimkelinaaGreatDoor
open Go.RowKit Go.Sort
attribute [local go_sem] field79_0 field79_1 field79_2 field79_3
/-- The place of a sign; what is thrown at it. -/
def posAt (l : List Tx.Sg) (i : Nat) : Int := match l[i]? with | some x => x.pos | none => 0
def faultN (l : List Tx.Sg) (n : Int × Nat) : Ending := faultAt (posAt l n.2) n.1
theorem faultN_at {l : List Tx.Sg} {i : Nat} {x : Tx.Sg} (hx : l[i]? = some x) (n : Int) : faultAt x.pos n = faultN l (n, i) := by
 unfold faultN posAt; rw [hx]
/-- What a part of the parser ends in: what the plain parser says, and nothing of old is touched but the parser itself. -/
def Outc {α : Type} (K : World → Value → α → Prop) (w : World) (pb sb cap : Nat) (l : List Tx.Sg) (r : Pr.Res α) (e : Ending) (w' : World) : Prop :=
 w.grownBy w' (some pb) ∧ match r with
 | .ok (a, u) => ∃ v, e = .returned v ∧ K w' v a ∧ PS w' pb sb cap l u.i u.o u.b
 | .error n => ∃ _ : Unit, e = faultN l n
section
variable {pb sb cap : Nat} {l : List Tx.Sg} {i : Nat} {o b : Int}
/-- The end of a call that hands back a term through a result of its own. -/
theorem term_result {w2 : World} {n : ByteArray} {k p : Int} {R : Nat} {s : ByteArray} {a c : Int} (hk : Bk w2 R 47 #[.string s, .int .i64 a, .int .i64 c]) :
  Bk (((w2.setCell ⟨R, 0, none⟩ (.string n)).setCell ⟨R, 1, none⟩ (.int .i64 k)).setCell ⟨R, 2, none⟩ (.int .i64 p)) R 47 #[.string n, .int .i64 k, .int .i64 p] ∧
  w2.grownBy (((w2.setCell ⟨R, 0, none⟩ (.string n)).setCell ⟨R, 1, none⟩ (.int .i64 k)).setCell ⟨R, 2, none⟩ (.int .i64 p)) (some R) :=
 ⟨((hk.set_ 0 _).set_ 1 _).set_ 2 _, grownBy_tr (grownBy_tr (grownBy_setC _ ⟨R, 0, none⟩ _) (grownBy_setC _ ⟨R, 1, none⟩ _)) (grownBy_setC _ ⟨R, 2, none⟩ _)⟩
/-- Nothing of old but the parser is touched, if it is so up to a world from which on just a block of one's own is written. -/
theorem grownBy_mine {w w2 w4 : World} {pb : Nat} (h2 : w.grownBy w2 (some pb)) (h3 : w2.grownBy w4 (some w.heap.size)) : w.grownBy w4 (some pb) :=
 ⟨h3.os.trans h2.os, h3.tape.trans h2.tape, h3.output.trans h2.output, Nat.le_trans h2.size h3.size, fun k hk hne =>
  (h3.block k (Nat.lt_of_lt_of_le hk h2.size) (by intro e; injection e with e; omega)).trans (h2.block k hk hne)⟩
theorem PS.at {w : World} (h : PS w pb sb cap l i o b) : ∃ x, l[i]? = some x := ⟨l[i]'h.lt, List.getElem?_eq_getElem h.lt⟩
theorem grownBy_below {a b c : World} {r : Option Nat} (h : a.grownBy b r) (k : Below b.heap.size b c) : a.grownBy c r := grownBy_tr h (grownBy_of k r)
theorem grownBy_above {a b c : World} {r : Option Nat} (h : Below a.heap.size a b) (k : b.grownBy c r) : a.grownBy c r := below_grown h k
theorem term_num (x : Tx.Sg) (w : World) (h : PS w pb sb cap l i o b) (hg : Good l) (hx : l[i]? = some x) (ht : x.kind = 2) :
  Calls Tryz.prog 193 #[.pointer (some ⟨pb, 0, none⟩)] w fun e w' => e = .returned (.agg #[.string ByteArray.empty, .int .i64 x.num, .int .i64 x.pos]) ∧ PS w' pb sb cap l (i + 1) o b ∧ w.grownBy w' (some pb) := by
 have hn : Below w.heap.size w (w.alloc (.cells #[.string ByteArray.empty, .int .i64 0, .int .i64 0] 47)) := (Below.refl _ _).alloc (Nat.le_refl _) _
 have HK : Hid (Bk (w.alloc (.cells #[.string ByteArray.empty, .int .i64 0, .int .i64 0] 47)) w.heap.size 47 #[.string ByteArray.empty, .int .i64 0, .int .i64 0]) := hdn (heap_alloc_new _ _)
 have HZ : Hid ((w.alloc (.cells #[.string ByteArray.empty, .int .i64 0, .int .i64 0] 47)).heap.size = w.heap.size + 1) := hdn (by simp)
 have HNE : Hid (w.heap.size ≠ pb ∧ w.heap.size ≠ sb) := hdn ⟨fun e => by have := h.pb_lt; omega, fun e => by have := h.sb_lt; omega⟩
 have HN := hdn hn
 have hp := h.below hn
 generalize hwA : w.alloc (.cells #[.string ByteArray.empty, .int .i64 0, .int .i64 0] 47) = wA at HK HZ HN hp
 have HA : Hid (Calls Tryz.prog 58 #[.pointer (some ⟨pb, 0, none⟩)] wA fun e w' => e = .returned (.agg #[.int .i64 2, .int .i64 x.pos, .string x.text, .int .i64 x.num]) ∧ Below wA.heap.size wA w') := hdn ((ahead_any x wA hp hg hx).mono fun e w' ⟨h1, h2⟩ => ⟨by rw [h1, ht], h2⟩)
 have HT : Hid (∀ w', Below wA.heap.size wA w' → Calls Tryz.prog 137 #[.pointer (some ⟨pb, 0, none⟩)] w' fun e w'' => e = .returned (.agg #[.int .i64 x.kind, .int .i64 x.pos, .string x.text, .int .i64 x.num]) ∧ PS w'' pb sb cap l (i + 1) o b ∧ w'.grownBy w'' (some pb)) := hdn (fun w' hb => take_any x w' (hp.below hb) hg hx (by rw [ht]; decide))
 clear h hg hx ht hp hn
 go_enter Tryz.func193, Tryz.ntmps193
 go_wp2_with fail
 rw [show w.alloc (.cells #[.string ⟨#[]⟩, .int .i64 0, .int .i64 0] 47) = wA from hwA]
 clear hwA
 refine (HA.out).mono ?_; rintro en w1 ⟨rfl, hb⟩
 have HB := hdn hb
 clear hb
 go_wp2_with fail
 refine (HT.out w1 HB.out).mono ?_; rintro en w2 ⟨rfl, h2, h3⟩
 have H2 := hdn h2; have H3 := hdn (below_grown HB.out h3)
 have HK2 : Hid (Bk w2 w.heap.size 47 #[.string ByteArray.empty, .int .i64 0, .int .i64 0]) := hdn ((H3.out.block _ (by rw [HZ.out]; omega) (by intro e; injection e with e; exact HNE.out.1 e)).trans HK.out)
 clear h2 h3
 go_upto_region 3 with fail
 have hm : Below w2.heap.size w2 (w2.alloc (.cells #[.int .i64 x.kind, .int .i64 x.pos, .string x.text, .int .i64 x.num] 106)) := (Below.refl _ _).alloc (Nat.le_refl _) _
 have HP := hdn (H2.out.below hm)
 have HKR := hdn (HK2.out.below hm (Array.getElem?_eq_some_iff.1 HK2.out).1)
 have HKT : Hid (Bk (w2.alloc (.cells #[.int .i64 x.kind, .int .i64 x.pos, .string x.text, .int .i64 x.num] 106)) w2.heap.size 106 #[.int .i64 x.kind, .int .i64 x.pos, .string x.text, .int .i64 x.num]) := hdn (heap_alloc_new _ _)
 have HG : Hid (w.grownBy (w2.alloc (.cells #[.int .i64 x.kind, .int .i64 x.pos, .string x.text, .int .i64 x.num] 106)) (some pb)) := hdn (grownBy_below (grownBy_above HN.out H3.out) hm)
 clear hm
 obtain ⟨T, hT⟩ : ∃ T, T = w2.heap.size := ⟨_, rfl⟩
 rw [← hT] at HKT ⊢
 clear hT
 generalize w2.alloc (.cells #[.int .i64 x.kind, .int .i64 x.pos, .string x.text, .int .i64 x.num] 106) = w3 at HP HKR HKT HG ⊢
 have t0 : w3.cell? ⟨T, 0, none⟩ = some (.int .i64 x.kind) := HKT.out.cell 0
 have t1 : w3.cell? ⟨T, 1, none⟩ = some (.int .i64 x.pos) := HKT.out.cell 1
 have t2 : w3.cell? ⟨T, 2, none⟩ = some (.string x.text) := HKT.out.cell 2
 have t3 : w3.cell? ⟨T, 3, none⟩ = some (.int .i64 x.num) := HKT.out.cell 3
 have r0 : w3.cell? ⟨w.heap.size, 0, none⟩ = some (.string ByteArray.empty) := HKR.out.cell 0
 have r1 : w3.cell? ⟨w.heap.size, 1, none⟩ = some (.int .i64 0) := HKR.out.cell 1
 have r2 : w3.cell? ⟨w.heap.size, 2, none⟩ = some (.int .i64 0) := HKR.out.cell 2
 have f0 := HKR.out.frozen 0
 have f1 := HKR.out.frozen 1
 have f2 := HKR.out.frozen 2
 go_wp2_with fail
 clear t0 t1 t2 t3 r0 r1 r2 f0 f1 f2
 obtain ⟨hB, hF⟩ := term_result (n := ⟨#[]⟩) (k := x.num) (p := x.pos) HKR.out
 generalize ((w3.setCell ⟨w.heap.size, 0, none⟩ (.string ⟨#[]⟩)).setCell ⟨w.heap.size, 1, none⟩ (.int .i64 x.num)).setCell ⟨w.heap.size, 2, none⟩ (.int .i64 x.pos) = w4 at hB hF ⊢
 have e0 := hB.cell 0
 have e1 := hB.cell 1
 have e2 := hB.cell 2
 exact bodyPost_ret (v := .agg #[.string ⟨#[]⟩, .int .i64 x.num, .int .i64 x.pos]) (by simp [results, Tryz.results193, go_sem, e0, e1, e2]) rfl ⟨rfl, HP.out.far hF HNE.out.1 HNE.out.2, grownBy_mine HG.out hF⟩
theorem term_name (x : Tx.Sg) (w : World) (h : PS w pb sb cap l i o b) (hg : Good l) (hx : l[i]? = some x) (ht : x.kind = 1) :
  Calls Tryz.prog 193 #[.pointer (some ⟨pb, 0, none⟩)] w fun e w' => e = .returned (.agg #[.string x.text, .int .i64 0, .int .i64 x.pos]) ∧ PS w' pb sb cap l (i + 1) o b ∧ w.grownBy w' (some pb) := by
 have hn : Below w.heap.size w (w.alloc (.cells #[.string ByteArray.empty, .int .i64 0, .int .i64 0] 47)) := (Below.refl _ _).alloc (Nat.le_refl _) _
 have HK : Hid (Bk (w.alloc (.cells #[.string ByteArray.empty, .int .i64 0, .int .i64 0] 47)) w.heap.size 47 #[.string ByteArray.empty, .int .i64 0, .int .i64 0]) := hdn (heap_alloc_new _ _)
 have HZ : Hid ((w.alloc (.cells #[.string ByteArray.empty, .int .i64 0, .int .i64 0] 47)).heap.size = w.heap.size + 1) := hdn (by simp)
 have HNE : Hid (w.heap.size ≠ pb ∧ w.heap.size ≠ sb) := hdn ⟨fun e => by have := h.pb_lt; omega, fun e => by have := h.sb_lt; omega⟩
 have HN := hdn hn
 have hp := h.below hn
 generalize hwA : w.alloc (.cells #[.string ByteArray.empty, .int .i64 0, .int .i64 0] 47) = wA at HK HZ HN hp
 have HA : Hid (Calls Tryz.prog 58 #[.pointer (some ⟨pb, 0, none⟩)] wA fun e w' => e = .returned (.agg #[.int .i64 1, .int .i64 x.pos, .string x.text, .int .i64 x.num]) ∧ Below wA.heap.size wA w') := hdn ((ahead_any x wA hp hg hx).mono fun e w' ⟨h1, h2⟩ => ⟨by rw [h1, ht], h2⟩)
 have HT : Hid (∀ w', Below wA.heap.size wA w' → Calls Tryz.prog 99 #[.pointer (some ⟨pb, 0, none⟩)] w' fun e w'' => e = .returned (.agg #[.int .i64 x.kind, .int .i64 x.pos, .string x.text, .int .i64 x.num]) ∧ PS w'' pb sb cap l (i + 1) o b ∧ w'.grownBy w'' (some pb)) := hdn (fun w' hb => name_yes x w' (hp.below hb) hg hx ht)
 clear h hg hx ht hp hn
 go_enter Tryz.func193, Tryz.ntmps193
 go_wp2_with fail
 rw [show w.alloc (.cells #[.string ⟨#[]⟩, .int .i64 0, .int .i64 0] 47) = wA from hwA]
 clear hwA
 refine (HA.out).mono ?_; rintro en w1 ⟨rfl, hb⟩
 have HB := hdn hb
 clear hb
 go_wp2_with fail
 refine (HT.out w1 HB.out).mono ?_; rintro en w2 ⟨rfl, h2, h3⟩
 have H2 := hdn h2; have H3 := hdn (below_grown HB.out h3)
 have HK2 : Hid (Bk w2 w.heap.size 47 #[.string ByteArray.empty, .int .i64 0, .int .i64 0]) := hdn ((H3.out.block _ (by rw [HZ.out]; omega) (by intro e; injection e with e; exact HNE.out.1 e)).trans HK.out)
 clear h2 h3
 go_upto_region 5 with fail
 have hm : Below w2.heap.size w2 (w2.alloc (.cells #[.int .i64 x.kind, .int .i64 x.pos, .string x.text, .int .i64 x.num] 106)) := (Below.refl _ _).alloc (Nat.le_refl _) _
 have HP := hdn (H2.out.below hm)
 have HKR := hdn (HK2.out.below hm (Array.getElem?_eq_some_iff.1 HK2.out).1)
 have HKT : Hid (Bk (w2.alloc (.cells #[.int .i64 x.kind, .int .i64 x.pos, .string x.text, .int .i64 x.num] 106)) w2.heap.size 106 #[.int .i64 x.kind, .int .i64 x.pos, .string x.text, .int .i64 x.num]) := hdn (heap_alloc_new _ _)
 have HG : Hid (w.grownBy (w2.alloc (.cells #[.int .i64 x.kind, .int .i64 x.pos, .string x.text, .int .i64 x.num] 106)) (some pb)) := hdn (grownBy_below (grownBy_above HN.out H3.out) hm)
 clear hm
 obtain ⟨T, hT⟩ : ∃ T, T = w2.heap.size := ⟨_, rfl⟩
 rw [← hT] at HKT ⊢
 clear hT
 generalize w2.alloc (.cells #[.int .i64 x.kind, .int .i64 x.pos, .string x.text, .int .i64 x.num] 106) = w3 at HP HKR HKT HG ⊢
 have t0 : w3.cell? ⟨T, 0, none⟩ = some (.int .i64 x.kind) := HKT.out.cell 0
 have t1 : w3.cell? ⟨T, 1, none⟩ = some (.int .i64 x.pos) := HKT.out.cell 1
 have t2 : w3.cell? ⟨T, 2, none⟩ = some (.string x.text) := HKT.out.cell 2
 have t3 : w3.cell? ⟨T, 3, none⟩ = some (.int .i64 x.num) := HKT.out.cell 3
 have r0 : w3.cell? ⟨w.heap.size, 0, none⟩ = some (.string ByteArray.empty) := HKR.out.cell 0
 have r1 : w3.cell? ⟨w.heap.size, 1, none⟩ = some (.int .i64 0) := HKR.out.cell 1
 have r2 : w3.cell? ⟨w.heap.size, 2, none⟩ = some (.int .i64 0) := HKR.out.cell 2
 have f0 := HKR.out.frozen 0
 have f1 := HKR.out.frozen 1
 have f2 := HKR.out.frozen 2
 go_wp2_with fail
 clear t0 t1 t2 t3 r0 r1 r2 f0 f1 f2
 obtain ⟨hB, hF⟩ := term_result (n := x.text) (k := 0) (p := x.pos) HKR.out
 generalize ((w3.setCell ⟨w.heap.size, 0, none⟩ (.string x.text)).setCell ⟨w.heap.size, 1, none⟩ (.int .i64 0)).setCell ⟨w.heap.size, 2, none⟩ (.int .i64 x.pos) = w4 at hB hF ⊢
 have e0 := hB.cell 0
 have e1 := hB.cell 1
 have e2 := hB.cell 2
 exact bodyPost_ret (v := .agg #[.string x.text, .int .i64 0, .int .i64 x.pos]) (by simp [results, Tryz.results193, go_sem, e0, e1, e2]) rfl ⟨rfl, HP.out.far hF HNE.out.1 HNE.out.2, grownBy_mine HG.out hF⟩
theorem term_none (x : Tx.Sg) (w : World) (h : PS w pb sb cap l i o b) (hg : Good l) (hx : l[i]? = some x) (h1 : x.kind ≠ 1) (h2 : x.kind ≠ 2) :
  Calls Tryz.prog 193 #[.pointer (some ⟨pb, 0, none⟩)] w fun e w' => e = faultAt x.pos 5 ∧ Below w.heap.size w w' := by
 have hn : Below w.heap.size w (w.alloc (.cells #[.string ByteArray.empty, .int .i64 0, .int .i64 0] 47)) := (Below.refl _ _).alloc (Nat.le_refl _) _
 have HK : Hid (Bk (w.alloc (.cells #[.string ByteArray.empty, .int .i64 0, .int .i64 0] 47)) w.heap.size 47 #[.string ByteArray.empty, .int .i64 0, .int .i64 0]) := hdn (heap_alloc_new _ _)
 have HZ : Hid ((w.alloc (.cells #[.string ByteArray.empty, .int .i64 0, .int .i64 0] 47)).heap.size = w.heap.size + 1) := hdn (by simp)
 have HNE : Hid (w.heap.size ≠ pb ∧ w.heap.size ≠ sb) := hdn ⟨fun e => by have := h.pb_lt; omega, fun e => by have := h.sb_lt; omega⟩
 have HN := hdn hn
 have hp := h.below hn
 generalize hwA : w.alloc (.cells #[.string ByteArray.empty, .int .i64 0, .int .i64 0] 47) = wA at HK HZ HN hp
 have HA : Hid (Calls Tryz.prog 58 #[.pointer (some ⟨pb, 0, none⟩)] wA fun e w' => e = .returned (.agg #[.int .i64 x.kind, .int .i64 x.pos, .string x.text, .int .i64 x.num]) ∧ Below wA.heap.size wA w') := hdn (ahead_any x wA hp hg hx)
 have HT : Hid (∀ w', Below wA.heap.size wA w' → Calls Tryz.prog 99 #[.pointer (some ⟨pb, 0, none⟩)] w' fun e w'' => e = faultAt x.pos 5 ∧ Below w'.heap.size w' w'') := hdn (fun w' hb => name_no x w' (hp.below hb) hg hx h1)
 clear h hg hx hp hn h1
 go_enter Tryz.func193, Tryz.ntmps193
 go_wp2_with fail
 rw [show w.alloc (.cells #[.string ⟨#[]⟩, .int .i64 0, .int .i64 0] 47) = wA from hwA]
 clear hwA
 refine (HA.out).mono ?_; rintro en w1 ⟨rfl, hb⟩
 have HB := hdn hb
 clear hb
 go_wp2_with fail
 refine (HT.out w1 HB.out).mono ?_; rintro en w2 ⟨rfl, hb2⟩
 have HB2 := hdn ((HN.out.trans (HB.out.mono HN.out.size)).trans (hb2.mono (HN.out.trans (HB.out.mono HN.out.size)).size))
 exact ⟨rfl, rfl, HB2.out⟩
/-- A term as it lies in a value. -/
def KTm (v : Value) (a : Tm) : Prop := ∃ y : Tm, v = .agg y.cells.toArray ∧ y.er = a
theorem term_any (w : World) (h : PS w pb sb cap l i o b) (hg : Good l) :
  Calls Tryz.prog 193 #[.pointer (some ⟨pb, 0, none⟩)] w (Outc (fun _ v a => KTm v a) w pb sb cap l (Pr.term (l.map Pr.tk) ⟨i, o, b⟩)) := by
 obtain ⟨x, hx⟩ := h.at
 have hs := Pr.sg_tk hx
 by_cases h2 : x.kind = 2
 ·refine (term_num x w h hg hx h2).mono ?_; rintro e w' ⟨rfl, h3, h4⟩
  refine ⟨h4, ?_⟩
  simp only [Pr.term, hs, Pr.tk, h2, if_true]
  exact ⟨_, rfl, ⟨⟨ByteArray.empty, x.num, x.pos⟩, rfl, rfl⟩, h3⟩
 ·by_cases h1 : x.kind = 1
  ·refine (term_name x w h hg hx h1).mono ?_; rintro e w' ⟨rfl, h3, h4⟩
   refine ⟨h4, ?_⟩
   simp only [Pr.term, Pr.name, Pr.th, hs, Pr.tk, h1, if_true, show ¬ ((1 : Int) = 2) by decide, if_false]
   exact ⟨_, rfl, ⟨⟨x.text, 0, x.pos⟩, rfl, rfl⟩, h3⟩
  ·refine (term_none x w h hg hx h1 h2).mono ?_; rintro e w' ⟨rfl, h3⟩
   refine ⟨grownBy_of h3 _, ?_⟩
   simp only [Pr.term, Pr.name, Pr.th, hs, Pr.tk, h1, h2, if_false]
   exact ⟨(), faultN_at hx 5⟩
end
end Go.Proofs.YtdlchhimkelinaaGreatDoor
namespace Go.Proofs.YtdlchhimkelinaaGreatDoor
open Go.RowKit Go.Sort
attribute [local go_sem] field79_0 field79_1 field79_2 field79_3
theorem Outc.err {α : Type} {K : World → Value → α → Prop} {w w' : World} {pb sb cap : Nat} {l : List Tx.Sg} {r : Pr.Res α} {n : Int × Nat} (hr : r = .error n) (hg : w.grownBy w' (some pb)) : Outc K w pb sb cap l r (faultN l n) w' := by
 subst hr; exact ⟨hg, (), rfl⟩
theorem Outc.ok {α : Type} {K : World → Value → α → Prop} {w w' : World} {pb sb cap : Nat} {l : List Tx.Sg} {r : Pr.Res α} {v : Value} {a : α} {u : Pr.St} (hr : r = .ok (a, u)) (hg : w.grownBy w' (some pb)) (hk : K w' v a) (hp : PS w' pb sb cap l u.i u.o u.b) : Outc K w pb sb cap l r (.returned v) w' := by
 subst hr; exact ⟨hg, v, rfl, hk, hp⟩
theorem Outc.of_err {α : Type} {K : World → Value → α → Prop} {w w' : World} {pb sb cap : Nat} {l : List Tx.Sg} {r : Pr.Res α} {n : Int × Nat} {e : Ending} (h : Outc K w pb sb cap l r e w') (hr : r = .error n) : ∃ _ : Unit, e = faultN l n ∧ w.grownBy w' (some pb) := by
 subst hr; exact ⟨h.2.choose, h.2.choose_spec, h.1⟩
theorem Outc.of_ok {α : Type} {K : World → Value → α → Prop} {w w' : World} {pb sb cap : Nat} {l : List Tx.Sg} {r : Pr.Res α} {a : α} {u : Pr.St} {e : Ending} (h : Outc K w pb sb cap l r e w') (hr : r = .ok (a, u)) : ∃ v, e = .returned v ∧ K w' v a ∧ PS w' pb sb cap l u.i u.o u.b ∧ w.grownBy w' (some pb) := by
 subst hr; obtain ⟨v, h1, h2, h3⟩ := h.2; exact ⟨v, h1, h2, h3, h.1⟩
theorem PS.same {w w' : World} {pb sb cap : Nat} {l : List Tx.Sg} {i : Nat} {o b : Int} (h : PS w pb sb cap l i o b) (hb : Below w.heap.size w w') : PS w' pb sb cap l i o b := h.below hb
/-- A sign as it is handed back. -/
def KSg (v : Value) (a : Pr.Tk) : Prop := ∃ x : Tx.Sg, v = .agg #[.int .i64 x.kind, .int .i64 x.pos, .string x.text, .int .i64 x.num] ∧ Pr.tk x = a
section
variable {pb sb cap : Nat} {l : List Tx.Sg}
theorem must_any (s : ByteArray) (hs : s.data.toList.length ≠ 0) (w : World) (u : Pr.St) (h : PS w pb sb cap l u.i u.o u.b) (hg : Good l) :
  Calls Tryz.prog 98 #[.pointer (some ⟨pb, 0, none⟩), .string s] w (Outc (fun _ v a => KSg v a) w pb sb cap l (Pr.must (l.map Pr.tk) s u)) := by
 obtain ⟨x, hx⟩ := h.at
 by_cases ht : (x.text.toList == s.toList) = true
 ·refine (must_yes x s w h hg hx ht (by rw [Lib.toList_data]; exact hs)).mono ?_; rintro e w' ⟨rfl, h3, h4⟩
  refine Outc.ok (u := u.go) (a := Pr.tk x) ?_ h4 ⟨x, rfl, rfl⟩ h3
  simp only [Pr.must, Pr.is_tk hx, ht, Pr.sg_tk hx, if_true]
 ·simp only [Bool.not_eq_true] at ht
  refine (must_no x s w h hg hx ht).mono ?_; rintro e w' ⟨rfl, h3⟩
  rw [faultN_at hx 5]
  refine Outc.err ?_ (grownBy_of h3 _)
  simp only [Pr.must, Pr.is_tk hx, ht, Bool.false_eq_true, if_false]
theorem name_any (w : World) (u : Pr.St) (h : PS w pb sb cap l u.i u.o u.b) (hg : Good l) :
  Calls Tryz.prog 99 #[.pointer (some ⟨pb, 0, none⟩)] w (Outc (fun _ v a => KSg v a) w pb sb cap l (Pr.name (l.map Pr.tk) u)) := by
 obtain ⟨x, hx⟩ := h.at
 by_cases ht : x.kind = 1
 ·refine (name_yes x w h hg hx ht).mono ?_; rintro e w' ⟨rfl, h3, h4⟩
  refine Outc.ok (u := u.go) (a := Pr.tk x) ?_ h4 ⟨x, rfl, rfl⟩ h3
  simp only [Pr.name, Pr.sg_tk hx, Pr.tk, ht, if_true]
 ·refine (name_no x w h hg hx ht).mono ?_; rintro e w' ⟨rfl, h3⟩
  rw [faultN_at hx 5]
  refine Outc.err ?_ (grownBy_of h3 _)
  simp only [Pr.name, Pr.sg_tk hx, Pr.tk, ht, if_false]
/-- Where the parser is once it was asked to take a sign that may come next. -/
def St.if_ (u : Pr.St) : Bool → Pr.St
 | true => u.go
 | false => u
theorem may_any (s : ByteArray) (hs : s.data.toList.length ≠ 0) (w : World) (u : Pr.St) (h : PS w pb sb cap l u.i u.o u.b) (hg : Good l) :
  Calls Tryz.prog 100 #[.pointer (some ⟨pb, 0, none⟩), .string s] w fun e w' => ∃ q, Pr.is (l.map Pr.tk) u.i s = q ∧ e = .returned (.bool q) ∧ PS w' pb sb cap l (St.if_ u q).i (St.if_ u q).o (St.if_ u q).b ∧ w.grownBy w' (some pb) := by
 obtain ⟨x, hx⟩ := h.at
 by_cases ht : (x.text.toList == s.toList) = true
 ·refine (may_yes x s w h hg hx ht (by rw [Lib.toList_data]; exact hs)).mono ?_; rintro e w' ⟨rfl, h3, h4⟩
  exact ⟨true, by rw [Pr.is_tk hx, ht], rfl, h3, h4⟩
 ·simp only [Bool.not_eq_true] at ht
  refine (may_no x s w h hg hx ht).mono ?_; rintro e w' ⟨rfl, h3⟩
  exact ⟨false, by rw [Pr.is_tk hx, ht], rfl, h.below h3, grownBy_of h3 _⟩
theorem relation_any (w : World) (u : Pr.St) (h : PS w pb sb cap l u.i u.o u.b) (hg : Good l) :
  Calls Tryz.prog 205 #[.pointer (some ⟨pb, 0, none⟩)] w (Outc (fun _ v a => v = .int .i64 a) w pb sb cap l (Pr.relation (l.map Pr.tk) u)) := by
 obtain ⟨r, hr⟩ : ∃ r, r = Pr.relation (l.map Pr.tk) u := ⟨_, rfl⟩
 rw [← hr]
 have HR := hdn hr
 have HP0 := hdn h
 have HG := hdn hg
 have HG0 : Hid (w.grownBy w (some pb)) := hdn (grownBy_of (Below.refl _ _) _)
 clear h hg hr
 go_enter Tryz.func205, Tryz.ntmps205
 go_wp2_with fail
 refine (may_any ⟨#[61, 61]⟩ (by decide) w u HP0.out HG.out).mono ?_; rintro en w1 ⟨q, hq1, rfl, h1, g1⟩
 have HP1 := hdn h1; have HG1 := hdn (grownBy_tr HG0.out g1)
 clear h1 g1
 cases q with
 | true =>
  go_wp2_with fail
  exact bodyPost_ret (v := .int .i64 1) (by simp [results, Tryz.results205, go_sem]) rfl (Outc.ok (u := u.go) (a := 1) (by rw [HR.out]; simp only [Pr.relation, hq1, if_true]) HG1.out rfl HP1.out)
 | false =>
 go_wp2_with fail
 refine (may_any ⟨#[33, 61]⟩ (by decide) w1 u HP1.out HG.out).mono ?_; rintro en w2 ⟨q, hq2, rfl, h1, g1⟩
 have HP2 := hdn h1; have HG2 := hdn (grownBy_tr HG1.out g1)
 clear h1 g1
 cases q with
 | true =>
  go_wp2_with fail
  exact bodyPost_ret (v := .int .i64 2) (by simp [results, Tryz.results205, go_sem]) rfl (Outc.ok (u := u.go) (a := 2) (by rw [HR.out]; simp only [Pr.relation, hq1, hq2, Bool.false_eq_true, if_true, if_false]) HG2.out rfl HP2.out)
 | false =>
 go_wp2_with fail
 refine (may_any ⟨#[60]⟩ (by decide) w2 u HP2.out HG.out).mono ?_; rintro en w3 ⟨q, hq3, rfl, h1, g1⟩
 have HP3 := hdn h1; have HG3 := hdn (grownBy_tr HG2.out g1)
 clear h1 g1
 cases q with
 | true =>
  go_wp2_with fail
  exact bodyPost_ret (v := .int .i64 3) (by simp [results, Tryz.results205, go_sem]) rfl (Outc.ok (u := u.go) (a := 3) (by rw [HR.out]; simp only [Pr.relation, hq1, hq2, hq3, Bool.false_eq_true, if_true, if_false]) HG3.out rfl HP3.out)
 | false =>
 go_wp2_with fail
 refine (must_any ⟨#[62, 61]⟩ (by decide) w3 u HP3.out HG.out).mono ?_; intro en w4 ho
 rcases hm : Pr.must (l.map Pr.tk) ⟨#[62, 61]⟩ u with n | ⟨a, u4⟩
 ·obtain ⟨p, rfl, g4⟩ := ho.of_err hm
  exact ⟨rfl, Outc.err (by rw [HR.out]; simp only [Pr.relation, hq1, hq2, hq3, Bool.false_eq_true, if_false, Pr.th, hm]) (grownBy_tr HG3.out g4)⟩
 ·obtain ⟨v, rfl, ⟨x, rfl, hx⟩, h4, g4⟩ := ho.of_ok hm
  have HP4 := hdn h4; have HG4 := hdn (grownBy_tr HG3.out g4)
  clear h4 g4 ho
  go_wp2_with fail
  exact bodyPost_ret (v := .int .i64 4) (by simp [results, Tryz.results205, go_sem]) rfl (Outc.ok (u := u4) (a := 4) (by rw [HR.out]; simp only [Pr.relation, hq1, hq2, hq3, Bool.false_eq_true, if_false, Pr.th, hm]) HG4.out rfl HP4.out)
theorem mustHold_any (w : World) (u : Pr.St) (h : PS w pb sb cap l u.i u.o u.b) (hg : Good l) :
  Calls Tryz.prog 178 #[.pointer (some ⟨pb, 0, none⟩)] w (Outc (fun _ v _ => v = .tuple #[]) w pb sb cap l (Pr.mustHold (l.map Pr.tk) u)) := by
 obtain ⟨r, hr⟩ : ∃ r, r = Pr.mustHold (l.map Pr.tk) u := ⟨_, rfl⟩
 rw [← hr]
 obtain ⟨x, hx⟩ := h.at
 obtain ⟨q, hq⟩ : ∃ q, (x.text.toList == (⟨#[123]⟩ : ByteArray).toList) = q := ⟨_, rfl⟩
 have HA : Hid (Calls Tryz.prog 136 #[.pointer (some ⟨pb, 0, none⟩), .string ⟨#[123]⟩] w fun e w' => e = .returned (.bool q) ∧ Below w.heap.size w w') := hdn ((stands_any x _ w h hg hx).mono fun e w' ⟨h1, h2⟩ => ⟨by rw [h1, hq], h2⟩)
 have HT : Hid (∀ w', Below w.heap.size w w' → Calls Tryz.prog 59 #[.pointer (some ⟨pb, 0, none⟩), .int .i64 6] w' fun e w'' => e = faultN l (6, u.i) ∧ Below w'.heap.size w' w'') := hdn (fun w' hb => (stop_any x 6 w' (h.below hb) hg hx).mono fun e w'' ⟨h1, h2⟩ => ⟨h1.trans (faultN_at hx 6), h2⟩)
 have HR : Hid (r = if q && u.o == 20 then .error (6, u.i) else .ok ((), u)) := hdn (by rw [hr, Pr.mustHold, Pr.is_tk hx, hq])
 have HP := hdn h
 clear h hg hr hx hq
 go_enter Tryz.func178, Tryz.ntmps178
 go_wp2_with fail
 refine (HA.out).mono ?_; rintro en w1 ⟨rfl, hb⟩
 have HB := hdn hb
 have HP1 := hdn (HP.out.below hb)
 clear hb
 have p2 : w1.cell? ⟨pb, 2, none⟩ = some (.int .i64 u.o) := HP1.out.blk.cell 2
 cases q with
 | false =>
  go_wp2_with fail
  go_end0
  exact Outc.ok (u := u) (a := ()) (by rw [HR.out]; rfl) (grownBy_of HB.out _) rfl HP1.out
 | true =>
  by_cases h20 : u.o = 20
  ·have hd : (u.o == 20) = true := by simpa using h20
   go_wp2_with fail
   refine (HT.out w1 HB.out).mono ?_; rintro en w2 ⟨rfl, h2⟩
   exact ⟨rfl, Outc.err (by rw [HR.out, hd]; rfl) (grownBy_of (HB.out.trans (h2.mono HB.out.size)) _)⟩
  ·have hd : (u.o == 20) = false := by simpa using h20
   go_wp2_with fail
   go_end0
   exact Outc.ok (u := u) (a := ()) (by rw [HR.out, hd]; rfl) (grownBy_of HB.out _) rfl HP1.out
end
end Go.Proofs.YtdlchhimkelinaaGreatDoor
namespace Go.Proofs.YtdlchhimkelinaaGreatDoor
open Go.RowKit Go.Sort
attribute [local go_sem] field79_0 field79_1 field79_2 field79_3
section
variable {pb sb cap : Nat} {l : List Tx.Sg}
/-- One statement more has begun. -/
theorem PS.count {w : World} {i : Nat} {o b : Int} (h : PS w pb sb cap l i o b) (c : Int) : PS (w.setCell ⟨pb, 3, none⟩ (.int .i64 c)) pb sb cap l i o c :=
 ⟨h.blk.set_ 3 _, fun k x hx j v hv => (World.cell?_setCell_other _ _ _ _ (by intro e; injection e with e; exact h.ne e.symm)).trans (h.row k x hx j v hv), h.ne, h.lt⟩
/-- So many braces are open now. -/
theorem PS.open_ {w : World} {i : Nat} {o b : Int} (h : PS w pb sb cap l i o b) (c : Int) : PS (w.setCell ⟨pb, 2, none⟩ (.int .i64 c)) pb sb cap l i c b :=
 ⟨h.blk.set_ 2 _, fun k x hx j v hv => (World.cell?_setCell_other _ _ _ _ (by intro e; injection e with e; exact h.ne e.symm)).trans (h.row k x hx j v hv), h.ne, h.lt⟩
theorem count_any (w : World) (u : Pr.St) (h : PS w pb sb cap l u.i u.o u.b) (hg : Good l) (h0 : 0 ≤ u.b) (hb : u.b ≤ 400) :
  Calls Tryz.prog 160 #[.pointer (some ⟨pb, 0, none⟩)] w (Outc (fun _ v _ => v = .tuple #[]) w pb sb cap l (Pr.count (l.map Pr.tk) u)) := by
 obtain ⟨r, hr⟩ : ∃ r, r = Pr.count (l.map Pr.tk) u := ⟨_, rfl⟩
 rw [← hr]
 obtain ⟨x, hx⟩ := h.at
 have HM := hdn (mustHold_any w u h hg)
 have HT : Hid (∀ w', PS w' pb sb cap l u.i u.o u.b → Calls Tryz.prog 59 #[.pointer (some ⟨pb, 0, none⟩), .int .i64 11] w' fun e w'' => e = faultN l (11, u.i) ∧ Below w'.heap.size w' w'') := hdn (fun w' hp => (stop_any x 11 w' hp hg hx).mono fun e w'' ⟨h1, h2⟩ => ⟨h1.trans (faultN_at hx 11), h2⟩)
 have HR := hdn hr
 clear h hg hr hx
 go_enter Tryz.func160, Tryz.ntmps160
 go_wp2_with fail
 refine (HM.out).mono ?_; intro en w1 ho
 rcases hm : Pr.mustHold (l.map Pr.tk) u with n | ⟨a, u1⟩
 ·obtain ⟨p, rfl, g1⟩ := ho.of_err hm
  exact ⟨rfl, Outc.err (by rw [HR.out]; simp only [Pr.count, Pr.th, hm]) g1⟩
 obtain ⟨v, rfl, rfl, h1, g1⟩ := ho.of_ok hm
 have hu : u1 = u := by
  unfold Pr.mustHold at hm
  split at hm
  ·cases hm
  ·injection hm with hm; injection hm with _ hm; exact hm.symm
 subst hu
 have HP1 := hdn h1; have HG1 := hdn g1
 clear h1 g1 ho
 have p3 : w1.cell? ⟨pb, 3, none⟩ = some (.int .i64 u1.b) := HP1.out.blk.cell 3
 have f3 := HP1.out.blk.frozen 3
 by_cases hb4 : u1.b = 400
 ·have hd : (u1.b == 400) = true := by simpa using hb4
  go_wp2_with fail
  refine (HT.out w1 HP1.out).mono ?_; rintro en w2 ⟨rfl, h2⟩
  exact ⟨rfl, Outc.err (by rw [HR.out]; simp only [Pr.count, Pr.th, hm, hb4, if_true]) (grownBy_below HG1.out h2)⟩
 ·have hd : (u1.b == 400) = false := by simpa using hb4
  go_wp2_with fail
  go_end0
  exact Outc.ok (u := ⟨u1.i, u1.o, u1.b + 1⟩) (a := ()) (by rw [HR.out]; simp only [Pr.count, Pr.th, hm, hb4, if_false]) (grownBy_tr HG1.out (grownBy_setC _ ⟨pb, 3, none⟩ _)) rfl (HP1.out.count _)
theorem begins_any (w : World) (u : Pr.St) (h : PS w pb sb cap l u.i u.o u.b) (hg : Good l) :
  Calls Tryz.prog 139 #[.pointer (some ⟨pb, 0, none⟩)] w fun e w' => e = .returned (.bool (Pr.begins (l.map Pr.tk) u)) ∧ Below w.heap.size w w' := by
 obtain ⟨x, hx⟩ := h.at
 have HA : Hid (∀ w', Below w.heap.size w w' → Calls Tryz.prog 58 #[.pointer (some ⟨pb, 0, none⟩)] w' fun e w'' => e = .returned (.agg #[.int .i64 x.kind, .int .i64 x.pos, .string x.text, .int .i64 x.num]) ∧ Below w'.heap.size w' w'') := hdn (fun w' hb => ahead_any x w' (h.below hb) hg hx)
 obtain ⟨r, hr⟩ : ∃ r, r = Pr.begins (l.map Pr.tk) u := ⟨_, rfl⟩
 rw [← hr]
 have e1 : (⟨#[59]⟩ : ByteArray).toList = [59] := Lib.toList_data _
 have e2 : (⟨#[123]⟩ : ByteArray).toList = [123] := Lib.toList_data _
 have e3 : (⟨#[102, 114, 101, 101]⟩ : ByteArray).toList = [102, 114, 101, 101] := Lib.toList_data _
 have e4 : (⟨#[105, 102]⟩ : ByteArray).toList = [105, 102] := Lib.toList_data _
 have e5 : (⟨#[119, 104, 105, 108, 101]⟩ : ByteArray).toList = [119, 104, 105, 108, 101] := Lib.toList_data _
 simp only [Pr.begins, Pr.is_tk hx, Pr.sg_tk hx, Pr.tk, e1, e2, e3, e4, e5] at hr
 have HR := hdn hr
 clear h hg hr hx e1 e2 e3 e4 e5
 go_enter Tryz.func139, Tryz.ntmps139
 go_wp2_with fail
 refine (HA.out w (Below.refl _ _)).mono ?_; rintro en w1 ⟨rfl, hb⟩
 have HB := hdn hb
 clear hb
 rcases q1 : (x.text.toList == [59]) with _ | _
 case true =>
  go_wp2_with fail
  go_ret
  exact ⟨by rw [HR.out, q1]; simp, HB.out⟩
 rcases q2 : (x.text.toList == [123]) with _ | _
 case true =>
  go_wp2_with fail
  go_ret
  exact ⟨by rw [HR.out, q2]; simp, HB.out⟩
 rcases q3 : (x.text.toList == [102, 114, 101, 101]) with _ | _
 case true =>
  go_wp2_with fail
  go_ret
  exact ⟨by rw [HR.out, q3]; simp, HB.out⟩
 rcases q4 : (x.text.toList == [105, 102]) with _ | _
 case true =>
  go_wp2_with fail
  go_ret
  exact ⟨by rw [HR.out, q4]; simp, HB.out⟩
 rcases q5 : (x.text.toList == [119, 104, 105, 108, 101]) with _ | _
 case true =>
  go_wp2_with fail
  go_ret
  exact ⟨by rw [HR.out, q5]; simp, HB.out⟩
 go_wp2_with fail
 refine (HA.out w1 HB.out).mono ?_; rintro en w2 ⟨rfl, hb⟩
 have HB2 := hdn (HB.out.trans (hb.mono HB.out.size))
 clear hb
 go_wp2_with fail
 go_ret
 exact ⟨by rw [HR.out, q1, q2, q3, q4, q5]; simp, HB2.out⟩
theorem declares_any (w : World) (u : Pr.St) (h : PS w pb sb cap l u.i u.o u.b) (hg : Good l) :
  Calls Tryz.prog 104 #[.pointer (some ⟨pb, 0, none⟩)] w fun e w' => e = .returned (.bool (Pr.declares (l.map Pr.tk) u)) ∧ Below w.heap.size w w' := by
 obtain ⟨x, hx⟩ := h.at
 have HA : Hid (∀ w', Below w.heap.size w w' → Calls Tryz.prog 58 #[.pointer (some ⟨pb, 0, none⟩)] w' fun e w'' => e = .returned (.agg #[.int .i64 x.kind, .int .i64 x.pos, .string x.text, .int .i64 x.num]) ∧ Below w'.heap.size w' w'') := hdn (fun w' hb => ahead_any x w' (h.below hb) hg hx)
 obtain ⟨q, hq⟩ : ∃ q, (x.text.toList == (⟨#[105, 110, 116]⟩ : ByteArray).toList) = q := ⟨_, rfl⟩
 have HS : Hid (Calls Tryz.prog 136 #[.pointer (some ⟨pb, 0, none⟩), .string ⟨#[105, 110, 116]⟩] w fun e w' => e = .returned (.bool q) ∧ Below w.heap.size w w') := hdn ((stands_any x _ w h hg hx).mono fun e w' ⟨h1, h2⟩ => ⟨by rw [h1, hq], h2⟩)
 have HN : Hid (x.kind = 1 → ∃ y : Tx.Sg, l[u.i + 1]? = some y ∧ ∀ w', Below w.heap.size w w' → Calls Tryz.prog 138 #[.pointer (some ⟨pb, 0, none⟩)] w' fun e w'' => e = .returned (.string y.text) ∧ Below w'.heap.size w' w'') := hdn (fun h1 => by
  have hi := hg.more hx (by rw [h1]; decide)
  exact ⟨l[u.i + 1], List.getElem?_eq_getElem hi, fun w' hb => behind_any _ w' (h.below hb) hg (List.getElem?_eq_getElem hi)⟩)
 obtain ⟨r, hr⟩ : ∃ r, r = Pr.declares (l.map Pr.tk) u := ⟨_, rfl⟩
 rw [← hr]
 simp only [Pr.declares, Pr.is_tk hx, Pr.sg_tk hx, Pr.tk, hq] at hr
 have HR := hdn hr
 clear h hg hr hx hq
 go_enter Tryz.func104, Tryz.ntmps104
 go_wp2_with fail
 refine (HS.out).mono ?_; rintro en w1 ⟨rfl, hb⟩
 have HB := hdn hb
 clear hb
 cases q with
 | true =>
  go_wp2_with fail
  go_ret
  exact ⟨by rw [HR.out]; rfl, HB.out⟩
 | false =>
 go_wp2_with fail
 refine (HA.out w1 HB.out).mono ?_; rintro en w2 ⟨rfl, hb⟩
 have HB2 := hdn (HB.out.trans (hb.mono HB.out.size))
 clear hb
 by_cases h1 : x.kind = 1
 ·have hd : (x.kind == 1) = true := by simpa using h1
  obtain ⟨y, hy, hN⟩ := HN.out h1
  have HY : Hid (Pr.is (l.map Pr.tk) (u.i + 1) ⟨#[42]⟩ = (y.text.toList == [42])) := hdn (by rw [Pr.is_tk hy]; rw [show (⟨#[42]⟩ : ByteArray).toList = [42] from Lib.toList_data _])
  have HN2 := hdn hN
  clear hN hy
  go_wp2_with fail
  refine (HN2.out w2 HB2.out).mono ?_; rintro en w3 ⟨rfl, hb⟩
  have HB3 := hdn (HB2.out.trans (hb.mono HB2.out.size))
  clear hb
  go_wp2_with fail
  go_ret
  exact ⟨by rw [HR.out, hd, HY.out]; simp, HB3.out⟩
 ·have hd : (x.kind == 1) = false := by simpa using h1
  go_wp2_with fail
  go_ret
  exact ⟨by rw [HR.out, hd]; rfl, HB2.out⟩
theorem sums_any (w : World) (u : Pr.St) (h : PS w pb sb cap l u.i u.o u.b) (hg : Good l) :
  Calls Tryz.prog 194 #[.pointer (some ⟨pb, 0, none⟩)] w fun e w' => e = .returned (.bool (Pr.sums (l.map Pr.tk) u)) ∧ Below w.heap.size w w' := by
 obtain ⟨x, hx⟩ := h.at
 have HA : Hid (Calls Tryz.prog 58 #[.pointer (some ⟨pb, 0, none⟩)] w fun e w'' => e = .returned (.agg #[.int .i64 x.kind, .int .i64 x.pos, .string x.text, .int .i64 x.num]) ∧ Below w.heap.size w w'') := hdn (ahead_any x w h hg hx)
 have HN : Hid (x.kind ≠ 0 → ∃ y : Tx.Sg, l[u.i + 1]? = some y ∧ ∀ w', Below w.heap.size w w' → Calls Tryz.prog 138 #[.pointer (some ⟨pb, 0, none⟩)] w' fun e w'' => e = .returned (.string y.text) ∧ Below w'.heap.size w' w'') := hdn (fun h1 => by
  have hi := hg.more hx h1
  exact ⟨l[u.i + 1], List.getElem?_eq_getElem hi, fun w' hb => behind_any _ w' (h.below hb) hg (List.getElem?_eq_getElem hi)⟩)
 obtain ⟨r, hr⟩ : ∃ r, r = Pr.sums (l.map Pr.tk) u := ⟨_, rfl⟩
 rw [← hr]
 simp only [Pr.sums, Pr.sg_tk hx, Pr.tk] at hr
 have HR := hdn hr
 clear h hg hr hx
 go_enter Tryz.func194, Tryz.ntmps194
 go_wp2_with fail
 refine (HA.out).mono ?_; rintro en w1 ⟨rfl, hb⟩
 have HB := hdn hb
 clear hb
 by_cases h12 : x.kind = 1 ∨ x.kind = 2
 ·obtain ⟨y, hy, hN⟩ := HN.out (by rcases h12 with h | h <;> rw [h] <;> decide)
  have HY : Hid (Pr.is (l.map Pr.tk) (u.i + 1) ⟨#[43]⟩ = (y.text.toList == [43]) ∧ Pr.is (l.map Pr.tk) (u.i + 1) ⟨#[45]⟩ = (y.text.toList == [45])) := hdn ⟨by rw [Pr.is_tk hy]; rw [show (⟨#[43]⟩ : ByteArray).toList = [43] from Lib.toList_data _], by rw [Pr.is_tk hy]; rw [show (⟨#[45]⟩ : ByteArray).toList = [45] from Lib.toList_data _]⟩
  have HN2 := hdn hN
  clear hN hy
  have hk : (x.kind == 1 || x.kind == 2) = true := by rcases h12 with h | h <;> rw [h] <;> rfl
  have HK := hdn hk
  clear hk
  rcases h12 with h1 | h1
  ·have hd : (x.kind == 1) = true := by simpa using h1
   go_wp2_with fail
   refine (HN2.out w1 HB.out).mono ?_; rintro en w3 ⟨rfl, hb⟩
   have HB3 := hdn (HB.out.trans (hb.mono HB.out.size))
   clear hb
   rcases q1 : (y.text.toList == [43]) with _ | _
   ·go_wp2_with fail
    refine (HN2.out w3 HB3.out).mono ?_; rintro en w4 ⟨rfl, hb⟩
    have HB4 := hdn (HB3.out.trans (hb.mono HB3.out.size))
    clear hb
    go_wp2_with fail
    go_ret
    exact ⟨by rw [HR.out, HK.out, HY.out.1, HY.out.2, q1]; simp, HB4.out⟩
   ·go_wp2_with fail
    go_ret
    exact ⟨by rw [HR.out, HK.out, HY.out.1, q1]; rfl, HB3.out⟩
  ·have hd0 : (x.kind == 1) = false := by rw [h1]; rfl
   have hd : (x.kind == 2) = true := by simpa using h1
   go_wp2_with fail
   refine (HN2.out w1 HB.out).mono ?_; rintro en w3 ⟨rfl, hb⟩
   have HB3 := hdn (HB.out.trans (hb.mono HB.out.size))
   clear hb
   rcases q1 : (y.text.toList == [43]) with _ | _
   ·go_wp2_with fail
    refine (HN2.out w3 HB3.out).mono ?_; rintro en w4 ⟨rfl, hb⟩
    have HB4 := hdn (HB3.out.trans (hb.mono HB3.out.size))
    clear hb
    go_wp2_with fail
    go_ret
    exact ⟨by rw [HR.out, HK.out, HY.out.1, HY.out.2, q1]; simp, HB4.out⟩
   ·go_wp2_with fail
    go_ret
    exact ⟨by rw [HR.out, HK.out, HY.out.1, q1]; rfl, HB3.out⟩
 ·have h1 : (x.kind == 1) = false := by simpa using fun h => h12 (.inl h)
  have h2 : (x.kind == 2) = false := by simpa using fun h => h12 (.inr h)
  go_wp2_with fail
  go_ret
  exact ⟨by rw [HR.out, h1, h2]; rfl, HB.out⟩
end
end Go.Proofs.YtdlchhimkelinaaGreatDoor
namespace Go.Proofs.YtdlchhimkelinaaGreatDoor
open Go.RowKit Go.Sort
attribute [local go_sem] field79_0 field79_1 field79_2 field79_3
section
variable {pb sb cap : Nat} {l : List Tx.Sg}
/-- What is declared, as it is handed back. -/
def KDc (v : Value) (a : Dc) : Prop := ∃ y : Dc, v = .agg y.cells.toArray ∧ y.er = a
/-- The end of a call that hands back what is declared through a result of its own. -/
theorem decl_result {w2 : World} {n m : ByteArray} {p : Int} {R : Nat} {s s' : ByteArray} {c : Int} (hk : Bk w2 R 77 #[.string s, .string s', .int .i64 c]) :
  Bk (((w2.setCell ⟨R, 0, none⟩ (.string n)).setCell ⟨R, 1, none⟩ (.string m)).setCell ⟨R, 2, none⟩ (.int .i64 p)) R 77 #[.string n, .string m, .int .i64 p] ∧
  w2.grownBy (((w2.setCell ⟨R, 0, none⟩ (.string n)).setCell ⟨R, 1, none⟩ (.string m)).setCell ⟨R, 2, none⟩ (.int .i64 p)) (some R) :=
 ⟨((hk.set_ 0 _).set_ 1 _).set_ 2 _, grownBy_tr (grownBy_tr (grownBy_setC _ ⟨R, 0, none⟩ _) (grownBy_setC _ ⟨R, 1, none⟩ _)) (grownBy_setC _ ⟨R, 2, none⟩ _)⟩
theorem Bk.kept {w w' : World} {b t : Nat} {cs : Array Value} {r : Nat} (h : Bk w b t cs) (hg : w.grownBy w' (some r)) (hne : b ≠ r) : Bk w' b t cs :=
 (hg.block b (Array.getElem?_eq_some_iff.1 h).1 (by intro e; injection e with e; exact hne e)).trans h
theorem Bk.lt {w : World} {b t : Nat} {cs : Array Value} (h : Bk w b t cs) : b < w.heap.size := (Array.getElem?_eq_some_iff.1 h).1
theorem pointer_any (w : World) (u : Pr.St) (h : PS w pb sb cap l u.i u.o u.b) (hg : Good l) :
  Calls Tryz.prog 101 #[.pointer (some ⟨pb, 0, none⟩)] w (Outc (fun _ v a => KDc v a) w pb sb cap l (Pr.pointer (l.map Pr.tk) u)) := by
 obtain ⟨r, hr⟩ : ∃ r, r = Pr.pointer (l.map Pr.tk) u := ⟨_, rfl⟩
 rw [← hr]
 have HR := hdn hr
 have HL := hdn hg
 have hn : Below w.heap.size w (w.alloc (.cells #[.string ByteArray.empty, .string ByteArray.empty, .int .i64 0] 77)) := (Below.refl _ _).alloc (Nat.le_refl _) _
 have HK : Hid (Bk (w.alloc (.cells #[.string ByteArray.empty, .string ByteArray.empty, .int .i64 0] 77)) w.heap.size 77 #[.string ByteArray.empty, .string ByteArray.empty, .int .i64 0]) := hdn (heap_alloc_new _ _)
 have HNE : Hid (w.heap.size ≠ pb ∧ w.heap.size ≠ sb) := hdn ⟨fun e => by have := h.pb_lt; omega, fun e => by have := h.sb_lt; omega⟩
 have HG : Hid (w.grownBy (w.alloc (.cells #[.string ByteArray.empty, .string ByteArray.empty, .int .i64 0] 77)) (some pb)) := hdn (grownBy_of hn _)
 have HP := hdn (h.below hn)
 generalize hwA : w.alloc (.cells #[.string ByteArray.empty, .string ByteArray.empty, .int .i64 0] 77) = wA at HK HG HP
 clear h hg hr hn
 go_enter Tryz.func101, Tryz.ntmps101
 go_wp2_with fail
 rw [show w.alloc (.cells #[.string ⟨#[]⟩, .string ⟨#[]⟩, .int .i64 0] 77) = wA from hwA]
 clear hwA
 refine (name_any wA u HP.out HL.out).mono ?_; intro en w1 ho
 rcases hm1 : Pr.name (l.map Pr.tk) u with n | ⟨a1, u1⟩
 ·obtain ⟨p, rfl, g1⟩ := ho.of_err hm1
  exact ⟨rfl, Outc.err (by rw [HR.out]; simp only [Pr.pointer, Pr.th, hm1]) (grownBy_tr HG.out g1)⟩
 obtain ⟨v, rfl, ⟨x, rfl, hx⟩, h1, g1⟩ := ho.of_ok hm1
 have HX := hdn hx
 have HP1 := hdn h1; have HG1 := hdn (grownBy_tr HG.out g1); have HK1 := hdn (HK.out.kept g1 HNE.out.1)
 clear h1 g1 ho hx
 go_upto_region 2 with fail
 have hm : Below w1.heap.size w1 (w1.alloc (.cells #[.int .i64 x.kind, .int .i64 x.pos, .string x.text, .int .i64 x.num] 106)) := (Below.refl _ _).alloc (Nat.le_refl _) _
 have HP2 := hdn (HP1.out.below hm)
 have HK2 := hdn (HK1.out.below hm HK1.out.lt)
 have HS2 : Hid (Bk (w1.alloc (.cells #[.int .i64 x.kind, .int .i64 x.pos, .string x.text, .int .i64 x.num] 106)) w1.heap.size 106 #[.int .i64 x.kind, .int .i64 x.pos, .string x.text, .int .i64 x.num]) := hdn (heap_alloc_new _ _)
 have HG2 : Hid (w.grownBy (w1.alloc (.cells #[.int .i64 x.kind, .int .i64 x.pos, .string x.text, .int .i64 x.num] 106)) (some pb)) := hdn (grownBy_below HG1.out hm)
 obtain ⟨S, hS⟩ : ∃ S, S = w1.heap.size := ⟨_, rfl⟩
 have HSN : Hid (S ≠ pb) := hdn (by have := HP1.out.pb_lt; omega)
 rw [← hS] at HS2 ⊢
 clear hS hm
 generalize w1.alloc (.cells #[.int .i64 x.kind, .int .i64 x.pos, .string x.text, .int .i64 x.num] 106) = w2 at HP2 HK2 HS2 HG2 ⊢
 go_wp2_with fail
 refine (must_any ⟨#[42]⟩ (by decide) w2 u1 HP2.out HL.out).mono ?_; intro en w3 ho
 rcases hm2 : Pr.must (l.map Pr.tk) ⟨#[42]⟩ u1 with n | ⟨a2, u2⟩
 ·obtain ⟨p, rfl, g3⟩ := ho.of_err hm2
  exact ⟨rfl, Outc.err (by rw [HR.out]; simp only [Pr.pointer, Pr.th, hm1, hm2]) (grownBy_tr HG2.out g3)⟩
 obtain ⟨v, rfl, ⟨x2, rfl, _⟩, h3, g3⟩ := ho.of_ok hm2
 have HP3 := hdn h3; have HG3 := hdn (grownBy_tr HG2.out g3); have HK3 := hdn (HK2.out.kept g3 HNE.out.1); have HS3 := hdn (HS2.out.kept g3 HSN.out)
 clear h3 g3 ho
 go_wp2_with fail
 refine (name_any w3 u2 HP3.out HL.out).mono ?_; intro en w4 ho
 rcases hm3 : Pr.name (l.map Pr.tk) u2 with n | ⟨a3, u3⟩
 ·obtain ⟨p, rfl, g4⟩ := ho.of_err hm3
  exact ⟨rfl, Outc.err (by rw [HR.out]; simp only [Pr.pointer, Pr.th, hm1, hm2, hm3]) (grownBy_tr HG3.out g4)⟩
 obtain ⟨v, rfl, ⟨y, rfl, hy⟩, h4, g4⟩ := ho.of_ok hm3
 have HY := hdn hy
 have HP4 := hdn h4; have HG4 := hdn (grownBy_tr HG3.out g4); have HK4 := hdn (HK3.out.kept g4 HNE.out.1); have HS4 := hdn (HS3.out.kept g4 HSN.out)
 clear h4 g4 ho hy
 go_upto_region 4 with fail
 have hm : Below w4.heap.size w4 (w4.alloc (.cells #[.int .i64 y.kind, .int .i64 y.pos, .string y.text, .int .i64 y.num] 106)) := (Below.refl _ _).alloc (Nat.le_refl _) _
 have HP5 := hdn (HP4.out.below hm)
 have HK5 := hdn (HK4.out.below hm HK4.out.lt)
 have HS5 := hdn (HS4.out.below hm HS4.out.lt)
 have HT5 : Hid (Bk (w4.alloc (.cells #[.int .i64 y.kind, .int .i64 y.pos, .string y.text, .int .i64 y.num] 106)) w4.heap.size 106 #[.int .i64 y.kind, .int .i64 y.pos, .string y.text, .int .i64 y.num]) := hdn (heap_alloc_new _ _)
 have HG5 : Hid (w.grownBy (w4.alloc (.cells #[.int .i64 y.kind, .int .i64 y.pos, .string y.text, .int .i64 y.num] 106)) (some pb)) := hdn (grownBy_below HG4.out hm)
 obtain ⟨T, hT⟩ : ∃ T, T = w4.heap.size := ⟨_, rfl⟩
 rw [← hT] at HT5 ⊢
 clear hT hm
 generalize w4.alloc (.cells #[.int .i64 y.kind, .int .i64 y.pos, .string y.text, .int .i64 y.num] 106) = w5 at HP5 HK5 HS5 HT5 HG5 ⊢
 have s2 : w5.cell? ⟨S, 2, none⟩ = some (.string x.text) := HS5.out.cell 2
 have t1 : w5.cell? ⟨T, 1, none⟩ = some (.int .i64 y.pos) := HT5.out.cell 1
 have t2 : w5.cell? ⟨T, 2, none⟩ = some (.string y.text) := HT5.out.cell 2
 have r0 : w5.cell? ⟨w.heap.size, 0, none⟩ = some (.string ByteArray.empty) := HK5.out.cell 0
 have r1 : w5.cell? ⟨w.heap.size, 1, none⟩ = some (.string ByteArray.empty) := HK5.out.cell 1
 have r2 : w5.cell? ⟨w.heap.size, 2, none⟩ = some (.int .i64 0) := HK5.out.cell 2
 have f0 := HK5.out.frozen 0
 have f1 := HK5.out.frozen 1
 have f2 := HK5.out.frozen 2
 go_wp2_with fail
 clear s2 t1 t2 r0 r1 r2 f0 f1 f2
 obtain ⟨hB, hF⟩ := decl_result (n := x.text) (m := y.text) (p := y.pos) HK5.out
 generalize ((w5.setCell ⟨w.heap.size, 0, none⟩ (.string x.text)).setCell ⟨w.heap.size, 1, none⟩ (.string y.text)).setCell ⟨w.heap.size, 2, none⟩ (.int .i64 y.pos) = w6 at hB hF ⊢
 have e0 := hB.cell 0
 have e1 := hB.cell 1
 have e2 := hB.cell 2
 exact bodyPost_ret (v := .agg #[.string x.text, .string y.text, .int .i64 y.pos]) (by simp [results, Tryz.results101, go_sem, e0, e1, e2]) rfl (Outc.ok (u := u3) (a := ⟨a1.text, a3.text, 0⟩) (by rw [HR.out]; simp only [Pr.pointer, Pr.th, hm1, hm2, hm3]) (grownBy_mine HG5.out hF) ⟨⟨x.text, y.text, y.pos⟩, rfl, by rw [← HX.out, ← HY.out]; rfl⟩ (HP5.out.far hF HNE.out.1 HNE.out.2))
end
end Go.Proofs.YtdlchhimkelinaaGreatDoor
namespace Go.Proofs.YtdlchhimkelinaaGreatDoor
open Go.RowKit Go.Sort
attribute [local go_sem] field79_0 field79_1 field79_2 field79_3
section
variable {pb sb cap : Nat} {l : List Tx.Sg}
theorem variable__any (w : World) (u : Pr.St) (h : PS w pb sb cap l u.i u.o u.b) (hg : Good l) :
  Calls Tryz.prog 103 #[.pointer (some ⟨pb, 0, none⟩)] w (Outc (fun _ v a => KDc v a) w pb sb cap l (Pr.variable_ (l.map Pr.tk) u)) := by
 obtain ⟨r, hr⟩ : ∃ r, r = Pr.variable_ (l.map Pr.tk) u := ⟨_, rfl⟩
 rw [← hr]
 have HR := hdn hr
 have HL := hdn hg
 have hn : Below w.heap.size w (w.alloc (.cells #[.string ByteArray.empty, .string ByteArray.empty, .int .i64 0] 77)) := (Below.refl _ _).alloc (Nat.le_refl _) _
 have HK : Hid (Bk (w.alloc (.cells #[.string ByteArray.empty, .string ByteArray.empty, .int .i64 0] 77)) w.heap.size 77 #[.string ByteArray.empty, .string ByteArray.empty, .int .i64 0]) := hdn (heap_alloc_new _ _)
 have HNE : Hid (w.heap.size ≠ pb ∧ w.heap.size ≠ sb) := hdn ⟨fun e => by have := h.pb_lt; omega, fun e => by have := h.sb_lt; omega⟩
 have HG : Hid (w.grownBy (w.alloc (.cells #[.string ByteArray.empty, .string ByteArray.empty, .int .i64 0] 77)) (some pb)) := hdn (grownBy_of hn _)
 have HP := hdn (h.below hn)
 generalize hwA : w.alloc (.cells #[.string ByteArray.empty, .string ByteArray.empty, .int .i64 0] 77) = wA at HK HG HP
 clear h hg hr hn
 go_enter Tryz.func103, Tryz.ntmps103
 go_wp2_with fail
 rw [show w.alloc (.cells #[.string ⟨#[]⟩, .string ⟨#[]⟩, .int .i64 0] 77) = wA from hwA]
 clear hwA
 refine (may_any ⟨#[105, 110, 116]⟩ (by decide) wA u HP.out HL.out).mono ?_; rintro en w1 ⟨q, hq, rfl, h1, g1⟩
 have HP1 := hdn h1; have HG1 := hdn (grownBy_tr HG.out g1); have HK1 := hdn (HK.out.kept g1 HNE.out.1)
 clear h1 g1
 cases q with
 | false =>
  go_wp2_with fail
  refine (pointer_any w1 u HP1.out HL.out).mono ?_; intro en w2 ho
  rcases hm1 : Pr.pointer (l.map Pr.tk) u with n | ⟨a1, u1⟩
  ·obtain ⟨p, rfl, g2⟩ := ho.of_err hm1
   exact ⟨rfl, Outc.err (by rw [HR.out]; simp only [Pr.variable_, hq, Bool.false_eq_true, if_false, hm1]) (grownBy_tr HG1.out g2)⟩
  obtain ⟨v, rfl, ⟨d, rfl, hd⟩, h2, g2⟩ := ho.of_ok hm1
  have HD := hdn hd
  have HP2 := hdn h2; have HG2 := hdn (grownBy_tr HG1.out g2); have HK2 := hdn (HK1.out.kept g2 HNE.out.1)
  clear h2 g2 ho hd
  have r0 : w2.cell? ⟨w.heap.size, 0, none⟩ = some (.string ByteArray.empty) := HK2.out.cell 0
  have r1 : w2.cell? ⟨w.heap.size, 1, none⟩ = some (.string ByteArray.empty) := HK2.out.cell 1
  have r2 : w2.cell? ⟨w.heap.size, 2, none⟩ = some (.int .i64 0) := HK2.out.cell 2
  have f0 := HK2.out.frozen 0
  have f1 := HK2.out.frozen 1
  have f2 := HK2.out.frozen 2
  go_wp2_with fail
  clear r0 r1 r2 f0 f1 f2
  obtain ⟨hB, hF⟩ := decl_result (n := d.type) (m := d.name) (p := d.pos) HK2.out
  generalize ((w2.setCell ⟨w.heap.size, 0, none⟩ (.string d.type)).setCell ⟨w.heap.size, 1, none⟩ (.string d.name)).setCell ⟨w.heap.size, 2, none⟩ (.int .i64 d.pos) = wZ at hB hF ⊢
  have e0 := hB.cell 0
  have e1 := hB.cell 1
  have e2 := hB.cell 2
  exact bodyPost_ret (v := .agg #[.string d.type, .string d.name, .int .i64 d.pos]) (by simp [results, Tryz.results103, go_sem, e0, e1, e2]) rfl (Outc.ok (u := u1) (a := a1) (by rw [HR.out]; simp only [Pr.variable_, hq, Bool.false_eq_true, if_false, hm1]) (grownBy_mine HG2.out hF) ⟨d, rfl, HD.out⟩ (HP2.out.far hF HNE.out.1 HNE.out.2))
 | true =>
  go_wp2_with fail
  refine (name_any w1 u.go HP1.out HL.out).mono ?_; intro en w2 ho
  rcases hm1 : Pr.name (l.map Pr.tk) u.go with n | ⟨a1, u1⟩
  ·obtain ⟨p, rfl, g2⟩ := ho.of_err hm1
   exact ⟨rfl, Outc.err (by rw [HR.out]; simp only [Pr.variable_, hq, if_true, Pr.th, hm1]) (grownBy_tr HG1.out g2)⟩
  obtain ⟨v, rfl, ⟨x, rfl, hx⟩, h2, g2⟩ := ho.of_ok hm1
  have HX := hdn hx
  have HP2 := hdn h2; have HG2 := hdn (grownBy_tr HG1.out g2); have HK2 := hdn (HK1.out.kept g2 HNE.out.1)
  clear h2 g2 ho hx
  go_upto_region 4 with fail
  have hm : Below w2.heap.size w2 (w2.alloc (.cells #[.int .i64 x.kind, .int .i64 x.pos, .string x.text, .int .i64 x.num] 106)) := (Below.refl _ _).alloc (Nat.le_refl _) _
  have HP3 := hdn (HP2.out.below hm)
  have HK3 := hdn (HK2.out.below hm HK2.out.lt)
  have HS3 : Hid (Bk (w2.alloc (.cells #[.int .i64 x.kind, .int .i64 x.pos, .string x.text, .int .i64 x.num] 106)) w2.heap.size 106 #[.int .i64 x.kind, .int .i64 x.pos, .string x.text, .int .i64 x.num]) := hdn (heap_alloc_new _ _)
  have HG3 : Hid (w.grownBy (w2.alloc (.cells #[.int .i64 x.kind, .int .i64 x.pos, .string x.text, .int .i64 x.num] 106)) (some pb)) := hdn (grownBy_below HG2.out hm)
  obtain ⟨S, hS⟩ : ∃ S, S = w2.heap.size := ⟨_, rfl⟩
  rw [← hS] at HS3 ⊢
  clear hS hm
  generalize w2.alloc (.cells #[.int .i64 x.kind, .int .i64 x.pos, .string x.text, .int .i64 x.num] 106) = w3 at HP3 HK3 HS3 HG3 ⊢
  have s0 : w3.cell? ⟨S, 1, none⟩ = some (.int .i64 x.pos) := HS3.out.cell 1
  have s1 : w3.cell? ⟨S, 2, none⟩ = some (.string x.text) := HS3.out.cell 2
  have r0 : w3.cell? ⟨w.heap.size, 0, none⟩ = some (.string ByteArray.empty) := HK3.out.cell 0
  have r1 : w3.cell? ⟨w.heap.size, 1, none⟩ = some (.string ByteArray.empty) := HK3.out.cell 1
  have r2 : w3.cell? ⟨w.heap.size, 2, none⟩ = some (.int .i64 0) := HK3.out.cell 2
  have f0 := HK3.out.frozen 0
  have f1 := HK3.out.frozen 1
  have f2 := HK3.out.frozen 2
  go_wp2_with fail
  clear s0 s1 r0 r1 r2 f0 f1 f2
  obtain ⟨hB, hF⟩ := decl_result (n := ⟨#[]⟩) (m := x.text) (p := x.pos) HK3.out
  generalize ((w3.setCell ⟨w.heap.size, 0, none⟩ (.string ⟨#[]⟩)).setCell ⟨w.heap.size, 1, none⟩ (.string x.text)).setCell ⟨w.heap.size, 2, none⟩ (.int .i64 x.pos) = wZ at hB hF ⊢
  have e0 := hB.cell 0
  have e1 := hB.cell 1
  have e2 := hB.cell 2
  exact bodyPost_ret (v := .agg #[.string ⟨#[]⟩, .string x.text, .int .i64 x.pos]) (by simp [results, Tryz.results103, go_sem, e0, e1, e2]) rfl (Outc.ok (u := u1) (a := ⟨ByteArray.empty, a1.text, 0⟩) (by rw [HR.out]; simp only [Pr.variable_, hq, if_true, Pr.th, hm1]) (grownBy_mine HG3.out hF) ⟨⟨ByteArray.empty, x.text, x.pos⟩, rfl, by rw [← HX.out]; rfl⟩ (HP3.out.far hF HNE.out.1 HNE.out.2))
theorem decl_any (w : World) (u : Pr.St) (h : PS w pb sb cap l u.i u.o u.b) (hg : Good l) :
  Calls Tryz.prog 62 #[.pointer (some ⟨pb, 0, none⟩)] w (Outc (fun _ v a => KDc v a) w pb sb cap l (Pr.decl (l.map Pr.tk) u)) := by
 obtain ⟨r, hr⟩ : ∃ r, r = Pr.decl (l.map Pr.tk) u := ⟨_, rfl⟩
 rw [← hr]
 have HR := hdn hr
 have HL := hdn hg
 have hn : Below w.heap.size w (w.alloc (.cells #[.string ByteArray.empty, .string ByteArray.empty, .int .i64 0] 77)) := (Below.refl _ _).alloc (Nat.le_refl _) _
 have HK : Hid (Bk (w.alloc (.cells #[.string ByteArray.empty, .string ByteArray.empty, .int .i64 0] 77)) w.heap.size 77 #[.string ByteArray.empty, .string ByteArray.empty, .int .i64 0]) := hdn (heap_alloc_new _ _)
 have HNE : Hid (w.heap.size ≠ pb ∧ w.heap.size ≠ sb) := hdn ⟨fun e => by have := h.pb_lt; omega, fun e => by have := h.sb_lt; omega⟩
 have HG : Hid (w.grownBy (w.alloc (.cells #[.string ByteArray.empty, .string ByteArray.empty, .int .i64 0] 77)) (some pb)) := hdn (grownBy_of hn _)
 have HP := hdn (h.below hn)
 generalize hwA : w.alloc (.cells #[.string ByteArray.empty, .string ByteArray.empty, .int .i64 0] 77) = wA at HK HG HP
 clear h hg hr hn
 go_enter Tryz.func62, Tryz.ntmps62
 go_wp2_with fail
 rw [show w.alloc (.cells #[.string ⟨#[]⟩, .string ⟨#[]⟩, .int .i64 0] 77) = wA from hwA]
 clear hwA
 refine (variable__any wA u HP.out HL.out).mono ?_; intro en w1 ho
 rcases hm1 : Pr.variable_ (l.map Pr.tk) u with n | ⟨a1, u1⟩
 ·obtain ⟨p, rfl, g1⟩ := ho.of_err hm1
  exact ⟨rfl, Outc.err (by rw [HR.out]; simp only [Pr.decl, Pr.th, hm1]) (grownBy_tr HG.out g1)⟩
 obtain ⟨v, rfl, ⟨d, rfl, hd⟩, h1, g1⟩ := ho.of_ok hm1
 have HD := hdn hd
 have HP1 := hdn h1; have HG1 := hdn (grownBy_tr HG.out g1); have HK1 := hdn (HK.out.kept g1 HNE.out.1)
 clear h1 g1 ho hd
 go_upto_region 2 with fail
 have hm : Below w1.heap.size w1 (w1.alloc (.cells #[.string d.type, .string d.name, .int .i64 d.pos] 77)) := (Below.refl _ _).alloc (Nat.le_refl _) _
 have HP2 := hdn (HP1.out.below hm)
 have HK2 := hdn (HK1.out.below hm HK1.out.lt)
 have HS2 : Hid (Bk (w1.alloc (.cells #[.string d.type, .string d.name, .int .i64 d.pos] 77)) w1.heap.size 77 #[.string d.type, .string d.name, .int .i64 d.pos]) := hdn (heap_alloc_new _ _)
 have HG2 : Hid (w.grownBy (w1.alloc (.cells #[.string d.type, .string d.name, .int .i64 d.pos] 77)) (some pb)) := hdn (grownBy_below HG1.out hm)
 obtain ⟨S, hS⟩ : ∃ S, S = w1.heap.size := ⟨_, rfl⟩
 have HSN : Hid (S ≠ pb) := hdn (by have := HP1.out.pb_lt; omega)
 rw [← hS] at HS2 ⊢
 clear hS hm
 generalize w1.alloc (.cells #[.string d.type, .string d.name, .int .i64 d.pos] 77) = w2 at HP2 HK2 HS2 HG2 ⊢
 go_wp2_with fail
 refine (must_any ⟨#[59]⟩ (by decide) w2 u1 HP2.out HL.out).mono ?_; intro en w3 ho
 rcases hm2 : Pr.must (l.map Pr.tk) ⟨#[59]⟩ u1 with n | ⟨a2, u2⟩
 ·obtain ⟨p, rfl, g3⟩ := ho.of_err hm2
  exact ⟨rfl, Outc.err (by rw [HR.out]; simp only [Pr.decl, Pr.th, hm1, hm2]) (grownBy_tr HG2.out g3)⟩
 obtain ⟨v, rfl, ⟨x2, rfl, _⟩, h3, g3⟩ := ho.of_ok hm2
 have HP3 := hdn h3; have HG3 := hdn (grownBy_tr HG2.out g3); have HK3 := hdn (HK2.out.kept g3 HNE.out.1); have HS3 := hdn (HS2.out.kept g3 HSN.out)
 clear h3 g3 ho
 have s0 : w3.cell? ⟨S, 0, none⟩ = some (.string d.type) := HS3.out.cell 0
 have s1 : w3.cell? ⟨S, 1, none⟩ = some (.string d.name) := HS3.out.cell 1
 have s2 : w3.cell? ⟨S, 2, none⟩ = some (.int .i64 d.pos) := HS3.out.cell 2
 have r0 : w3.cell? ⟨w.heap.size, 0, none⟩ = some (.string ByteArray.empty) := HK3.out.cell 0
 have r1 : w3.cell? ⟨w.heap.size, 1, none⟩ = some (.string ByteArray.empty) := HK3.out.cell 1
 have r2 : w3.cell? ⟨w.heap.size, 2, none⟩ = some (.int .i64 0) := HK3.out.cell 2
 have f0 := HK3.out.frozen 0
 have f1 := HK3.out.frozen 1
 have f2 := HK3.out.frozen 2
 go_wp2_with fail
 clear s0 s1 s2 r0 r1 r2 f0 f1 f2
 obtain ⟨hB, hF⟩ := decl_result (n := d.type) (m := d.name) (p := d.pos) HK3.out
 generalize ((w3.setCell ⟨w.heap.size, 0, none⟩ (.string d.type)).setCell ⟨w.heap.size, 1, none⟩ (.string d.name)).setCell ⟨w.heap.size, 2, none⟩ (.int .i64 d.pos) = wZ at hB hF ⊢
 have e0 := hB.cell 0
 have e1 := hB.cell 1
 have e2 := hB.cell 2
 exact bodyPost_ret (v := .agg #[.string d.type, .string d.name, .int .i64 d.pos]) (by simp [results, Tryz.results62, go_sem, e0, e1, e2]) rfl (Outc.ok (u := u2) (a := a1) (by rw [HR.out]; simp only [Pr.decl, Pr.th, hm1, hm2]) (grownBy_mine HG3.out hF) ⟨d, rfl, HD.out⟩ (HP3.out.far hF HNE.out.1 HNE.out.2))
end
end Go.Proofs.YtdlchhimkelinaaGreatDoor
namespace Go.Proofs.YtdlchhimkelinaaGreatDoor
open Go.RowKit Go.Sort
attribute [local go_sem] field79_0 field79_1 field79_2 field79_3
section
variable {pb sb cap : Nat} {l : List Tx.Sg}
/-- A sign that a sum begins with, and the mark behind it. -/
theorem sums_at {u : Pr.St} {x : Tx.Sg} (hg : Good l) (hx : l[u.i]? = some x) (hs : Pr.sums (l.map Pr.tk) u = true) :
  (x.kind = 1 ∨ x.kind = 2) ∧ ∃ y, l[u.i + 1]? = some y ∧ y.kind ≠ 0 ∧ Pr.is (l.map Pr.tk) (u.i + 1) ⟨#[45]⟩ = (y.text.toList == [45]) := by
 unfold Pr.sums at hs
 rw [Pr.sg_tk hx, Bool.and_eq_true, Bool.or_eq_true, beq_iff_eq, beq_iff_eq] at hs
 obtain ⟨hk, hs⟩ := hs
 have hk : x.kind = 1 ∨ x.kind = 2 := hk
 refine ⟨hk, ?_⟩
 have hi := hg.more hx (by rcases hk with h | h <;> rw [h] <;> decide)
 have hy : l[u.i + 1]? = some l[u.i + 1] := List.getElem?_eq_getElem hi
 refine ⟨_, hy, ?_, by rw [Pr.is_tk hy]; rw [show (⟨#[45]⟩ : ByteArray).toList = [45] from Lib.toList_data _]⟩
 rw [Pr.is_tk hy, Pr.is_tk hy, Bool.or_eq_true] at hs
 rcases hs with h | h
 ·exact hg.kind hy h (by rw [Lib.toList_data]; decide)
 ·exact hg.kind hy h (by rw [Lib.toList_data]; decide)
/-- The end of a call that hands back a value through a result of its own. -/
theorem value_result {w2 : World} {R : Nat} {a0 a1 a2 a3 a4 a5 a6 a7 a8 a9 a10 a11 : Value} {c0 c1 c2 c3 c4 c5 c6 c7 c8 c9 c10 c11 : Value} (hk : Bk w2 R 49 #[a0, a1, a2, a3, a4, a5, a6, a7, a8, a9, a10, a11]) :
  Bk (((((((((((((w2.setCell ⟨R, 0, none⟩ c0).setCell ⟨R, 1, none⟩ c1).setCell ⟨R, 2, none⟩ c2).setCell ⟨R, 3, none⟩ c3).setCell ⟨R, 4, none⟩ c4).setCell ⟨R, 5, none⟩ c5).setCell ⟨R, 6, none⟩ c6).setCell ⟨R, 7, none⟩ c7).setCell ⟨R, 8, none⟩ c8).setCell ⟨R, 9, none⟩ c9).setCell ⟨R, 10, none⟩ c10).setCell ⟨R, 11, none⟩ c11)) R 49 #[c0, c1, c2, c3, c4, c5, c6, c7, c8, c9, c10, c11] ∧ w2.grownBy (((((((((((((w2.setCell ⟨R, 0, none⟩ c0).setCell ⟨R, 1, none⟩ c1).setCell ⟨R, 2, none⟩ c2).setCell ⟨R, 3, none⟩ c3).setCell ⟨R, 4, none⟩ c4).setCell ⟨R, 5, none⟩ c5).setCell ⟨R, 6, none⟩ c6).setCell ⟨R, 7, none⟩ c7).setCell ⟨R, 8, none⟩ c8).setCell ⟨R, 9, none⟩ c9).setCell ⟨R, 10, none⟩ c10).setCell ⟨R, 11, none⟩ c11)) (some R) :=
 ⟨by have h := ((((((((((((hk.set_ 0 c0).set_ 1 c1).set_ 2 c2).set_ 3 c3).set_ 4 c4).set_ 5 c5).set_ 6 c6).set_ 7 c7).set_ 8 c8).set_ 9 c9).set_ 10 c10).set_ 11 c11); simpa only [List.setIfInBounds_toArray, List.set_cons_zero, List.set_cons_succ] using h, (grownBy_tr (grownBy_tr (grownBy_tr (grownBy_tr (grownBy_tr (grownBy_tr (grownBy_tr (grownBy_tr (grownBy_tr (grownBy_tr (grownBy_tr (grownBy_setC _ ⟨R, 0, none⟩ _) (grownBy_setC _ ⟨R, 1, none⟩ _)) (grownBy_setC _ ⟨R, 2, none⟩ _)) (grownBy_setC _ ⟨R, 3, none⟩ _)) (grownBy_setC _ ⟨R, 4, none⟩ _)) (grownBy_setC _ ⟨R, 5, none⟩ _)) (grownBy_setC _ ⟨R, 6, none⟩ _)) (grownBy_setC _ ⟨R, 7, none⟩ _)) (grownBy_setC _ ⟨R, 8, none⟩ _)) (grownBy_setC _ ⟨R, 9, none⟩ _)) (grownBy_setC _ ⟨R, 10, none⟩ _)) (grownBy_setC _ ⟨R, 11, none⟩ _))⟩
theorem grownBy_under {w w2 w4 : World} {pb S : Nat} (h2 : w.grownBy w2 (some pb)) (h3 : w2.grownBy w4 (some S)) (hS : w.heap.size ≤ S) : w.grownBy w4 (some pb) :=
 ⟨h3.os.trans h2.os, h3.tape.trans h2.tape, h3.output.trans h2.output, Nat.le_trans h2.size h3.size, fun k hk hne =>
  (h3.block k (Nat.lt_of_lt_of_le hk h2.size) (by intro e; injection e with e; omega)).trans (h2.block k hk hne)⟩
theorem sum_any (w : World) (u : Pr.St) (h : PS w pb sb cap l u.i u.o u.b) (hg : Good l) (hs : Pr.sums (l.map Pr.tk) u = true) :
  Calls Tryz.prog 195 #[.pointer (some ⟨pb, 0, none⟩)] w (Outc (fun _ v a => ∃ y : Vl, v = .agg y.cells.toArray ∧ y.er = a ∧ y.path.hops.l = []) w pb sb cap l (Pr.sum (l.map Pr.tk) u)) := by
 obtain ⟨r, hr⟩ : ∃ r, r = Pr.sum (l.map Pr.tk) u := ⟨_, rfl⟩
 rw [← hr]
 obtain ⟨x, hx⟩ := h.at
 obtain ⟨hk, y, hy, hy0, hm⟩ := sums_at hg hx hs
 have HR := hdn hr
 have HL := hdn hg
 have HY := hdn hy
 have HY0 := hdn hy0
 have HM := hdn hm
 have HT1 : Hid (∃ a1, Pr.term (l.map Pr.tk) u = .ok (a1, u.go)) := hdn (by
  unfold Pr.term Pr.name
  rw [Pr.sg_tk hx]
  rcases hk with h1 | h1
  ·refine ⟨⟨x.text, 0, 0⟩, ?_⟩
   simp only [Pr.tk, h1, Pr.th, if_true, show ¬ ((1 : Int) = 2) by decide, if_false]
  ·refine ⟨⟨ByteArray.empty, x.num, 0⟩, ?_⟩
   simp only [Pr.tk, h1, if_true])
 have hn : Below w.heap.size w (w.alloc (.cells #[.int .i64 0, .int .i64 0, .string ByteArray.empty, .int .i64 0, .slice none 0 0, .string ByteArray.empty, .string ByteArray.empty, .int .i64 0, .int .i64 0, .string ByteArray.empty, .int .i64 0, .int .i64 0] 49)) := (Below.refl _ _).alloc (Nat.le_refl _) _
 have HK : Hid (Bk (w.alloc (.cells #[.int .i64 0, .int .i64 0, .string ByteArray.empty, .int .i64 0, .slice none 0 0, .string ByteArray.empty, .string ByteArray.empty, .int .i64 0, .int .i64 0, .string ByteArray.empty, .int .i64 0, .int .i64 0] 49)) w.heap.size 49 #[.int .i64 0, .int .i64 0, .string ByteArray.empty, .int .i64 0, .slice none 0 0, .string ByteArray.empty, .string ByteArray.empty, .int .i64 0, .int .i64 0, .string ByteArray.empty, .int .i64 0, .int .i64 0]) := hdn (heap_alloc_new _ _)
 have HNE : Hid (w.heap.size ≠ pb ∧ w.heap.size ≠ sb) := hdn ⟨fun e => by have := h.pb_lt; omega, fun e => by have := h.sb_lt; omega⟩
 have HG : Hid (w.grownBy (w.alloc (.cells #[.int .i64 0, .int .i64 0, .string ByteArray.empty, .int .i64 0, .slice none 0 0, .string ByteArray.empty, .string ByteArray.empty, .int .i64 0, .int .i64 0, .string ByteArray.empty, .int .i64 0, .int .i64 0] 49)) (some pb)) := hdn (grownBy_of hn _)
 have HP := hdn (h.below hn)
 generalize hwA : w.alloc (.cells #[.int .i64 0, .int .i64 0, .string ByteArray.empty, .int .i64 0, .slice none 0 0, .string ByteArray.empty, .string ByteArray.empty, .int .i64 0, .int .i64 0, .string ByteArray.empty, .int .i64 0, .int .i64 0] 49) = wA at HK HG HP
 have HA := hdn (ahead_any x wA HP.out hg hx)
 clear h hg hr hn hx hk hy hy0 hm hs
 go_enter Tryz.func195, Tryz.ntmps195
 go_wp2_with fail
 rw [show w.alloc (.cells #[.int .i64 0, .int .i64 0, .string ⟨#[]⟩, .int .i64 0, .slice none 0 0, .string ⟨#[]⟩, .string ⟨#[]⟩, .int .i64 0, .int .i64 0, .string ⟨#[]⟩, .int .i64 0, .int .i64 0] 49) = wA from hwA]
 clear hwA
 refine (HA.out).mono ?_; rintro en w1 ⟨rfl, hb⟩
 have HP1 := hdn (HP.out.below hb); have HG1 := hdn (grownBy_below HG.out hb); have HK1 := hdn (HK.out.below hb HK.out.lt)
 clear hb
 go_upto_region 2 with fail
 have hm : Below w1.heap.size w1 (w1.alloc (.cells #[.int .i64 5, .int .i64 x.pos, .string ByteArray.empty, .int .i64 0, .slice none 0 0, .string ByteArray.empty, .string ByteArray.empty, .int .i64 0, .int .i64 0, .string ByteArray.empty, .int .i64 0, .int .i64 0] 49)) := (Below.refl _ _).alloc (Nat.le_refl _) _
 have HP2 := hdn (HP1.out.below hm)
 have HK2 := hdn (HK1.out.below hm HK1.out.lt)
 have HS2 : Hid (Bk (w1.alloc (.cells #[.int .i64 5, .int .i64 x.pos, .string ByteArray.empty, .int .i64 0, .slice none 0 0, .string ByteArray.empty, .string ByteArray.empty, .int .i64 0, .int .i64 0, .string ByteArray.empty, .int .i64 0, .int .i64 0] 49)) w1.heap.size 49 #[.int .i64 5, .int .i64 x.pos, .string ByteArray.empty, .int .i64 0, .slice none 0 0, .string ByteArray.empty, .string ByteArray.empty, .int .i64 0, .int .i64 0, .string ByteArray.empty, .int .i64 0, .int .i64 0]) := hdn (heap_alloc_new _ _)
 have HG2 : Hid (w.grownBy (w1.alloc (.cells #[.int .i64 5, .int .i64 x.pos, .string ByteArray.empty, .int .i64 0, .slice none 0 0, .string ByteArray.empty, .string ByteArray.empty, .int .i64 0, .int .i64 0, .string ByteArray.empty, .int .i64 0, .int .i64 0] 49)) (some pb)) := hdn (grownBy_below HG1.out hm)
 obtain ⟨S, hS⟩ : ∃ S, S = w1.heap.size := ⟨_, rfl⟩
 have HSN : Hid (S ≠ pb ∧ S ≠ sb ∧ w.heap.size ≠ S ∧ w.heap.size ≤ S) := hdn ⟨by have := HP1.out.pb_lt; omega, by have := HP1.out.sb_lt; omega, by have := HK1.out.lt; omega, by have := HK1.out.lt; omega⟩
 rw [← hS] at HS2 ⊢
 clear hS hm
 change Code.wp _ _ _ _ (w1.alloc (.cells #[.int .i64 5, .int .i64 x.pos, .string ByteArray.empty, .int .i64 0, .slice none 0 0, .string ByteArray.empty, .string ByteArray.empty, .int .i64 0, .int .i64 0, .string ByteArray.empty, .int .i64 0, .int .i64 0] 49))
 generalize (w1.alloc (.cells #[.int .i64 5, .int .i64 x.pos, .string ByteArray.empty, .int .i64 0, .slice none 0 0, .string ByteArray.empty, .string ByteArray.empty, .int .i64 0, .int .i64 0, .string ByteArray.empty, .int .i64 0, .int .i64 0] 49)) = w2 at HP2 HK2 HS2 HG2 ⊢
 go_wp2_with fail
 refine (term_any w2 HP2.out HL.out).mono ?_; intro en w3 ho
 obtain ⟨a1, ha1⟩ := HT1.out
 obtain ⟨v, rfl, ⟨d, rfl, hd⟩, h3, g3⟩ := ho.of_ok ha1
 have HD := hdn hd
 have HA1 := hdn ha1
 have HP3 := hdn h3; have HG3 := hdn (grownBy_tr HG2.out g3); have HK3 := hdn (HK2.out.kept g3 HNE.out.1); have HS3 := hdn (HS2.out.kept g3 HSN.out.1)
 clear h3 g3 ho hd ha1
 have f6 := HS3.out.frozen 6
 have f7 := HS3.out.frozen 7
 have f8 := HS3.out.frozen 8
 have s6 : w3.cell? ⟨S, 6, none⟩ = some (.string ByteArray.empty) := HS3.out.cell 6
 have s7 : w3.cell? ⟨S, 7, none⟩ = some (.int .i64 0) := HS3.out.cell 7
 have s8 : w3.cell? ⟨S, 8, none⟩ = some (.int .i64 0) := HS3.out.cell 8
 go_upto_region 3 with fail
 clear f6 f7 f8 s6 s7 s8
 have g4 : w3.grownBy (((w3.setCell ⟨S, 6, none⟩ (.string d.name)).setCell ⟨S, 7, none⟩ (.int .i64 d.n)).setCell ⟨S, 8, none⟩ (.int .i64 d.pos)) (some S) := (grownBy_tr (grownBy_tr (grownBy_setC _ ⟨S, 6, none⟩ _) (grownBy_setC _ ⟨S, 7, none⟩ _)) (grownBy_setC _ ⟨S, 8, none⟩ _))
 have HP4 := hdn (HP3.out.far g4 HSN.out.1 HSN.out.2.1)
 have HK4 := hdn (HK3.out.kept g4 HSN.out.2.2.1)
 have HS4 : Hid (Bk (((w3.setCell ⟨S, 6, none⟩ (.string d.name)).setCell ⟨S, 7, none⟩ (.int .i64 d.n)).setCell ⟨S, 8, none⟩ (.int .i64 d.pos)) S 49 #[.int .i64 5, .int .i64 x.pos, .string ByteArray.empty, .int .i64 0, .slice none 0 0, .string ByteArray.empty, .string d.name, .int .i64 d.n, .int .i64 d.pos, .string ByteArray.empty, .int .i64 0, .int .i64 0]) := hdn (((HS3.out.set_ 6 _).set_ 7 _).set_ 8 _)
 have HG4 : Hid (w.grownBy (((w3.setCell ⟨S, 6, none⟩ (.string d.name)).setCell ⟨S, 7, none⟩ (.int .i64 d.n)).setCell ⟨S, 8, none⟩ (.int .i64 d.pos)) (some pb)) := hdn (grownBy_under HG3.out g4 HSN.out.2.2.2)
 clear g4
 generalize (((w3.setCell ⟨S, 6, none⟩ (.string d.name)).setCell ⟨S, 7, none⟩ (.int .i64 d.n)).setCell ⟨S, 8, none⟩ (.int .i64 d.pos)) = w4 at HP4 HK4 HS4 HG4 ⊢
 go_wp2_with fail
 refine (take_any y w4 HP4.out HL.out HY.out HY0.out).mono ?_; rintro en w5 ⟨rfl, h5, g5⟩
 have HP5 := hdn h5; have HG5 := hdn (grownBy_tr HG4.out g5); have HK5 := hdn (HK4.out.kept g5 HNE.out.1); have HS5 := hdn (HS4.out.kept g5 HSN.out.1)
 clear h5 g5
 have f0 := HS5.out.frozen 0
 have s0 : w5.cell? ⟨S, 0, none⟩ = some (.int .i64 5) := HS5.out.cell 0
 rcases q1 : (y.text.toList == [45]) with _ | _
 ·go_wp2_with fail
  clear f0 s0
  refine (term_any w5 HP5.out HL.out).mono ?_; intro en w7 ho
  rcases hm2 : Pr.term (l.map Pr.tk) ⟨u.i + 1 + 1, u.o, u.b⟩ with n | ⟨a2, u2⟩
  ·obtain ⟨p, rfl, g7⟩ := ho.of_err hm2
   exact ⟨rfl, Outc.err (by rw [HR.out]; simp only [Pr.sum, Pr.th, HA1.out, Pr.St.go, hm2]) (grownBy_tr HG5.out g7)⟩
  obtain ⟨v, rfl, ⟨f, rfl, hf⟩, h7, g7⟩ := ho.of_ok hm2
  have HF := hdn hf
  have HP7 := hdn h7; have HG7 := hdn (grownBy_tr HG5.out g7); have HK7 := hdn (HK5.out.kept g7 HNE.out.1); have HS7 := hdn (HS5.out.kept g7 HSN.out.1)
  clear h7 g7 ho hf
  have f9 := HS7.out.frozen 9
  have f10 := HS7.out.frozen 10
  have f11 := HS7.out.frozen 11
  have s9 : w7.cell? ⟨S, 9, none⟩ = some (.string ByteArray.empty) := HS7.out.cell 9
  have s10 : w7.cell? ⟨S, 10, none⟩ = some (.int .i64 0) := HS7.out.cell 10
  have s11 : w7.cell? ⟨S, 11, none⟩ = some (.int .i64 0) := HS7.out.cell 11
  go_upto_region 6 with fail
  clear f9 f10 f11 s9 s10 s11
  have g8 : w7.grownBy (((w7.setCell ⟨S, 9, none⟩ (.string f.name)).setCell ⟨S, 10, none⟩ (.int .i64 f.n)).setCell ⟨S, 11, none⟩ (.int .i64 f.pos)) (some S) := (grownBy_tr (grownBy_tr (grownBy_setC _ ⟨S, 9, none⟩ _) (grownBy_setC _ ⟨S, 10, none⟩ _)) (grownBy_setC _ ⟨S, 11, none⟩ _))
  have HP8 := hdn (HP7.out.far g8 HSN.out.1 HSN.out.2.1)
  have HK8 := hdn (HK7.out.kept g8 HSN.out.2.2.1)
  have HS8 : Hid (Bk (((w7.setCell ⟨S, 9, none⟩ (.string f.name)).setCell ⟨S, 10, none⟩ (.int .i64 f.n)).setCell ⟨S, 11, none⟩ (.int .i64 f.pos)) S 49 #[.int .i64 5, .int .i64 x.pos, .string ByteArray.empty, .int .i64 0, .slice none 0 0, .string ByteArray.empty, .string d.name, .int .i64 d.n, .int .i64 d.pos, .string f.name, .int .i64 f.n, .int .i64 f.pos]) := hdn (((HS7.out.set_ 9 _).set_ 10 _).set_ 11 _)
  have HG8 : Hid (w.grownBy (((w7.setCell ⟨S, 9, none⟩ (.string f.name)).setCell ⟨S, 10, none⟩ (.int .i64 f.n)).setCell ⟨S, 11, none⟩ (.int .i64 f.pos)) (some pb)) := hdn (grownBy_under HG7.out g8 HSN.out.2.2.2)
  clear g8
  generalize (((w7.setCell ⟨S, 9, none⟩ (.string f.name)).setCell ⟨S, 10, none⟩ (.int .i64 f.n)).setCell ⟨S, 11, none⟩ (.int .i64 f.pos)) = w8 at HP8 HK8 HS8 HG8 ⊢
  have s0 : w8.cell? ⟨S, 0, none⟩ = some (.int .i64 5) := HS8.out.cell 0
  have r0 : w8.cell? ⟨w.heap.size, 0, none⟩ = some (.int .i64 0) := HK8.out.cell 0
  have f0 := HK8.out.frozen 0
  have s1 : w8.cell? ⟨S, 1, none⟩ = some (.int .i64 x.pos) := HS8.out.cell 1
  have r1 : w8.cell? ⟨w.heap.size, 1, none⟩ = some (.int .i64 0) := HK8.out.cell 1
  have f1 := HK8.out.frozen 1
  have s2 : w8.cell? ⟨S, 2, none⟩ = some (.string ByteArray.empty) := HS8.out.cell 2
  have r2 : w8.cell? ⟨w.heap.size, 2, none⟩ = some (.string ByteArray.empty) := HK8.out.cell 2
  have f2 := HK8.out.frozen 2
  have s3 : w8.cell? ⟨S, 3, none⟩ = some (.int .i64 0) := HS8.out.cell 3
  have r3 : w8.cell? ⟨w.heap.size, 3, none⟩ = some (.int .i64 0) := HK8.out.cell 3
  have f3 := HK8.out.frozen 3
  have s4 : w8.cell? ⟨S, 4, none⟩ = some (.slice none 0 0) := HS8.out.cell 4
  have r4 : w8.cell? ⟨w.heap.size, 4, none⟩ = some (.slice none 0 0) := HK8.out.cell 4
  have f4 := HK8.out.frozen 4
  have s5 : w8.cell? ⟨S, 5, none⟩ = some (.string ByteArray.empty) := HS8.out.cell 5
  have r5 : w8.cell? ⟨w.heap.size, 5, none⟩ = some (.string ByteArray.empty) := HK8.out.cell 5
  have f5 := HK8.out.frozen 5
  have s6 : w8.cell? ⟨S, 6, none⟩ = some (.string d.name) := HS8.out.cell 6
  have r6 : w8.cell? ⟨w.heap.size, 6, none⟩ = some (.string ByteArray.empty) := HK8.out.cell 6
  have f6 := HK8.out.frozen 6
  have s7 : w8.cell? ⟨S, 7, none⟩ = some (.int .i64 d.n) := HS8.out.cell 7
  have r7 : w8.cell? ⟨w.heap.size, 7, none⟩ = some (.int .i64 0) := HK8.out.cell 7
  have f7 := HK8.out.frozen 7
  have s8 : w8.cell? ⟨S, 8, none⟩ = some (.int .i64 d.pos) := HS8.out.cell 8
  have r8 : w8.cell? ⟨w.heap.size, 8, none⟩ = some (.int .i64 0) := HK8.out.cell 8
  have f8 := HK8.out.frozen 8
  have s9 : w8.cell? ⟨S, 9, none⟩ = some (.string f.name) := HS8.out.cell 9
  have r9 : w8.cell? ⟨w.heap.size, 9, none⟩ = some (.string ByteArray.empty) := HK8.out.cell 9
  have f9 := HK8.out.frozen 9
  have s10 : w8.cell? ⟨S, 10, none⟩ = some (.int .i64 f.n) := HS8.out.cell 10
  have r10 : w8.cell? ⟨w.heap.size, 10, none⟩ = some (.int .i64 0) := HK8.out.cell 10
  have f10 := HK8.out.frozen 10
  have s11 : w8.cell? ⟨S, 11, none⟩ = some (.int .i64 f.pos) := HS8.out.cell 11
  have r11 : w8.cell? ⟨w.heap.size, 11, none⟩ = some (.int .i64 0) := HK8.out.cell 11
  have f11 := HK8.out.frozen 11
  go_wp2_with fail
  clear s0 r0 f0 s1 r1 f1 s2 r2 f2 s3 r3 f3 s4 r4 f4 s5 r5 f5 s6 r6 f6 s7 r7 f7 s8 r8 f8 s9 r9 f9 s10 r10 f10 s11 r11 f11
  obtain ⟨hB, hF⟩ := value_result (c0 := .int .i64 5) (c1 := .int .i64 x.pos) (c2 := .string ByteArray.empty) (c3 := .int .i64 0) (c4 := .slice none 0 0) (c5 := .string ByteArray.empty) (c6 := .string d.name) (c7 := .int .i64 d.n) (c8 := .int .i64 d.pos) (c9 := .string f.name) (c10 := .int .i64 f.n) (c11 := .int .i64 f.pos) HK8.out
  generalize ((((((((((((w8.setCell ⟨w.heap.size, 0, none⟩ (.int .i64 5)).setCell ⟨w.heap.size, 1, none⟩ (.int .i64 x.pos)).setCell ⟨w.heap.size, 2, none⟩ (.string ByteArray.empty)).setCell ⟨w.heap.size, 3, none⟩ (.int .i64 0)).setCell ⟨w.heap.size, 4, none⟩ (.slice none 0 0)).setCell ⟨w.heap.size, 5, none⟩ (.string ByteArray.empty)).setCell ⟨w.heap.size, 6, none⟩ (.string d.name)).setCell ⟨w.heap.size, 7, none⟩ (.int .i64 d.n)).setCell ⟨w.heap.size, 8, none⟩ (.int .i64 d.pos)).setCell ⟨w.heap.size, 9, none⟩ (.string f.name)).setCell ⟨w.heap.size, 10, none⟩ (.int .i64 f.n)).setCell ⟨w.heap.size, 11, none⟩ (.int .i64 f.pos)) = wZ at hB hF ⊢
  have e0 := hB.cell 0
  have e1 := hB.cell 1
  have e2 := hB.cell 2
  have e3 := hB.cell 3
  have e4 := hB.cell 4
  have e5 := hB.cell 5
  have e6 := hB.cell 6
  have e7 := hB.cell 7
  have e8 := hB.cell 8
  have e9 := hB.cell 9
  have e10 := hB.cell 10
  have e11 := hB.cell 11
  exact bodyPost_ret (v := .agg #[.int .i64 5, .int .i64 x.pos, .string ByteArray.empty, .int .i64 0, .slice none 0 0, .string ByteArray.empty, .string d.name, .int .i64 d.n, .int .i64 d.pos, .string f.name, .int .i64 f.n, .int .i64 f.pos]) (by simp [results, Tryz.results195, go_sem, e0, e1, e2, e3, e4, e5, e6, e7, e8, e9, e10, e11]) rfl (Outc.ok (u := u2) (a := ⟨5, 0, Pr.noPth, ByteArray.empty, a1, a2⟩) (by rw [HR.out]; simp only [Pr.sum, Pr.th, HA1.out, Pr.St.go, hm2, HM.out, q1, Bool.false_eq_true, if_false]; rfl) (grownBy_mine HG8.out hF) ⟨⟨5, x.pos, ⟨ByteArray.empty, 0, ⟨none, 0, []⟩⟩, ByteArray.empty, d, f⟩, rfl, by rw [← HD.out, ← HF.out]; rfl, rfl⟩ (HP8.out.far hF HNE.out.1 HNE.out.2))
 ·go_wp2_with fail
  have g6 := grownBy_setC w5 ⟨S, 0, none⟩ (.int .i64 6)
  have HP5' := hdn (HP5.out.far g6 HSN.out.1 HSN.out.2.1)
  have HK5' := hdn (HK5.out.kept g6 HSN.out.2.2.1)
  have HS5' : Hid (Bk (w5.setCell ⟨S, 0, none⟩ (.int .i64 6)) S 49 #[.int .i64 6, .int .i64 x.pos, .string ByteArray.empty, .int .i64 0, .slice none 0 0, .string ByteArray.empty, .string d.name, .int .i64 d.n, .int .i64 d.pos, .string ByteArray.empty, .int .i64 0, .int .i64 0]) := hdn (HS5.out.set_ 0 _)
  have HG5' : Hid (w.grownBy (w5.setCell ⟨S, 0, none⟩ (.int .i64 6)) (some pb)) := hdn (grownBy_under HG5.out g6 HSN.out.2.2.2)
  clear g6 f0 s0 HP5 HK5 HS5 HG5
  generalize w5.setCell ⟨S, 0, none⟩ (.int .i64 6) = w6 at HP5' HK5' HS5' HG5' ⊢
  refine (term_any w6 HP5'.out HL.out).mono ?_; intro en w7 ho
  rcases hm2 : Pr.term (l.map Pr.tk) ⟨u.i + 1 + 1, u.o, u.b⟩ with n | ⟨a2, u2⟩
  ·obtain ⟨p, rfl, g7⟩ := ho.of_err hm2
   exact ⟨rfl, Outc.err (by rw [HR.out]; simp only [Pr.sum, Pr.th, HA1.out, Pr.St.go, hm2]) (grownBy_tr HG5'.out g7)⟩
  obtain ⟨v, rfl, ⟨f, rfl, hf⟩, h7, g7⟩ := ho.of_ok hm2
  have HF := hdn hf
  have HP7 := hdn h7; have HG7 := hdn (grownBy_tr HG5'.out g7); have HK7 := hdn (HK5'.out.kept g7 HNE.out.1); have HS7 := hdn (HS5'.out.kept g7 HSN.out.1)
  clear h7 g7 ho hf
  have f9 := HS7.out.frozen 9
  have f10 := HS7.out.frozen 10
  have f11 := HS7.out.frozen 11
  have s9 : w7.cell? ⟨S, 9, none⟩ = some (.string ByteArray.empty) := HS7.out.cell 9
  have s10 : w7.cell? ⟨S, 10, none⟩ = some (.int .i64 0) := HS7.out.cell 10
  have s11 : w7.cell? ⟨S, 11, none⟩ = some (.int .i64 0) := HS7.out.cell 11
  go_upto_region 6 with fail
  clear f9 f10 f11 s9 s10 s11
  have g8 : w7.grownBy (((w7.setCell ⟨S, 9, none⟩ (.string f.name)).setCell ⟨S, 10, none⟩ (.int .i64 f.n)).setCell ⟨S, 11, none⟩ (.int .i64 f.pos)) (some S) := (grownBy_tr (grownBy_tr (grownBy_setC _ ⟨S, 9, none⟩ _) (grownBy_setC _ ⟨S, 10, none⟩ _)) (grownBy_setC _ ⟨S, 11, none⟩ _))
  have HP8 := hdn (HP7.out.far g8 HSN.out.1 HSN.out.2.1)
  have HK8 := hdn (HK7.out.kept g8 HSN.out.2.2.1)
  have HS8 : Hid (Bk (((w7.setCell ⟨S, 9, none⟩ (.string f.name)).setCell ⟨S, 10, none⟩ (.int .i64 f.n)).setCell ⟨S, 11, none⟩ (.int .i64 f.pos)) S 49 #[.int .i64 6, .int .i64 x.pos, .string ByteArray.empty, .int .i64 0, .slice none 0 0, .string ByteArray.empty, .string d.name, .int .i64 d.n, .int .i64 d.pos, .string f.name, .int .i64 f.n, .int .i64 f.pos]) := hdn (((HS7.out.set_ 9 _).set_ 10 _).set_ 11 _)
  have HG8 : Hid (w.grownBy (((w7.setCell ⟨S, 9, none⟩ (.string f.name)).setCell ⟨S, 10, none⟩ (.int .i64 f.n)).setCell ⟨S, 11, none⟩ (.int .i64 f.pos)) (some pb)) := hdn (grownBy_under HG7.out g8 HSN.out.2.2.2)
  clear g8
  generalize (((w7.setCell ⟨S, 9, none⟩ (.string f.name)).setCell ⟨S, 10, none⟩ (.int .i64 f.n)).setCell ⟨S, 11, none⟩ (.int .i64 f.pos)) = w8 at HP8 HK8 HS8 HG8 ⊢
  have s0 : w8.cell? ⟨S, 0, none⟩ = some (.int .i64 6) := HS8.out.cell 0
  have r0 : w8.cell? ⟨w.heap.size, 0, none⟩ = some (.int .i64 0) := HK8.out.cell 0
  have f0 := HK8.out.frozen 0
  have s1 : w8.cell? ⟨S, 1, none⟩ = some (.int .i64 x.pos) := HS8.out.cell 1
  have r1 : w8.cell? ⟨w.heap.size, 1, none⟩ = some (.int .i64 0) := HK8.out.cell 1
  have f1 := HK8.out.frozen 1
  have s2 : w8.cell? ⟨S, 2, none⟩ = some (.string ByteArray.empty) := HS8.out.cell 2
  have r2 : w8.cell? ⟨w.heap.size, 2, none⟩ = some (.string ByteArray.empty) := HK8.out.cell 2
  have f2 := HK8.out.frozen 2
  have s3 : w8.cell? ⟨S, 3, none⟩ = some (.int .i64 0) := HS8.out.cell 3
  have r3 : w8.cell? ⟨w.heap.size, 3, none⟩ = some (.int .i64 0) := HK8.out.cell 3
  have f3 := HK8.out.frozen 3
  have s4 : w8.cell? ⟨S, 4, none⟩ = some (.slice none 0 0) := HS8.out.cell 4
  have r4 : w8.cell? ⟨w.heap.size, 4, none⟩ = some (.slice none 0 0) := HK8.out.cell 4
  have f4 := HK8.out.frozen 4
  have s5 : w8.cell? ⟨S, 5, none⟩ = some (.string ByteArray.empty) := HS8.out.cell 5
  have r5 : w8.cell? ⟨w.heap.size, 5, none⟩ = some (.string ByteArray.empty) := HK8.out.cell 5
  have f5 := HK8.out.frozen 5
  have s6 : w8.cell? ⟨S, 6, none⟩ = some (.string d.name) := HS8.out.cell 6
  have r6 : w8.cell? ⟨w.heap.size, 6, none⟩ = some (.string ByteArray.empty) := HK8.out.cell 6
  have f6 := HK8.out.frozen 6
  have s7 : w8.cell? ⟨S, 7, none⟩ = some (.int .i64 d.n) := HS8.out.cell 7
  have r7 : w8.cell? ⟨w.heap.size, 7, none⟩ = some (.int .i64 0) := HK8.out.cell 7
  have f7 := HK8.out.frozen 7
  have s8 : w8.cell? ⟨S, 8, none⟩ = some (.int .i64 d.pos) := HS8.out.cell 8
  have r8 : w8.cell? ⟨w.heap.size, 8, none⟩ = some (.int .i64 0) := HK8.out.cell 8
  have f8 := HK8.out.frozen 8
  have s9 : w8.cell? ⟨S, 9, none⟩ = some (.string f.name) := HS8.out.cell 9
  have r9 : w8.cell? ⟨w.heap.size, 9, none⟩ = some (.string ByteArray.empty) := HK8.out.cell 9
  have f9 := HK8.out.frozen 9
  have s10 : w8.cell? ⟨S, 10, none⟩ = some (.int .i64 f.n) := HS8.out.cell 10
  have r10 : w8.cell? ⟨w.heap.size, 10, none⟩ = some (.int .i64 0) := HK8.out.cell 10
  have f10 := HK8.out.frozen 10
  have s11 : w8.cell? ⟨S, 11, none⟩ = some (.int .i64 f.pos) := HS8.out.cell 11
  have r11 : w8.cell? ⟨w.heap.size, 11, none⟩ = some (.int .i64 0) := HK8.out.cell 11
  have f11 := HK8.out.frozen 11
  go_wp2_with fail
  clear s0 r0 f0 s1 r1 f1 s2 r2 f2 s3 r3 f3 s4 r4 f4 s5 r5 f5 s6 r6 f6 s7 r7 f7 s8 r8 f8 s9 r9 f9 s10 r10 f10 s11 r11 f11
  obtain ⟨hB, hF⟩ := value_result (c0 := .int .i64 6) (c1 := .int .i64 x.pos) (c2 := .string ByteArray.empty) (c3 := .int .i64 0) (c4 := .slice none 0 0) (c5 := .string ByteArray.empty) (c6 := .string d.name) (c7 := .int .i64 d.n) (c8 := .int .i64 d.pos) (c9 := .string f.name) (c10 := .int .i64 f.n) (c11 := .int .i64 f.pos) HK8.out
  generalize ((((((((((((w8.setCell ⟨w.heap.size, 0, none⟩ (.int .i64 6)).setCell ⟨w.heap.size, 1, none⟩ (.int .i64 x.pos)).setCell ⟨w.heap.size, 2, none⟩ (.string ByteArray.empty)).setCell ⟨w.heap.size, 3, none⟩ (.int .i64 0)).setCell ⟨w.heap.size, 4, none⟩ (.slice none 0 0)).setCell ⟨w.heap.size, 5, none⟩ (.string ByteArray.empty)).setCell ⟨w.heap.size, 6, none⟩ (.string d.name)).setCell ⟨w.heap.size, 7, none⟩ (.int .i64 d.n)).setCell ⟨w.heap.size, 8, none⟩ (.int .i64 d.pos)).setCell ⟨w.heap.size, 9, none⟩ (.string f.name)).setCell ⟨w.heap.size, 10, none⟩ (.int .i64 f.n)).setCell ⟨w.heap.size, 11, none⟩ (.int .i64 f.pos)) = wZ at hB hF ⊢
  have e0 := hB.cell 0
  have e1 := hB.cell 1
  have e2 := hB.cell 2
  have e3 := hB.cell 3
  have e4 := hB.cell 4
  have e5 := hB.cell 5
  have e6 := hB.cell 6
  have e7 := hB.cell 7
  have e8 := hB.cell 8
  have e9 := hB.cell 9
  have e10 := hB.cell 10
  have e11 := hB.cell 11
  exact bodyPost_ret (v := .agg #[.int .i64 6, .int .i64 x.pos, .string ByteArray.empty, .int .i64 0, .slice none 0 0, .string ByteArray.empty, .string d.name, .int .i64 d.n, .int .i64 d.pos, .string f.name, .int .i64 f.n, .int .i64 f.pos]) (by simp [results, Tryz.results195, go_sem, e0, e1, e2, e3, e4, e5, e6, e7, e8, e9, e10, e11]) rfl (Outc.ok (u := u2) (a := ⟨6, 0, Pr.noPth, ByteArray.empty, a1, a2⟩) (by rw [HR.out]; simp only [Pr.sum, Pr.th, HA1.out, Pr.St.go, hm2, HM.out, q1, if_true]; rfl) (grownBy_mine HG8.out hF) ⟨⟨6, x.pos, ⟨ByteArray.empty, 0, ⟨none, 0, []⟩⟩, ByteArray.empty, d, f⟩, rfl, by rw [← HD.out, ← HF.out]; rfl, rfl⟩ (HP8.out.far hF HNE.out.1 HNE.out.2))
end
end Go.Proofs.YtdlchhimkelinaaGreatDoor
