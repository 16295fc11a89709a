/-
  DERIVED. The walks of the parser's terms.
-/
import Derived.Test.YtlpnkllhpienhaaDoorPx
import Derived.Test.YtlpnkllhpienhaaDoorPr
namespace Go.Proofs.YtlpnkllhpienhaaDoor
open Go.RowKit Go.Sort

attribute [local go_sem] field79_0 field79_1 field79_2 field79_3
/-- The place of a sign; what is thrown at it. -/
def posAt (l : List Tx.Sg) (i : Nat) : Int := match l[i]? with | some x => x.pos | none => 0
def faultN (l : List Tx.Sg) (n : Int × Nat) : Ending := faultAt (posAt l n.2) n.1
theorem faultN_at {l : List Tx.Sg} {i : Nat} {x : Tx.Sg} (hx : l[i]? = some x) (n : Int) : faultAt x.pos n = faultN l (n, i) := by
  unfold faultN posAt; rw [hx]
/-- What a part of the parser ends in: what the plain parser says, and nothing of old is touched but the parser itself. -/
def Outc {α : Type} (K : World → Value → α → Prop) (w : World) (pb sb cap : Nat) (l : List Tx.Sg) (r : Pr.Res α) (e : Ending) (w' : World) : Prop :=
  w.grownBy w' (some pb) ∧ match r with
  | .ok (a, u) => ∃ v, e = .returned v ∧ K w' v a ∧ PS w' pb sb cap l u.i u.o u.b
  | .error n => ∃ _ : Unit, e = faultN l n

section
variable {pb sb cap : Nat} {l : List Tx.Sg} {i : Nat} {o b : Int}
/-- The end of a call that hands back a term through a result of its own. -/
theorem term_result {w2 : World} {n : ByteArray} {k p : Int} {R : Nat} {s : ByteArray} {a c : Int} (hk : Bk w2 R 45 #[.string s, .int .i64 a, .int .i64 c]) :
    Bk (((w2.setCell ⟨R, 0, none⟩ (.string n)).setCell ⟨R, 1, none⟩ (.int .i64 k)).setCell ⟨R, 2, none⟩ (.int .i64 p)) R 45 #[.string n, .int .i64 k, .int .i64 p] ∧
    w2.grownBy (((w2.setCell ⟨R, 0, none⟩ (.string n)).setCell ⟨R, 1, none⟩ (.int .i64 k)).setCell ⟨R, 2, none⟩ (.int .i64 p)) (some R) :=
  ⟨((hk.set_ 0 _).set_ 1 _).set_ 2 _, grownBy_tr (grownBy_tr (grownBy_setC _ ⟨R, 0, none⟩ _) (grownBy_setC _ ⟨R, 1, none⟩ _)) (grownBy_setC _ ⟨R, 2, none⟩ _)⟩
/-- Nothing of old but the parser is touched, if it is so up to a world from which on just a block of one's own is written. -/
theorem grownBy_mine {w w2 w4 : World} {pb : Nat} (h2 : w.grownBy w2 (some pb)) (h3 : w2.grownBy w4 (some w.heap.size)) : w.grownBy w4 (some pb) :=
  ⟨h3.os.trans h2.os, h3.tape.trans h2.tape, h3.output.trans h2.output, Nat.le_trans h2.size h3.size, fun k hk hne =>
    (h3.block k (Nat.lt_of_lt_of_le hk h2.size) (by intro e; injection e with e; omega)).trans (h2.block k hk hne)⟩
theorem PS.at {w : World} (h : PS w pb sb cap l i o b) : ∃ x, l[i]? = some x := ⟨l[i]'h.lt, List.getElem?_eq_getElem h.lt⟩
theorem grownBy_below {a b c : World} {r : Option Nat} (h : a.grownBy b r) (k : Below b.heap.size b c) : a.grownBy c r := grownBy_tr h (grownBy_of k r)
theorem grownBy_above {a b c : World} {r : Option Nat} (h : Below a.heap.size a b) (k : b.grownBy c r) : a.grownBy c r := below_grown h k
set_option maxHeartbeats 1600000 in
set_option maxRecDepth 100000 in
theorem term_num (x : Tx.Sg) (w : World) (h : PS w pb sb cap l i o b) (hg : Good l) (hx : l[i]? = some x) (ht : x.kind = 2) :
    Calls Tryd.prog 74 #[.pointer (some ⟨pb, 0, none⟩)] w fun e w' => e = .returned (.agg #[.string ByteArray.empty, .int .i64 x.num, .int .i64 x.pos]) ∧ PS w' pb sb cap l (i + 1) o b ∧ w.grownBy w' (some pb) := by
  have hn : Below w.heap.size w (w.alloc (.cells #[.string ByteArray.empty, .int .i64 0, .int .i64 0] 45)) := (Below.refl _ _).alloc (Nat.le_refl _) _
  have HK : Hid (Bk (w.alloc (.cells #[.string ByteArray.empty, .int .i64 0, .int .i64 0] 45)) w.heap.size 45 #[.string ByteArray.empty, .int .i64 0, .int .i64 0]) := Lib.hid (heap_alloc_new _ _)
  have HZ : Hid ((w.alloc (.cells #[.string ByteArray.empty, .int .i64 0, .int .i64 0] 45)).heap.size = w.heap.size + 1) := Lib.hid (by simp)
  have HNE : Hid (w.heap.size ≠ pb ∧ w.heap.size ≠ sb) := Lib.hid ⟨fun e => by have := h.pb_lt; omega, fun e => by have := h.sb_lt; omega⟩
  have HN := Lib.hid hn
  have hp := h.below hn
  generalize hwA : w.alloc (.cells #[.string ByteArray.empty, .int .i64 0, .int .i64 0] 45) = wA at HK HZ HN hp
  have HA : Hid (Calls Tryd.prog 23 #[.pointer (some ⟨pb, 0, none⟩)] wA fun e w' => e = .returned (.agg #[.int .i64 2, .int .i64 x.pos, .string x.text, .int .i64 x.num]) ∧ Below wA.heap.size wA w') := Lib.hid ((ahead_any x wA hp hg hx).mono fun e w' ⟨h1, h2⟩ => ⟨by rw [h1, ht], h2⟩)
  have HT : Hid (∀ w', Below wA.heap.size wA w' → Calls Tryd.prog 43 #[.pointer (some ⟨pb, 0, none⟩)] w' fun e w'' => e = .returned (.agg #[.int .i64 x.kind, .int .i64 x.pos, .string x.text, .int .i64 x.num]) ∧ PS w'' pb sb cap l (i + 1) o b ∧ w'.grownBy w'' (some pb)) := Lib.hid (fun w' hb => take_any x w' (hp.below hb) hg hx (by rw [ht]; decide))
  clear h hg hx ht hp hn
  go_enter Tryd.func74, Tryd.ntmps74
  go_wp2_with fail
  rw [show w.alloc (.cells #[.string ⟨#[]⟩, .int .i64 0, .int .i64 0] 45) = wA from hwA]
  clear hwA
  refine (HA.out).mono ?_; rintro en w1 ⟨rfl, hb⟩
  have HB := Lib.hid hb
  clear hb
  go_wp2_with fail
  refine (HT.out w1 HB.out).mono ?_; rintro en w2 ⟨rfl, h2, h3⟩
  have H2 := Lib.hid h2; have H3 := Lib.hid (below_grown HB.out h3)
  have HK2 : Hid (Bk w2 w.heap.size 45 #[.string ByteArray.empty, .int .i64 0, .int .i64 0]) := Lib.hid ((H3.out.block _ (by rw [HZ.out]; omega) (by intro e; injection e with e; exact HNE.out.1 e)).trans HK.out)
  clear h2 h3
  go_upto_region 3 with fail
  have hm : Below w2.heap.size w2 (w2.alloc (.cells #[.int .i64 x.kind, .int .i64 x.pos, .string x.text, .int .i64 x.num] 79)) := (Below.refl _ _).alloc (Nat.le_refl _) _
  have HP := Lib.hid (H2.out.below hm)
  have HKR := Lib.hid (HK2.out.below hm (Array.getElem?_eq_some_iff.1 HK2.out).1)
  have HKT : Hid (Bk (w2.alloc (.cells #[.int .i64 x.kind, .int .i64 x.pos, .string x.text, .int .i64 x.num] 79)) w2.heap.size 79 #[.int .i64 x.kind, .int .i64 x.pos, .string x.text, .int .i64 x.num]) := Lib.hid (heap_alloc_new _ _)
  have HG : Hid (w.grownBy (w2.alloc (.cells #[.int .i64 x.kind, .int .i64 x.pos, .string x.text, .int .i64 x.num] 79)) (some pb)) := Lib.hid (grownBy_below (grownBy_above HN.out H3.out) hm)
  clear hm
  obtain ⟨T, hT⟩ : ∃ T, T = w2.heap.size := ⟨_, rfl⟩
  rw [← hT] at HKT ⊢
  clear hT
  generalize w2.alloc (.cells #[.int .i64 x.kind, .int .i64 x.pos, .string x.text, .int .i64 x.num] 79) = w3 at HP HKR HKT HG ⊢
  have t0 : w3.cell? ⟨T, 0, none⟩ = some (.int .i64 x.kind) := HKT.out.cell 0
  have t1 : w3.cell? ⟨T, 1, none⟩ = some (.int .i64 x.pos) := HKT.out.cell 1
  have t2 : w3.cell? ⟨T, 2, none⟩ = some (.string x.text) := HKT.out.cell 2
  have t3 : w3.cell? ⟨T, 3, none⟩ = some (.int .i64 x.num) := HKT.out.cell 3
  have r0 : w3.cell? ⟨w.heap.size, 0, none⟩ = some (.string ByteArray.empty) := HKR.out.cell 0
  have r1 : w3.cell? ⟨w.heap.size, 1, none⟩ = some (.int .i64 0) := HKR.out.cell 1
  have r2 : w3.cell? ⟨w.heap.size, 2, none⟩ = some (.int .i64 0) := HKR.out.cell 2
  have f0 := HKR.out.frozen 0
  have f1 := HKR.out.frozen 1
  have f2 := HKR.out.frozen 2
  go_wp2_with fail
  clear t0 t1 t2 t3 r0 r1 r2 f0 f1 f2
  obtain ⟨hB, hF⟩ := term_result (n := ⟨#[]⟩) (k := x.num) (p := x.pos) HKR.out
  generalize ((w3.setCell ⟨w.heap.size, 0, none⟩ (.string ⟨#[]⟩)).setCell ⟨w.heap.size, 1, none⟩ (.int .i64 x.num)).setCell ⟨w.heap.size, 2, none⟩ (.int .i64 x.pos) = w4 at hB hF ⊢
  have e0 := hB.cell 0
  have e1 := hB.cell 1
  have e2 := hB.cell 2
  exact bodyPost_ret (v := .agg #[.string ⟨#[]⟩, .int .i64 x.num, .int .i64 x.pos]) (by simp [results, Tryd.results74, go_sem, e0, e1, e2]) rfl ⟨rfl, HP.out.far hF HNE.out.1 HNE.out.2, grownBy_mine HG.out hF⟩
set_option maxHeartbeats 1600000 in
set_option maxRecDepth 100000 in
theorem term_name (x : Tx.Sg) (w : World) (h : PS w pb sb cap l i o b) (hg : Good l) (hx : l[i]? = some x) (ht : x.kind = 1) :
    Calls Tryd.prog 74 #[.pointer (some ⟨pb, 0, none⟩)] w fun e w' => e = .returned (.agg #[.string x.text, .int .i64 0, .int .i64 x.pos]) ∧ PS w' pb sb cap l (i + 1) o b ∧ w.grownBy w' (some pb) := by
  have hn : Below w.heap.size w (w.alloc (.cells #[.string ByteArray.empty, .int .i64 0, .int .i64 0] 45)) := (Below.refl _ _).alloc (Nat.le_refl _) _
  have HK : Hid (Bk (w.alloc (.cells #[.string ByteArray.empty, .int .i64 0, .int .i64 0] 45)) w.heap.size 45 #[.string ByteArray.empty, .int .i64 0, .int .i64 0]) := Lib.hid (heap_alloc_new _ _)
  have HZ : Hid ((w.alloc (.cells #[.string ByteArray.empty, .int .i64 0, .int .i64 0] 45)).heap.size = w.heap.size + 1) := Lib.hid (by simp)
  have HNE : Hid (w.heap.size ≠ pb ∧ w.heap.size ≠ sb) := Lib.hid ⟨fun e => by have := h.pb_lt; omega, fun e => by have := h.sb_lt; omega⟩
  have HN := Lib.hid hn
  have hp := h.below hn
  generalize hwA : w.alloc (.cells #[.string ByteArray.empty, .int .i64 0, .int .i64 0] 45) = wA at HK HZ HN hp
  have HA : Hid (Calls Tryd.prog 23 #[.pointer (some ⟨pb, 0, none⟩)] wA fun e w' => e = .returned (.agg #[.int .i64 1, .int .i64 x.pos, .string x.text, .int .i64 x.num]) ∧ Below wA.heap.size wA w') := Lib.hid ((ahead_any x wA hp hg hx).mono fun e w' ⟨h1, h2⟩ => ⟨by rw [h1, ht], h2⟩)
  have HT : Hid (∀ w', Below wA.heap.size wA w' → Calls Tryd.prog 34 #[.pointer (some ⟨pb, 0, none⟩)] w' fun e w'' => e = .returned (.agg #[.int .i64 x.kind, .int .i64 x.pos, .string x.text, .int .i64 x.num]) ∧ PS w'' pb sb cap l (i + 1) o b ∧ w'.grownBy w'' (some pb)) := Lib.hid (fun w' hb => name_yes x w' (hp.below hb) hg hx ht)
  clear h hg hx ht hp hn
  go_enter Tryd.func74, Tryd.ntmps74
  go_wp2_with fail
  rw [show w.alloc (.cells #[.string ⟨#[]⟩, .int .i64 0, .int .i64 0] 45) = wA from hwA]
  clear hwA
  refine (HA.out).mono ?_; rintro en w1 ⟨rfl, hb⟩
  have HB := Lib.hid hb
  clear hb
  go_wp2_with fail
  refine (HT.out w1 HB.out).mono ?_; rintro en w2 ⟨rfl, h2, h3⟩
  have H2 := Lib.hid h2; have H3 := Lib.hid (below_grown HB.out h3)
  have HK2 : Hid (Bk w2 w.heap.size 45 #[.string ByteArray.empty, .int .i64 0, .int .i64 0]) := Lib.hid ((H3.out.block _ (by rw [HZ.out]; omega) (by intro e; injection e with e; exact HNE.out.1 e)).trans HK.out)
  clear h2 h3
  go_upto_region 5 with fail
  have hm : Below w2.heap.size w2 (w2.alloc (.cells #[.int .i64 x.kind, .int .i64 x.pos, .string x.text, .int .i64 x.num] 79)) := (Below.refl _ _).alloc (Nat.le_refl _) _
  have HP := Lib.hid (H2.out.below hm)
  have HKR := Lib.hid (HK2.out.below hm (Array.getElem?_eq_some_iff.1 HK2.out).1)
  have HKT : Hid (Bk (w2.alloc (.cells #[.int .i64 x.kind, .int .i64 x.pos, .string x.text, .int .i64 x.num] 79)) w2.heap.size 79 #[.int .i64 x.kind, .int .i64 x.pos, .string x.text, .int .i64 x.num]) := Lib.hid (heap_alloc_new _ _)
  have HG : Hid (w.grownBy (w2.alloc (.cells #[.int .i64 x.kind, .int .i64 x.pos, .string x.text, .int .i64 x.num] 79)) (some pb)) := Lib.hid (grownBy_below (grownBy_above HN.out H3.out) hm)
  clear hm
  obtain ⟨T, hT⟩ : ∃ T, T = w2.heap.size := ⟨_, rfl⟩
  rw [← hT] at HKT ⊢
  clear hT
  generalize w2.alloc (.cells #[.int .i64 x.kind, .int .i64 x.pos, .string x.text, .int .i64 x.num] 79) = w3 at HP HKR HKT HG ⊢
  have t0 : w3.cell? ⟨T, 0, none⟩ = some (.int .i64 x.kind) := HKT.out.cell 0
  have t1 : w3.cell? ⟨T, 1, none⟩ = some (.int .i64 x.pos) := HKT.out.cell 1
  have t2 : w3.cell? ⟨T, 2, none⟩ = some (.string x.text) := HKT.out.cell 2
  have t3 : w3.cell? ⟨T, 3, none⟩ = some (.int .i64 x.num) := HKT.out.cell 3
  have r0 : w3.cell? ⟨w.heap.size, 0, none⟩ = some (.string ByteArray.empty) := HKR.out.cell 0
  have r1 : w3.cell? ⟨w.heap.size, 1, none⟩ = some (.int .i64 0) := HKR.out.cell 1
  have r2 : w3.cell? ⟨w.heap.size, 2, none⟩ = some (.int .i64 0) := HKR.out.cell 2
  have f0 := HKR.out.frozen 0
  have f1 := HKR.out.frozen 1
  have f2 := HKR.out.frozen 2
  go_wp2_with fail
  clear t0 t1 t2 t3 r0 r1 r2 f0 f1 f2
  obtain ⟨hB, hF⟩ := term_result (n := x.text) (k := 0) (p := x.pos) HKR.out
  generalize ((w3.setCell ⟨w.heap.size, 0, none⟩ (.string x.text)).setCell ⟨w.heap.size, 1, none⟩ (.int .i64 0)).setCell ⟨w.heap.size, 2, none⟩ (.int .i64 x.pos) = w4 at hB hF ⊢
  have e0 := hB.cell 0
  have e1 := hB.cell 1
  have e2 := hB.cell 2
  exact bodyPost_ret (v := .agg #[.string x.text, .int .i64 0, .int .i64 x.pos]) (by simp [results, Tryd.results74, go_sem, e0, e1, e2]) rfl ⟨rfl, HP.out.far hF HNE.out.1 HNE.out.2, grownBy_mine HG.out hF⟩
set_option maxHeartbeats 1600000 in
set_option maxRecDepth 100000 in
theorem term_none (x : Tx.Sg) (w : World) (h : PS w pb sb cap l i o b) (hg : Good l) (hx : l[i]? = some x) (h1 : x.kind ≠ 1) (h2 : x.kind ≠ 2) :
    Calls Tryd.prog 74 #[.pointer (some ⟨pb, 0, none⟩)] w fun e w' => e = faultAt x.pos 5 ∧ Below w.heap.size w w' := by
  have hn : Below w.heap.size w (w.alloc (.cells #[.string ByteArray.empty, .int .i64 0, .int .i64 0] 45)) := (Below.refl _ _).alloc (Nat.le_refl _) _
  have HK : Hid (Bk (w.alloc (.cells #[.string ByteArray.empty, .int .i64 0, .int .i64 0] 45)) w.heap.size 45 #[.string ByteArray.empty, .int .i64 0, .int .i64 0]) := Lib.hid (heap_alloc_new _ _)
  have HZ : Hid ((w.alloc (.cells #[.string ByteArray.empty, .int .i64 0, .int .i64 0] 45)).heap.size = w.heap.size + 1) := Lib.hid (by simp)
  have HNE : Hid (w.heap.size ≠ pb ∧ w.heap.size ≠ sb) := Lib.hid ⟨fun e => by have := h.pb_lt; omega, fun e => by have := h.sb_lt; omega⟩
  have HN := Lib.hid hn
  have hp := h.below hn
  generalize hwA : w.alloc (.cells #[.string ByteArray.empty, .int .i64 0, .int .i64 0] 45) = wA at HK HZ HN hp
  have HA : Hid (Calls Tryd.prog 23 #[.pointer (some ⟨pb, 0, none⟩)] wA fun e w' => e = .returned (.agg #[.int .i64 x.kind, .int .i64 x.pos, .string x.text, .int .i64 x.num]) ∧ Below wA.heap.size wA w') := Lib.hid (ahead_any x wA hp hg hx)
  have HT : Hid (∀ w', Below wA.heap.size wA w' → Calls Tryd.prog 34 #[.pointer (some ⟨pb, 0, none⟩)] w' fun e w'' => e = faultAt x.pos 5 ∧ Below w'.heap.size w' w'') := Lib.hid (fun w' hb => name_no x w' (hp.below hb) hg hx h1)
  clear h hg hx hp hn h1
  go_enter Tryd.func74, Tryd.ntmps74
  go_wp2_with fail
  rw [show w.alloc (.cells #[.string ⟨#[]⟩, .int .i64 0, .int .i64 0] 45) = wA from hwA]
  clear hwA
  refine (HA.out).mono ?_; rintro en w1 ⟨rfl, hb⟩
  have HB := Lib.hid hb
  clear hb
  go_wp2_with fail
  refine (HT.out w1 HB.out).mono ?_; rintro en w2 ⟨rfl, hb2⟩
  have HB2 := Lib.hid ((HN.out.trans (HB.out.mono HN.out.size)).trans (hb2.mono (HN.out.trans (HB.out.mono HN.out.size)).size))
  exact ⟨rfl, rfl, HB2.out⟩

/-- A term as it lies in a value. -/
def KTm (v : Value) (a : Tm) : Prop := ∃ y : Tm, v = .agg y.cells.toArray ∧ y.er = a
theorem term_any (w : World) (h : PS w pb sb cap l i o b) (hg : Good l) :
    Calls Tryd.prog 74 #[.pointer (some ⟨pb, 0, none⟩)] w (Outc (fun _ v a => KTm v a) w pb sb cap l (Pr.term (l.map Pr.tk) ⟨i, o, b⟩)) := by
  obtain ⟨x, hx⟩ := h.at
  have hs := Pr.sg_tk hx
  by_cases h2 : x.kind = 2
  · refine (term_num x w h hg hx h2).mono ?_; rintro e w' ⟨rfl, h3, h4⟩
    refine ⟨h4, ?_⟩
    simp only [Pr.term, hs, Pr.tk, h2, if_true]
    exact ⟨_, rfl, ⟨⟨ByteArray.empty, x.num, x.pos⟩, rfl, rfl⟩, h3⟩
  · by_cases h1 : x.kind = 1
    · refine (term_name x w h hg hx h1).mono ?_; rintro e w' ⟨rfl, h3, h4⟩
      refine ⟨h4, ?_⟩
      simp only [Pr.term, Pr.name, Pr.th, hs, Pr.tk, h1, if_true, show ¬ ((1 : Int) = 2) by decide, if_false]
      exact ⟨_, rfl, ⟨⟨x.text, 0, x.pos⟩, rfl, rfl⟩, h3⟩
    · refine (term_none x w h hg hx h1 h2).mono ?_; rintro e w' ⟨rfl, h3⟩
      refine ⟨grownBy_of h3 _, ?_⟩
      simp only [Pr.term, Pr.name, Pr.th, hs, Pr.tk, h1, h2, if_false]
      exact ⟨(), faultN_at hx 5⟩
end
end Go.Proofs.YtlpnkllhpienhaaDoor
