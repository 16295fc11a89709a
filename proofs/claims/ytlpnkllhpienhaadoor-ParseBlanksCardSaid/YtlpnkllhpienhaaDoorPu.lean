/-
  DERIVED. The walks of the parser's small calls as what the plain parser says; the relation, the braces, the statements counted.
-/
import Derived.Test.YtlpnkllhpienhaaDoorPt
namespace Go.Proofs.YtlpnkllhpienhaaDoor
open Go.RowKit Go.Sort

attribute [local go_sem] field79_0 field79_1 field79_2 field79_3
theorem Outc.err {α : Type} {K : World → Value → α → Prop} {w w' : World} {pb sb cap : Nat} {l : List Tx.Sg} {r : Pr.Res α} {n : Int × Nat} (hr : r = .error n) (hg : w.grownBy w' (some pb)) : Outc K w pb sb cap l r (faultN l n) w' := by
  subst hr; exact ⟨hg, (), rfl⟩
theorem Outc.ok {α : Type} {K : World → Value → α → Prop} {w w' : World} {pb sb cap : Nat} {l : List Tx.Sg} {r : Pr.Res α} {v : Value} {a : α} {u : Pr.St} (hr : r = .ok (a, u)) (hg : w.grownBy w' (some pb)) (hk : K w' v a) (hp : PS w' pb sb cap l u.i u.o u.b) : Outc K w pb sb cap l r (.returned v) w' := by
  subst hr; exact ⟨hg, v, rfl, hk, hp⟩
theorem Outc.of_err {α : Type} {K : World → Value → α → Prop} {w w' : World} {pb sb cap : Nat} {l : List Tx.Sg} {r : Pr.Res α} {n : Int × Nat} {e : Ending} (h : Outc K w pb sb cap l r e w') (hr : r = .error n) : ∃ _ : Unit, e = faultN l n ∧ w.grownBy w' (some pb) := by
  subst hr; exact ⟨h.2.choose, h.2.choose_spec, h.1⟩
theorem Outc.of_ok {α : Type} {K : World → Value → α → Prop} {w w' : World} {pb sb cap : Nat} {l : List Tx.Sg} {r : Pr.Res α} {a : α} {u : Pr.St} {e : Ending} (h : Outc K w pb sb cap l r e w') (hr : r = .ok (a, u)) : ∃ v, e = .returned v ∧ K w' v a ∧ PS w' pb sb cap l u.i u.o u.b ∧ w.grownBy w' (some pb) := by
  subst hr; obtain ⟨v, h1, h2, h3⟩ := h.2; exact ⟨v, h1, h2, h3, h.1⟩
theorem PS.same {w w' : World} {pb sb cap : Nat} {l : List Tx.Sg} {i : Nat} {o b : Int} (h : PS w pb sb cap l i o b) (hb : Below w.heap.size w w') : PS w' pb sb cap l i o b := h.below hb

/-- A sign as it is handed back. -/
def KSg (v : Value) (a : Pr.Tk) : Prop := ∃ x : Tx.Sg, v = .agg #[.int .i64 x.kind, .int .i64 x.pos, .string x.text, .int .i64 x.num] ∧ Pr.tk x = a
section
variable {pb sb cap : Nat} {l : List Tx.Sg}
theorem must_any (s : ByteArray) (hs : s.data.toList.length ≠ 0) (w : World) (u : Pr.St) (h : PS w pb sb cap l u.i u.o u.b) (hg : Good l) :
    Calls Tryd.prog 33 #[.pointer (some ⟨pb, 0, none⟩), .string s] w (Outc (fun _ v a => KSg v a) w pb sb cap l (Pr.must (l.map Pr.tk) s u)) := by
  obtain ⟨x, hx⟩ := h.at
  by_cases ht : (x.text.toList == s.toList) = true
  · refine (must_yes x s w h hg hx ht (by rw [Lib.toList_data]; exact hs)).mono ?_; rintro e w' ⟨rfl, h3, h4⟩
    refine Outc.ok (u := u.go) (a := Pr.tk x) ?_ h4 ⟨x, rfl, rfl⟩ h3
    simp only [Pr.must, Pr.is_tk hx, ht, Pr.sg_tk hx, if_true]
  · simp only [Bool.not_eq_true] at ht
    refine (must_no x s w h hg hx ht).mono ?_; rintro e w' ⟨rfl, h3⟩
    rw [faultN_at hx 5]
    refine Outc.err ?_ (grownBy_of h3 _)
    simp only [Pr.must, Pr.is_tk hx, ht, Bool.false_eq_true, if_false]
theorem name_any (w : World) (u : Pr.St) (h : PS w pb sb cap l u.i u.o u.b) (hg : Good l) :
    Calls Tryd.prog 34 #[.pointer (some ⟨pb, 0, none⟩)] w (Outc (fun _ v a => KSg v a) w pb sb cap l (Pr.name (l.map Pr.tk) u)) := by
  obtain ⟨x, hx⟩ := h.at
  by_cases ht : x.kind = 1
  · refine (name_yes x w h hg hx ht).mono ?_; rintro e w' ⟨rfl, h3, h4⟩
    refine Outc.ok (u := u.go) (a := Pr.tk x) ?_ h4 ⟨x, rfl, rfl⟩ h3
    simp only [Pr.name, Pr.sg_tk hx, Pr.tk, ht, if_true]
  · refine (name_no x w h hg hx ht).mono ?_; rintro e w' ⟨rfl, h3⟩
    rw [faultN_at hx 5]
    refine Outc.err ?_ (grownBy_of h3 _)
    simp only [Pr.name, Pr.sg_tk hx, Pr.tk, ht, if_false]
/-- Where the parser is once it was asked to take a sign that may come next. -/
def St.if_ (u : Pr.St) : Bool → Pr.St
  | true => u.go
  | false => u
theorem may_any (s : ByteArray) (hs : s.data.toList.length ≠ 0) (w : World) (u : Pr.St) (h : PS w pb sb cap l u.i u.o u.b) (hg : Good l) :
    Calls Tryd.prog 35 #[.pointer (some ⟨pb, 0, none⟩), .string s] w fun e w' => ∃ q, Pr.is (l.map Pr.tk) u.i s = q ∧ e = .returned (.bool q) ∧ PS w' pb sb cap l (St.if_ u q).i (St.if_ u q).o (St.if_ u q).b ∧ w.grownBy w' (some pb) := by
  obtain ⟨x, hx⟩ := h.at
  by_cases ht : (x.text.toList == s.toList) = true
  · refine (may_yes x s w h hg hx ht (by rw [Lib.toList_data]; exact hs)).mono ?_; rintro e w' ⟨rfl, h3, h4⟩
    exact ⟨true, by rw [Pr.is_tk hx, ht], rfl, h3, h4⟩
  · simp only [Bool.not_eq_true] at ht
    refine (may_no x s w h hg hx ht).mono ?_; rintro e w' ⟨rfl, h3⟩
    exact ⟨false, by rw [Pr.is_tk hx, ht], rfl, h.below h3, grownBy_of h3 _⟩

set_option maxHeartbeats 1600000 in
set_option maxRecDepth 100000 in
theorem relation_any (w : World) (u : Pr.St) (h : PS w pb sb cap l u.i u.o u.b) (hg : Good l) :
    Calls Tryd.prog 79 #[.pointer (some ⟨pb, 0, none⟩)] w (Outc (fun _ v a => v = .int .i64 a) w pb sb cap l (Pr.relation (l.map Pr.tk) u)) := by
  obtain ⟨r, hr⟩ : ∃ r, r = Pr.relation (l.map Pr.tk) u := ⟨_, rfl⟩
  rw [← hr]
  have HR := Lib.hid hr
  have HP0 := Lib.hid h
  have HG := Lib.hid hg
  have HG0 : Hid (w.grownBy w (some pb)) := Lib.hid (grownBy_of (Below.refl _ _) _)
  clear h hg hr
  go_enter Tryd.func79, Tryd.ntmps79
  go_wp2_with fail
  refine (may_any ⟨#[61, 61]⟩ (by decide) w u HP0.out HG.out).mono ?_; rintro en w1 ⟨q, hq1, rfl, h1, g1⟩
  have HP1 := Lib.hid h1; have HG1 := Lib.hid (grownBy_tr HG0.out g1)
  clear h1 g1
  cases q with
  | true =>
    go_wp2_with fail
    exact bodyPost_ret (v := .int .i64 1) (by simp [results, Tryd.results79, go_sem]) rfl (Outc.ok (u := u.go) (a := 1) (by rw [HR.out]; simp only [Pr.relation, hq1, if_true]) HG1.out rfl HP1.out)
  | false =>
  go_wp2_with fail
  refine (may_any ⟨#[33, 61]⟩ (by decide) w1 u HP1.out HG.out).mono ?_; rintro en w2 ⟨q, hq2, rfl, h1, g1⟩
  have HP2 := Lib.hid h1; have HG2 := Lib.hid (grownBy_tr HG1.out g1)
  clear h1 g1
  cases q with
  | true =>
    go_wp2_with fail
    exact bodyPost_ret (v := .int .i64 2) (by simp [results, Tryd.results79, go_sem]) rfl (Outc.ok (u := u.go) (a := 2) (by rw [HR.out]; simp only [Pr.relation, hq1, hq2, Bool.false_eq_true, if_true, if_false]) HG2.out rfl HP2.out)
  | false =>
  go_wp2_with fail
  refine (may_any ⟨#[60]⟩ (by decide) w2 u HP2.out HG.out).mono ?_; rintro en w3 ⟨q, hq3, rfl, h1, g1⟩
  have HP3 := Lib.hid h1; have HG3 := Lib.hid (grownBy_tr HG2.out g1)
  clear h1 g1
  cases q with
  | true =>
    go_wp2_with fail
    exact bodyPost_ret (v := .int .i64 3) (by simp [results, Tryd.results79, go_sem]) rfl (Outc.ok (u := u.go) (a := 3) (by rw [HR.out]; simp only [Pr.relation, hq1, hq2, hq3, Bool.false_eq_true, if_true, if_false]) HG3.out rfl HP3.out)
  | false =>
  go_wp2_with fail
  refine (must_any ⟨#[62, 61]⟩ (by decide) w3 u HP3.out HG.out).mono ?_; intro en w4 ho
  rcases hm : Pr.must (l.map Pr.tk) ⟨#[62, 61]⟩ u with n | ⟨a, u4⟩
  · obtain ⟨p, rfl, g4⟩ := ho.of_err hm
    exact ⟨rfl, Outc.err (by rw [HR.out]; simp only [Pr.relation, hq1, hq2, hq3, Bool.false_eq_true, if_false, Pr.th, hm]) (grownBy_tr HG3.out g4)⟩
  · obtain ⟨v, rfl, ⟨x, rfl, hx⟩, h4, g4⟩ := ho.of_ok hm
    have HP4 := Lib.hid h4; have HG4 := Lib.hid (grownBy_tr HG3.out g4)
    clear h4 g4 ho
    go_wp2_with fail
    exact bodyPost_ret (v := .int .i64 4) (by simp [results, Tryd.results79, go_sem]) rfl (Outc.ok (u := u4) (a := 4) (by rw [HR.out]; simp only [Pr.relation, hq1, hq2, hq3, Bool.false_eq_true, if_false, Pr.th, hm]) HG4.out rfl HP4.out)

set_option maxHeartbeats 1600000 in
set_option maxRecDepth 100000 in
theorem mustHold_any (w : World) (u : Pr.St) (h : PS w pb sb cap l u.i u.o u.b) (hg : Good l) :
    Calls Tryd.prog 59 #[.pointer (some ⟨pb, 0, none⟩)] w (Outc (fun _ v _ => v = .tuple #[]) w pb sb cap l (Pr.mustHold (l.map Pr.tk) u)) := by
  obtain ⟨r, hr⟩ : ∃ r, r = Pr.mustHold (l.map Pr.tk) u := ⟨_, rfl⟩
  rw [← hr]
  obtain ⟨x, hx⟩ := h.at
  obtain ⟨q, hq⟩ : ∃ q, (x.text.toList == (⟨#[123]⟩ : ByteArray).toList) = q := ⟨_, rfl⟩
  have HA : Hid (Calls Tryd.prog 56 #[.pointer (some ⟨pb, 0, none⟩), .string ⟨#[123]⟩] w fun e w' => e = .returned (.bool q) ∧ Below w.heap.size w w') := Lib.hid ((stands_any x _ w h hg hx).mono fun e w' ⟨h1, h2⟩ => ⟨by rw [h1, hq], h2⟩)
  have HT : Hid (∀ w', Below w.heap.size w w' → Calls Tryd.prog 24 #[.pointer (some ⟨pb, 0, none⟩), .int .i64 6] w' fun e w'' => e = faultN l (6, u.i) ∧ Below w'.heap.size w' w'') := Lib.hid (fun w' hb => (stop_any x 6 w' (h.below hb) hg hx).mono fun e w'' ⟨h1, h2⟩ => ⟨h1.trans (faultN_at hx 6), h2⟩)
  have HR : Hid (r = if q && u.o == 20 then .error (6, u.i) else .ok ((), u)) := Lib.hid (by rw [hr, Pr.mustHold, Pr.is_tk hx, hq])
  have HP := Lib.hid h
  clear h hg hr hx hq
  go_enter Tryd.func59, Tryd.ntmps59
  go_wp2_with fail
  refine (HA.out).mono ?_; rintro en w1 ⟨rfl, hb⟩
  have HB := Lib.hid hb
  have HP1 := Lib.hid (HP.out.below hb)
  clear hb
  have p2 : w1.cell? ⟨pb, 2, none⟩ = some (.int .i64 u.o) := HP1.out.blk.cell 2
  cases q with
  | false =>
    go_wp2_with fail
    go_end0
    exact Outc.ok (u := u) (a := ()) (by rw [HR.out]; rfl) (grownBy_of HB.out _) rfl HP1.out
  | true =>
    by_cases h20 : u.o = 20
    · have hd : (u.o == 20) = true := by simpa using h20
      go_wp2_with fail
      refine (HT.out w1 HB.out).mono ?_; rintro en w2 ⟨rfl, h2⟩
      exact ⟨rfl, Outc.err (by rw [HR.out, hd]; rfl) (grownBy_of (HB.out.trans (h2.mono HB.out.size)) _)⟩
    · have hd : (u.o == 20) = false := by simpa using h20
      go_wp2_with fail
      go_end0
      exact Outc.ok (u := u) (a := ()) (by rw [HR.out, hd]; rfl) (grownBy_of HB.out _) rfl HP1.out
end
end Go.Proofs.YtlpnkllhpienhaaDoor
