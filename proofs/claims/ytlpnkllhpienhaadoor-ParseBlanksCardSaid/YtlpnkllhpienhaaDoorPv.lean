/-
  DERIVED. The walks of the parser: statements counted; may a statement, a local, a sum begin here.
-/
import Derived.Test.YtlpnkllhpienhaaDoorPu
import Derived.BigQuiet
namespace Go.Proofs.YtlpnkllhpienhaaDoor
open Go.RowKit Go.Sort

attribute [local go_sem] field79_0 field79_1 field79_2 field79_3
section
variable {pb sb cap : Nat} {l : List Tx.Sg}
/-- One statement more has begun. -/
theorem PS.count {w : World} {i : Nat} {o b : Int} (h : PS w pb sb cap l i o b) (c : Int) : PS (w.setCell ⟨pb, 3, none⟩ (.int .i64 c)) pb sb cap l i o c :=
  ⟨h.blk.set_ 3 _, fun k x hx j v hv => (World.cell?_setCell_other _ _ _ _ (by intro e; injection e with e; exact h.ne e.symm)).trans (h.row k x hx j v hv), h.ne, h.lt⟩
/-- So many braces are open now. -/
theorem PS.open_ {w : World} {i : Nat} {o b : Int} (h : PS w pb sb cap l i o b) (c : Int) : PS (w.setCell ⟨pb, 2, none⟩ (.int .i64 c)) pb sb cap l i c b :=
  ⟨h.blk.set_ 2 _, fun k x hx j v hv => (World.cell?_setCell_other _ _ _ _ (by intro e; injection e with e; exact h.ne e.symm)).trans (h.row k x hx j v hv), h.ne, h.lt⟩
set_option maxHeartbeats 1600000 in
set_option maxRecDepth 100000 in
theorem count_any (w : World) (u : Pr.St) (h : PS w pb sb cap l u.i u.o u.b) (hg : Good l) (h0 : 0 ≤ u.b) (hb : u.b ≤ 400) :
    Calls Tryd.prog 42 #[.pointer (some ⟨pb, 0, none⟩)] w (Outc (fun _ v _ => v = .tuple #[]) w pb sb cap l (Pr.count (l.map Pr.tk) u)) := by
  obtain ⟨r, hr⟩ : ∃ r, r = Pr.count (l.map Pr.tk) u := ⟨_, rfl⟩
  rw [← hr]
  obtain ⟨x, hx⟩ := h.at
  have HM := Lib.hid (mustHold_any w u h hg)
  have HT : Hid (∀ w', PS w' pb sb cap l u.i u.o u.b → Calls Tryd.prog 24 #[.pointer (some ⟨pb, 0, none⟩), .int .i64 11] w' fun e w'' => e = faultN l (11, u.i) ∧ Below w'.heap.size w' w'') := Lib.hid (fun w' hp => (stop_any x 11 w' hp hg hx).mono fun e w'' ⟨h1, h2⟩ => ⟨h1.trans (faultN_at hx 11), h2⟩)
  have HR := Lib.hid hr
  clear h hg hr hx
  go_enter Tryd.func42, Tryd.ntmps42
  go_wp2_with fail
  refine (HM.out).mono ?_; intro en w1 ho
  rcases hm : Pr.mustHold (l.map Pr.tk) u with n | ⟨a, u1⟩
  · obtain ⟨p, rfl, g1⟩ := ho.of_err hm
    exact ⟨rfl, Outc.err (by rw [HR.out]; simp only [Pr.count, Pr.th, hm]) g1⟩
  obtain ⟨v, rfl, rfl, h1, g1⟩ := ho.of_ok hm
  have hu : u1 = u := by
    unfold Pr.mustHold at hm
    split at hm
    · cases hm
    · injection hm with hm; injection hm with _ hm; exact hm.symm
  subst hu
  have HP1 := Lib.hid h1; have HG1 := Lib.hid g1
  clear h1 g1 ho
  have p3 : w1.cell? ⟨pb, 3, none⟩ = some (.int .i64 u1.b) := HP1.out.blk.cell 3
  have f3 := HP1.out.blk.frozen 3
  by_cases hb4 : u1.b = 400
  · have hd : (u1.b == 400) = true := by simpa using hb4
    go_wp2_with fail
    refine (HT.out w1 HP1.out).mono ?_; rintro en w2 ⟨rfl, h2⟩
    exact ⟨rfl, Outc.err (by rw [HR.out]; simp only [Pr.count, Pr.th, hm, hb4, if_true]) (grownBy_below HG1.out h2)⟩
  · have hd : (u1.b == 400) = false := by simpa using hb4
    go_wp2_with fail
    go_end0
    exact Outc.ok (u := ⟨u1.i, u1.o, u1.b + 1⟩) (a := ()) (by rw [HR.out]; simp only [Pr.count, Pr.th, hm, hb4, if_false]) (grownBy_tr HG1.out (grownBy_setC _ ⟨pb, 3, none⟩ _)) rfl (HP1.out.count _)

set_option maxHeartbeats 1600000 in
set_option maxRecDepth 100000 in
theorem begins_any (w : World) (u : Pr.St) (h : PS w pb sb cap l u.i u.o u.b) (hg : Good l) :
    Calls Tryd.prog 30 #[.pointer (some ⟨pb, 0, none⟩)] w fun e w' => e = .returned (.bool (Pr.begins (l.map Pr.tk) u)) ∧ Below w.heap.size w w' := by
  obtain ⟨x, hx⟩ := h.at
  have HA : Hid (∀ w', Below w.heap.size w w' → Calls Tryd.prog 23 #[.pointer (some ⟨pb, 0, none⟩)] w' fun e w'' => e = .returned (.agg #[.int .i64 x.kind, .int .i64 x.pos, .string x.text, .int .i64 x.num]) ∧ Below w'.heap.size w' w'') := Lib.hid (fun w' hb => ahead_any x w' (h.below hb) hg hx)
  obtain ⟨r, hr⟩ : ∃ r, r = Pr.begins (l.map Pr.tk) u := ⟨_, rfl⟩
  rw [← hr]
  have e1 : (⟨#[59]⟩ : ByteArray).toList = [59] := Lib.toList_data _
  have e2 : (⟨#[123]⟩ : ByteArray).toList = [123] := Lib.toList_data _
  have e3 : (⟨#[102, 114, 101, 101]⟩ : ByteArray).toList = [102, 114, 101, 101] := Lib.toList_data _
  have e4 : (⟨#[105, 102]⟩ : ByteArray).toList = [105, 102] := Lib.toList_data _
  have e5 : (⟨#[119, 104, 105, 108, 101]⟩ : ByteArray).toList = [119, 104, 105, 108, 101] := Lib.toList_data _
  simp only [Pr.begins, Pr.is_tk hx, Pr.sg_tk hx, Pr.tk, e1, e2, e3, e4, e5] at hr
  have HR := Lib.hid hr
  clear h hg hr hx e1 e2 e3 e4 e5
  go_enter Tryd.func30, Tryd.ntmps30
  go_wp2_with fail
  refine (HA.out w (Below.refl _ _)).mono ?_; rintro en w1 ⟨rfl, hb⟩
  have HB := Lib.hid hb
  clear hb
  rcases q1 : (x.text.toList == [59]) with _ | _
  case true =>
    go_wp2_with fail
    go_ret
    exact ⟨by rw [HR.out, q1]; simp, HB.out⟩
  rcases q2 : (x.text.toList == [123]) with _ | _
  case true =>
    go_wp2_with fail
    go_ret
    exact ⟨by rw [HR.out, q2]; simp, HB.out⟩
  rcases q3 : (x.text.toList == [102, 114, 101, 101]) with _ | _
  case true =>
    go_wp2_with fail
    go_ret
    exact ⟨by rw [HR.out, q3]; simp, HB.out⟩
  rcases q4 : (x.text.toList == [105, 102]) with _ | _
  case true =>
    go_wp2_with fail
    go_ret
    exact ⟨by rw [HR.out, q4]; simp, HB.out⟩
  rcases q5 : (x.text.toList == [119, 104, 105, 108, 101]) with _ | _
  case true =>
    go_wp2_with fail
    go_ret
    exact ⟨by rw [HR.out, q5]; simp, HB.out⟩
  go_wp2_with fail
  refine (HA.out w1 HB.out).mono ?_; rintro en w2 ⟨rfl, hb⟩
  have HB2 := Lib.hid (HB.out.trans (hb.mono HB.out.size))
  clear hb
  go_wp2_with fail
  go_ret
  exact ⟨by rw [HR.out, q1, q2, q3, q4, q5]; simp, HB2.out⟩

set_option maxHeartbeats 1600000 in
set_option maxRecDepth 100000 in
theorem declares_any (w : World) (u : Pr.St) (h : PS w pb sb cap l u.i u.o u.b) (hg : Good l) :
    Calls Tryd.prog 39 #[.pointer (some ⟨pb, 0, none⟩)] w fun e w' => e = .returned (.bool (Pr.declares (l.map Pr.tk) u)) ∧ Below w.heap.size w w' := by
  obtain ⟨x, hx⟩ := h.at
  have HA : Hid (∀ w', Below w.heap.size w w' → Calls Tryd.prog 23 #[.pointer (some ⟨pb, 0, none⟩)] w' fun e w'' => e = .returned (.agg #[.int .i64 x.kind, .int .i64 x.pos, .string x.text, .int .i64 x.num]) ∧ Below w'.heap.size w' w'') := Lib.hid (fun w' hb => ahead_any x w' (h.below hb) hg hx)
  obtain ⟨q, hq⟩ : ∃ q, (x.text.toList == (⟨#[105, 110, 116]⟩ : ByteArray).toList) = q := ⟨_, rfl⟩
  have HS : Hid (Calls Tryd.prog 56 #[.pointer (some ⟨pb, 0, none⟩), .string ⟨#[105, 110, 116]⟩] w fun e w' => e = .returned (.bool q) ∧ Below w.heap.size w w') := Lib.hid ((stands_any x _ w h hg hx).mono fun e w' ⟨h1, h2⟩ => ⟨by rw [h1, hq], h2⟩)
  have HN : Hid (x.kind = 1 → ∃ y : Tx.Sg, l[u.i + 1]? = some y ∧ ∀ w', Below w.heap.size w w' → Calls Tryd.prog 57 #[.pointer (some ⟨pb, 0, none⟩)] w' fun e w'' => e = .returned (.string y.text) ∧ Below w'.heap.size w' w'') := Lib.hid (fun h1 => by
    have hi := hg.more hx (by rw [h1]; decide)
    exact ⟨l[u.i + 1], List.getElem?_eq_getElem hi, fun w' hb => behind_any _ w' (h.below hb) hg (List.getElem?_eq_getElem hi)⟩)
  obtain ⟨r, hr⟩ : ∃ r, r = Pr.declares (l.map Pr.tk) u := ⟨_, rfl⟩
  rw [← hr]
  simp only [Pr.declares, Pr.is_tk hx, Pr.sg_tk hx, Pr.tk, hq] at hr
  have HR := Lib.hid hr
  clear h hg hr hx hq
  go_enter Tryd.func39, Tryd.ntmps39
  go_wp2_with fail
  refine (HS.out).mono ?_; rintro en w1 ⟨rfl, hb⟩
  have HB := Lib.hid hb
  clear hb
  cases q with
  | true =>
    go_wp2_with fail
    go_ret
    exact ⟨by rw [HR.out]; rfl, HB.out⟩
  | false =>
  go_wp2_with fail
  refine (HA.out w1 HB.out).mono ?_; rintro en w2 ⟨rfl, hb⟩
  have HB2 := Lib.hid (HB.out.trans (hb.mono HB.out.size))
  clear hb
  by_cases h1 : x.kind = 1
  · have hd : (x.kind == 1) = true := by simpa using h1
    obtain ⟨y, hy, hN⟩ := HN.out h1
    have HY : Hid (Pr.is (l.map Pr.tk) (u.i + 1) ⟨#[42]⟩ = (y.text.toList == [42])) := Lib.hid (by rw [Pr.is_tk hy]; rw [show (⟨#[42]⟩ : ByteArray).toList = [42] from Lib.toList_data _])
    have HN2 := Lib.hid hN
    clear hN hy
    go_wp2_with fail
    refine (HN2.out w2 HB2.out).mono ?_; rintro en w3 ⟨rfl, hb⟩
    have HB3 := Lib.hid (HB2.out.trans (hb.mono HB2.out.size))
    clear hb
    go_wp2_with fail
    go_ret
    exact ⟨by rw [HR.out, hd, HY.out]; simp, HB3.out⟩
  · have hd : (x.kind == 1) = false := by simpa using h1
    go_wp2_with fail
    go_ret
    exact ⟨by rw [HR.out, hd]; rfl, HB2.out⟩

set_option maxHeartbeats 1600000 in
set_option maxRecDepth 100000 in
theorem sums_any (w : World) (u : Pr.St) (h : PS w pb sb cap l u.i u.o u.b) (hg : Good l) :
    Calls Tryd.prog 75 #[.pointer (some ⟨pb, 0, none⟩)] w fun e w' => e = .returned (.bool (Pr.sums (l.map Pr.tk) u)) ∧ Below w.heap.size w w' := by
  obtain ⟨x, hx⟩ := h.at
  have HA : Hid (Calls Tryd.prog 23 #[.pointer (some ⟨pb, 0, none⟩)] w fun e w'' => e = .returned (.agg #[.int .i64 x.kind, .int .i64 x.pos, .string x.text, .int .i64 x.num]) ∧ Below w.heap.size w w'') := Lib.hid (ahead_any x w h hg hx)
  have HN : Hid (x.kind ≠ 0 → ∃ y : Tx.Sg, l[u.i + 1]? = some y ∧ ∀ w', Below w.heap.size w w' → Calls Tryd.prog 57 #[.pointer (some ⟨pb, 0, none⟩)] w' fun e w'' => e = .returned (.string y.text) ∧ Below w'.heap.size w' w'') := Lib.hid (fun h1 => by
    have hi := hg.more hx h1
    exact ⟨l[u.i + 1], List.getElem?_eq_getElem hi, fun w' hb => behind_any _ w' (h.below hb) hg (List.getElem?_eq_getElem hi)⟩)
  obtain ⟨r, hr⟩ : ∃ r, r = Pr.sums (l.map Pr.tk) u := ⟨_, rfl⟩
  rw [← hr]
  simp only [Pr.sums, Pr.sg_tk hx, Pr.tk] at hr
  have HR := Lib.hid hr
  clear h hg hr hx
  go_enter Tryd.func75, Tryd.ntmps75
  go_wp2_with fail
  refine (HA.out).mono ?_; rintro en w1 ⟨rfl, hb⟩
  have HB := Lib.hid hb
  clear hb
  by_cases h12 : x.kind = 1 ∨ x.kind = 2
  · obtain ⟨y, hy, hN⟩ := HN.out (by rcases h12 with h | h <;> rw [h] <;> decide)
    have HY : Hid (Pr.is (l.map Pr.tk) (u.i + 1) ⟨#[43]⟩ = (y.text.toList == [43]) ∧ Pr.is (l.map Pr.tk) (u.i + 1) ⟨#[45]⟩ = (y.text.toList == [45])) := Lib.hid ⟨by rw [Pr.is_tk hy]; rw [show (⟨#[43]⟩ : ByteArray).toList = [43] from Lib.toList_data _], by rw [Pr.is_tk hy]; rw [show (⟨#[45]⟩ : ByteArray).toList = [45] from Lib.toList_data _]⟩
    have HN2 := Lib.hid hN
    clear hN hy
    have hk : (x.kind == 1 || x.kind == 2) = true := by rcases h12 with h | h <;> rw [h] <;> rfl
    have HK := Lib.hid hk
    clear hk
    rcases h12 with h1 | h1
    · have hd : (x.kind == 1) = true := by simpa using h1
      go_wp2_with fail
      refine (HN2.out w1 HB.out).mono ?_; rintro en w3 ⟨rfl, hb⟩
      have HB3 := Lib.hid (HB.out.trans (hb.mono HB.out.size))
      clear hb
      rcases q1 : (y.text.toList == [43]) with _ | _
      · go_wp2_with fail
        refine (HN2.out w3 HB3.out).mono ?_; rintro en w4 ⟨rfl, hb⟩
        have HB4 := Lib.hid (HB3.out.trans (hb.mono HB3.out.size))
        clear hb
        go_wp2_with fail
        go_ret
        exact ⟨by rw [HR.out, HK.out, HY.out.1, HY.out.2, q1]; simp, HB4.out⟩
      · go_wp2_with fail
        go_ret
        exact ⟨by rw [HR.out, HK.out, HY.out.1, q1]; rfl, HB3.out⟩
    · have hd0 : (x.kind == 1) = false := by rw [h1]; rfl
      have hd : (x.kind == 2) = true := by simpa using h1
      go_wp2_with fail
      refine (HN2.out w1 HB.out).mono ?_; rintro en w3 ⟨rfl, hb⟩
      have HB3 := Lib.hid (HB.out.trans (hb.mono HB.out.size))
      clear hb
      rcases q1 : (y.text.toList == [43]) with _ | _
      · go_wp2_with fail
        refine (HN2.out w3 HB3.out).mono ?_; rintro en w4 ⟨rfl, hb⟩
        have HB4 := Lib.hid (HB3.out.trans (hb.mono HB3.out.size))
        clear hb
        go_wp2_with fail
        go_ret
        exact ⟨by rw [HR.out, HK.out, HY.out.1, HY.out.2, q1]; simp, HB4.out⟩
      · go_wp2_with fail
        go_ret
        exact ⟨by rw [HR.out, HK.out, HY.out.1, q1]; rfl, HB3.out⟩
  · have h1 : (x.kind == 1) = false := by simpa using fun h => h12 (.inl h)
    have h2 : (x.kind == 2) = false := by simpa using fun h => h12 (.inr h)
    go_wp2_with fail
    go_ret
    exact ⟨by rw [HR.out, h1, h2]; rfl, HB.out⟩
end
end Go.Proofs.YtlpnkllhpienhaaDoor
