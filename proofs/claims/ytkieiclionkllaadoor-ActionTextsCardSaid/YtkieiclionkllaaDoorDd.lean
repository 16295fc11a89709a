/-
  DERIVED. The walks of a part's reading: numbers, orders, sums; any part.
-/
import Derived.Test.YtkieiclionkllaaDoorDc
namespace Go.Proofs.YtkieiclionkllaaDoor
open Go.RowKit Go.Sort
open Ac

theorem rd_numb (p : Nat) (hp : 1 ≤ p ∧ p ≤ 8) (l : List UInt8) (a : Acn) : rd p (l, a) = ((cutAt l).2, setNum p a (numberOf (cutAt l).1)) := by
  have h : p = 1 ∨ p = 2 ∨ p = 3 ∨ p = 4 ∨ p = 5 ∨ p = 6 ∨ p = 7 ∨ p = 8 := by omega
  rcases h with rfl | rfl | rfl | rfl | rfl | rfl | rfl | rfl <;> rfl
set_option maxHeartbeats 1600000 in
set_option maxRecDepth 100000 in
theorem read_num (B R A p : Nat) (hp : 1 ≤ p ∧ p ≤ 8) (l : List UInt8) (a : Acn) (w : World) (h : Re B R A w l a) :
    Calls Tryd.prog 28 #[.int .u8 (p : Int), .pointer (some ⟨R, 0, none⟩), .pointer (some ⟨A, 0, none⟩)] w fun e w' => RePost B R A w p l a e w' := by
  have CN := Lib.hid (next_any R l w h.r h.gl)
  have H := Lib.hid h
  have CM := Lib.hid (number_any p A w hp)
  have HX : Hid (∀ w', Re B R A w' (cutAt l).2 (setNum p a (numberOf (cutAt l).1)) → Below B w w' → RePost B R A w p l a (.returned (.tuple #[])) w') := Lib.hid (fun w' h1 h2 => ⟨rfl, by rw [rd_numb p hp]; exact h1.r, by rw [rd_numb p hp]; exact h1.a, h2⟩)
  have HS : Hid (∀ w2, Re B R A w2 (cutAt l).2 a → Re B R A (w2.setCell ⟨A, atOf p, none⟩ (.int .i64 (numberOf (cutAt l).1))) (cutAt l).2 (setNum p a (numberOf (cutAt l).1)) ∧ Below B w2 (w2.setCell ⟨A, atOf p, none⟩ (.int .i64 (numberOf (cutAt l).1)))) :=
    Lib.hid (fun w2 h2 => h2.set (by rw [← num_set a p hp]; exact h2.a.set_ _ _) (grownBy_setC w2 ⟨A, atOf p, none⟩ _))
  have HF : Hid (∀ w2, Re B R A w2 (cutAt l).2 a → w2.cell? ⟨A, atOf p, none⟩ = some (.int .i64 (numOf p a)) ∧ w2.frozen? ⟨A, atOf p, none⟩ = false) :=
    Lib.hid (fun w2 h2 => ⟨(h2.a.cell _).trans (num_cell a p hp), h2.a.frozen _⟩)
  have HQ : Hid (∀ e w', NxPost w R l e w' → e = .returned (.string (bt (cutAt l).1)) ∧ Re B R A w' (cutAt l).2 a ∧ Below B w w' ∧ Calls Tryd.prog 37 #[.string (bt (cutAt l).1)] w' fun e w'' => e = .returned (.int .i64 (numberOf (cutAt l).1)) ∧ Below w'.heap.size w' w'') :=
    Lib.hid (fun e w' hn => ⟨hn.1, (H.out.next hn).1, (H.out.next hn).2, number_of _ (word_le H.out.r.2) w' (H.out.next hn).1.gl⟩)
  clear h
  generalize numberOf (cutAt l).1 = n at *
  generalize bt (cutAt l).1 = t at *
  generalize atOf p = q at *
  generalize numOf p a = m at *
  have hc : p = 1 ∨ p = 2 ∨ p = 3 ∨ p = 4 ∨ p = 5 ∨ p = 6 ∨ p = 7 ∨ p = 8 := by omega
  clear hp
  rcases hc with rfl | rfl | rfl | rfl | rfl | rfl | rfl | rfl
  all_goals
    go_enter Tryd.func28, Tryd.ntmps28
    go_wp2_with (first
      | (go_at_call 31; refine CM.out.mono ?_; rintro e w0 ⟨rfl, rfl⟩)
      | (go_at_call 27; refine CN.out.mono ?_; rintro e w1 hn; obtain ⟨rfl, h1, b1, hc⟩ := HQ.out _ _ hn; have H1 := Lib.hid h1; have B1 := Lib.hid b1; have CO := Lib.hid hc; clear hn h1 b1 hc)
      | (go_at_call 37; refine CO.out.mono ?_; rintro e w2 ⟨rfl, hb⟩; have h2 := H1.out.below hb; have H2 := Lib.hid h2.1; have B2 := Lib.hid h2.2; have hf := HF.out _ h2.1; obtain ⟨hf1, hf2⟩ := hf; clear hb h2))
    go_end0
    have h3 := HS.out _ H2.out
    exact HX.out _ h3.1 (B1.out.trans (B2.out.trans h3.2))
set_option maxHeartbeats 1600000 in
set_option maxRecDepth 100000 in
theorem read_order (B R A : Nat) (l : List UInt8) (a : Acn) (w : World) (h : Re B R A w l a) :
    Calls Tryd.prog 28 #[.int .u8 ((12 : Nat) : Int), .pointer (some ⟨R, 0, none⟩), .pointer (some ⟨A, 0, none⟩)] w fun e w' => RePost B R A w 12 l a e w' := by
  have H := Lib.hid h
  have CN : Hid (Calls Tryd.prog 27 #[.pointer (some ⟨R, 0, none⟩)] w.drew fun e w' => e = .returned (.string (bt (cutAt l).1)) ∧ Re B R A w' (cutAt l).2 a ∧ Below B w w') := Lib.hid (by
    have hr : Re B R A w.drew l a := ⟨⟨h.r.1.drewN 1, h.r.2⟩, h.a.drewN 1, h.ne, h.br, h.ba, h.b11, h.gl.of (fun _ _ => rfl) (Nat.le_refl _)⟩
    refine (next_any R l w.drew hr.r hr.gl).mono fun e w' hn => ⟨hn.1, (hr.next hn).1, ?_⟩
    have := (hr.next hn).2
    exact ⟨this.os, this.tape, this.output, this.size, this.block⟩)
  have hq : ((bt (cutAt l).1).toList == [60]) = decide ((cutAt l).1 = [60]) := bt_beq _ _
  have c4 : w.cell? ⟨4, 1, none⟩ = some (.string ⟨#[60]⟩) := h.gl.ords 1 (by omega)
  clear h
  by_cases he : (cutAt l).1 = [60]
  · have HE : Hid ((rd 12 (l, a)).1 = (cutAt l).2 ∧ (rd 12 (l, a)).2 = { a with op := 1 }) := Lib.hid ⟨rfl, by simp only [rd, if_pos he]⟩
    rw [decide_eq_true he] at hq
    clear he
    generalize bt (cutAt l).1 = t at *
    go_enter Tryd.func28, Tryd.ntmps28
    go_wp2_with fail
    go_region_held3 (fun w' => w'.cell? ⟨4, 1, none⟩ = some (.string ⟨#[60]⟩)) (first | exact c4 | exact f4) ((first | (go_at_call 27; (with_reducible refine CN.out.mono ?_); rintro e w1 ⟨rfl, h1, b1⟩; have H1 := Lib.hid h1; have B1 := Lib.hid b1; have f4 : w1.cell? ⟨4, 1, none⟩ = some (.string ⟨#[60]⟩) := h1.gl.ords 1 (by omega); clear h1 b1)))
    all_goals
      have c6 : w1.cell? ⟨A, 6, none⟩ = some (.int .i64 a.op) := H1.out.a.cell 6
      have f6 := H1.out.a.frozen 6
      go_wp2_with fail
      go_end0
      have h3 := H1.out.set (b := { a with op := 1 }) (H1.out.a.set_ 6 (.int .i64 1)) (grownBy_setC w1 ⟨A, 6, none⟩ _)
      exact ⟨rfl, by rw [HE.out.1]; exact h3.1.r, by rw [HE.out.2]; exact h3.1.a, B1.out.trans h3.2⟩
  · have HE : Hid ((rd 12 (l, a)).1 = (cutAt l).2 ∧ (rd 12 (l, a)).2 = a) := Lib.hid ⟨rfl, by simp only [rd, if_neg he]⟩
    rw [decide_eq_false he] at hq
    clear he
    generalize bt (cutAt l).1 = t at *
    go_enter Tryd.func28, Tryd.ntmps28
    go_wp2_with fail
    go_region_held3 (fun w' => w'.cell? ⟨4, 1, none⟩ = some (.string ⟨#[60]⟩)) (first | exact c4 | exact f4) ((first | (go_at_call 27; (with_reducible refine CN.out.mono ?_); rintro e w1 ⟨rfl, h1, b1⟩; have H1 := Lib.hid h1; have B1 := Lib.hid b1; have f4 : w1.cell? ⟨4, 1, none⟩ = some (.string ⟨#[60]⟩) := h1.gl.ords 1 (by omega); clear h1 b1)))
    all_goals
      go_wp2_with fail
      go_end0
      exact ⟨rfl, by rw [HE.out.1]; exact H1.out.r, by rw [HE.out.2]; exact H1.out.a, B1.out⟩
theorem Re.sum {B R A : Nat} {w w' : World} {l : List UInt8} {a : Acn} {e : Ending} (h : Re B R A w l a) (hn : SmPost w R l e w') : Re B R A w' (sumR l) a ∧ Below B w w' :=
  ⟨⟨hn.2.1, h.a.keep hn.2.2 h.ne, h.ne, h.br, h.ba, h.b11, h.gl.grown hn.2.2 (by have := h.b11; have := h.br; omega)⟩, below_of_grown hn.2.2 h.br (Nat.le_trans h.br (Nat.le_of_lt h.r.1.lt))⟩
theorem rd_more_eq (l : List UInt8) (a : Acn) : rd 11 (l, a) = if sumN l = 0 then (sumR l, { a with op := sumN l }) else ((cutAt (sumR l)).2, { a with op := sumN l, r := operandOf (cutAt (sumR l)).1 }) := by
  unfold sumN sumR
  simp only [rd]
  by_cases h1 : l.head? = some 43
  · simp [h1]
  · by_cases h2 : l.head? = some 45
    · simp [h2]
    · simp [h1, h2]
set_option maxHeartbeats 1600000 in
set_option maxRecDepth 100000 in
theorem read_more (B R A : Nat) (l : List UInt8) (a : Acn) (w : World) (h : Re B R A w l a) :
    Calls Tryd.prog 28 #[.int .u8 ((11 : Nat) : Int), .pointer (some ⟨R, 0, none⟩), .pointer (some ⟨A, 0, none⟩)] w fun e w' => RePost B R A w 11 l a e w' := by
  have CS := Lib.hid (sum_any R l w h.r h.gl (Nat.le_trans h.b11 h.br))
  have H := Lib.hid h
  have HE := Lib.hid (rd_more_eq l a)
  have hl2 : Hid ((sumR l).length ≤ 100000) := Lib.hid (by
    unfold sumR; split
    · exact Nat.le_trans (cut_len l).2 h.r.2
    · exact h.r.2)
  clear h
  have HQ : Hid (∀ e w', SmPost w R l e w' → e = .returned (.int .i64 (sumN l)) ∧ Re B R A w' (sumR l) a ∧ Below B w w') := Lib.hid (fun e w' hn => ⟨hn.1, (H.out.sum hn).1, (H.out.sum hn).2⟩)
  by_cases h0 : sumN l = 0
  · have HE2 : Hid (rd 11 (l, a) = (sumR l, { a with op := sumN l })) := Lib.hid (by rw [HE.out, if_pos h0])
    have d0 : (sumN l == 0) = true := by rw [beq_iff_eq]; exact h0
    clear h0 HE
    generalize sumN l = s at *
    go_enter Tryd.func28, Tryd.ntmps28
    go_wp2_with (go_at_call 36; refine CS.out.mono ?_; rintro e w1 hn; obtain ⟨rfl, h1, b1⟩ := HQ.out _ _ hn; have H1 := Lib.hid h1; have B1 := Lib.hid b1; have c6 : w1.cell? ⟨A, 6, none⟩ = some (.int .i64 a.op) := h1.a.cell 6; have f6 := h1.a.frozen 6; clear hn h1 b1)
    go_end0
    have h3 := H1.out.set (b := { a with op := s }) (H1.out.a.set_ 6 (.int .i64 s)) (grownBy_setC w1 ⟨A, 6, none⟩ _)
    exact ⟨rfl, by rw [HE2.out]; exact h3.1.r, by rw [HE2.out]; exact h3.1.a, B1.out.trans h3.2⟩
  · have HE2 : Hid (rd 11 (l, a) = ((cutAt (sumR l)).2, { a with op := sumN l, r := operandOf (cutAt (sumR l)).1 })) := Lib.hid (by rw [HE.out, if_neg h0])
    have d0 : (sumN l == 0) = false := by rw [beq_eq_false_iff_ne]; exact h0
    clear h0 HE
    generalize sumN l = s at *
    generalize sumR l = l2 at *
    go_enter Tryd.func28, Tryd.ntmps28
    go_upto_region 9 with (go_at_call 36; refine CS.out.mono ?_; rintro e w1 hn; obtain ⟨rfl, h1, b1⟩ := HQ.out _ _ hn; have H1 := Lib.hid h1; have B1 := Lib.hid b1; have c6 : w1.cell? ⟨A, 6, none⟩ = some (.int .i64 a.op) := h1.a.cell 6; have f6 := h1.a.frozen 6; clear hn h1 b1)
    have h3 := H1.out.set (b := { a with op := s }) (H1.out.a.set_ 6 (.int .i64 s)) (grownBy_setC w1 ⟨A, 6, none⟩ _)
    have H3 := Lib.hid h3.1
    have B3 := Lib.hid h3.2
    clear h3 c6 f6
    generalize w1.setCell ⟨A, 6, none⟩ (.int .i64 s) = w3 at H3 B3 ⊢
    have c6 : w3.cell? ⟨A, 6, none⟩ = some (.int .i64 s) := H3.out.a.cell 6
    have CN := Lib.hid (next_any R l2 w3 H3.out.r H3.out.gl)
    go_wp2_with (first
      | (go_at_call 27; refine CN.out.mono ?_; rintro e w4 hn; obtain rfl := hn.1; have h4 := H3.out.next hn; have H4 := Lib.hid h4.1; have B4 := Lib.hid h4.2; have CO := Lib.hid (operand_of (cutAt l2).1 (word_le hl2.out) w4 h4.1.gl); clear hn h4)
      | (go_at_call 35; refine CO.out.mono ?_; rintro e w5 ⟨rfl, hb⟩; have h5 := H4.out.below hb; have H5 := Lib.hid h5.1; have B5 := Lib.hid h5.2; clear hb h5)
      | ((with_reducible show wpList _ _ _ (Oper.mk _ (Op.store 23 _ _) _ _ _ _ :: _) _ _); refine wpList_store_part rfl 23 _ _ rfl A 9 25 ({ a with op := s } : Acn).cs.toList [.int .i64 (operandOf (cutAt l2).1).v, .int .i64 (operandOf (cutAt l2).1).n] rfl rfl H5.out.a size23 (by show 11 ≤ 12; decide) (oc_one _) ?_; intro w6 hk6 hg6; have h6 := H5.out.set (b := { a with op := s, r := operandOf (cutAt l2).1 }) hk6 hg6; have H6 := Lib.hid h6.1; have B6 := Lib.hid h6.2; clear hk6 hg6 h6))
    go_end0
    exact ⟨rfl, by rw [HE2.out]; exact H6.out.r, by rw [HE2.out]; exact H6.out.a, B1.out.trans (B3.out.trans (B4.out.trans (B5.out.trans B6.out)))⟩
theorem read_any (B R A p : Nat) (hp : p ≤ 13) (l : List UInt8) (a : Acn) (w : World) (h : Re B R A w l a) :
    Calls Tryd.prog 28 #[.int .u8 (p : Int), .pointer (some ⟨R, 0, none⟩), .pointer (some ⟨A, 0, none⟩)] w fun e w' => RePost B R A w p l a e w' := by
  have hc : p = 0 ∨ (1 ≤ p ∧ p ≤ 8) ∨ p = 9 ∨ p = 10 ∨ p = 11 ∨ p = 12 ∨ p = 13 := by omega
  rcases hc with rfl | h1 | rfl | rfl | rfl | rfl | rfl
  · exact read_none B R A l a w h
  · exact read_num B R A p h1 l a w h
  · exact read_left B R A l a w h
  · exact read_right B R A l a w h
  · exact read_more B R A l a w h
  · exact read_order B R A l a w h
  · exact read_sense B R A l a w h
end Go.Proofs.YtkieiclionkllaaDoor
