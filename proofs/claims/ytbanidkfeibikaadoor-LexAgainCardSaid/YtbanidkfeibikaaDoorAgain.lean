/-
  DERIVED. Plain: the texts of a text's signs, with a blank behind each, have the same signs.
-/
import Derived.Test.YtbanidkfeibikaaDoorAllsW
namespace Go.Proofs.YtbanidkfeibikaaDoor
namespace Tx

theorem run_stable (p : Int → Bool) (b : UInt8) (hb : p (b.toNat : Int) = false) (r : List UInt8) : ∀ l : List UInt8, run p (l.take (run p l) ++ b :: r) = run p l
  | [] => by simp [run, hb]
  | a :: l => by
    by_cases ha : p (a.toNat : Int) = true
    · simp only [run, ha, if_true, List.take_succ_cons, List.cons_append]; rw [run_stable p b hb r l]
    · simp only [run, ha, Bool.false_eq_true, if_false, List.take_zero, List.nil_append, hb]
theorem take_stable (l r : List UInt8) (b : UInt8) (n : Nat) (hn : n ≤ l.length) : (l.take n ++ b :: r).take n = l.take n := by
  rw [List.take_append_of_le_length (by rw [List.length_take]; omega), List.take_take, Nat.min_self]

def isKeyL (l : List UInt8) : Bool := kw.any fun x => l == x
structure Tk where
  kind : Int
  len : Nat
  num : Int
  err : Int
/-- The sign at a list's head. -/
def tokL : List UInt8 → Tk
  | [] => ⟨0, 0, 0, 0⟩
  | b :: l =>
    if ltr (b.toNat : Int) then
      if 16 < run wrd (b :: l) then ⟨0, 0, 0, 3⟩ else ⟨if isKeyL ((b :: l).take (run wrd (b :: l))) then 3 else 1, run wrd (b :: l), 0, 0⟩
    else if dgt (b.toNat : Int) then
      if 9 < run dgt (b :: l) then ⟨0, 0, 0, 3⟩ else ⟨2, run dgt (b :: l), val ((b :: l).take (run dgt (b :: l))), 0⟩
    else if mkl (b :: l) = 0 then ⟨0, 0, 0, 4⟩ else ⟨4, mkl (b :: l), 0, 0⟩

theorem wend_len (p : Int → Bool) (s : ByteArray) (k : Nat) : wend p s k = k + run p (s.data.toList.drop k) := rfl
theorem part_take (s : ByteArray) (k n : Nat) : (s.extract k (k + n)).data.toList = (s.data.toList.drop k).take n := by
  rw [part_list, show k + n - k = n by omega]

/-- The sign at a place hangs on what stands from there on. -/
theorem tok_list (s : ByteArray) (k : Nat) : tok s k = ⟨⟨(tokL (s.data.toList.drop k)).kind, k, s.extract k (k + (tokL (s.data.toList.drop k)).len), (tokL (s.data.toList.drop k)).num⟩, k + (tokL (s.data.toList.drop k)).len, (tokL (s.data.toList.drop k)).err⟩ := by
  have hbad : ∀ e, An.bad k e = ⟨⟨0, k, s.extract k (k + 0), 0⟩, k + 0, e⟩ := by
    intro e; unfold An.bad; rw [Nat.add_zero, cut_none]
  by_cases h : k < s.size
  · have hd := drop_at s k h
    cases hl : ltr (s[k].toNat : Int)
    · cases hg : dgt (s[k].toNat : Int)
      · rw [tok_mark s k h hl hg]
        unfold markA mrk
        rw [hd]
        simp only [tokL, hl, hg, Bool.false_eq_true, if_false]
        by_cases h0 : mkl (s[k] :: s.data.toList.drop (k + 1)) = 0
        · rw [if_pos h0, if_pos h0]; exact hbad 4
        · rw [if_neg h0, if_neg h0]; rfl
      · rw [tok_num s k h hl hg]
        unfold numA
        rw [wend_len, part_take, hd]
        simp only [tokL, hl, hg, Bool.false_eq_true, if_false, if_true]
        rw [show k + run dgt (s[k] :: s.data.toList.drop (k + 1)) - k = run dgt (s[k] :: s.data.toList.drop (k + 1)) by omega]
        by_cases h9 : 9 < run dgt (s[k] :: s.data.toList.drop (k + 1))
        · rw [if_pos h9, if_pos h9]; exact hbad 3
        · rw [if_neg h9, if_neg h9]; rfl
    · rw [tok_word s k h hl]
      unfold wordA isKey
      rw [wend_len, part_take, hd]
      simp only [tokL, hl, if_true]
      rw [show k + run wrd (s[k] :: s.data.toList.drop (k + 1)) - k = run wrd (s[k] :: s.data.toList.drop (k + 1)) by omega]
      by_cases h16 : 16 < run wrd (s[k] :: s.data.toList.drop (k + 1))
      · rw [if_pos h16, if_pos h16]; exact hbad 3
      · rw [if_neg h16, if_neg h16]; rfl
  · rw [tok_end s k h, drop_end s k (by omega)]
    exact hbad 0

theorem mkl_le (l : List UInt8) : mkl l ≤ l.length := by
  match l with
  | [] => simp [mkl]
  | [a] => simp only [mkl]; split <;> simp
  | a :: b :: l => simp only [mkl]; split; simp; split <;> simp
theorem tokL_le (l : List UInt8) : (tokL l).len ≤ l.length := by
  cases l with
  | nil => simp [tokL]
  | cons b l =>
    simp only [tokL]
    split
    · split
      · exact Nat.zero_le _
      · exact run_le wrd (b :: l)
    · split
      · split
        · exact Nat.zero_le _
        · exact run_le dgt (b :: l)
      · split
        · exact Nat.zero_le _
        · exact mkl_le _

theorem sk_zero (b : UInt8) (l : List UInt8) (h1 : blk (b.toNat : Int) = false) (h2 : b.toNat ≠ 47) : sk false (b :: l) = 0 := by
  simp only [sk, h1, Bool.false_eq_true, if_false]
  rw [if_neg (fun h => h2 h.1)]

/-- A sign's text, a blank behind it, is that sign again, and nothing is left behind ahead of it. -/
theorem tokL_again (l r : List UInt8) (he : (tokL l).err = 0) (hk : (tokL l).kind ≠ 0) :
    tokL (l.take (tokL l).len ++ 32 :: r) = tokL l ∧ sk false (l.take (tokL l).len ++ 32 :: r) = 0 := by
  cases l with
  | nil => exact absurd rfl hk
  | cons b l =>
    have hle := tokL_le (b :: l)
    by_cases hl : ltr (b.toNat : Int) = true
    · simp only [tokL, hl, if_true] at he hk hle ⊢
      by_cases h16 : 16 < run wrd (b :: l)
      · rw [if_pos h16] at he; exact absurd he (show ¬ (3 : Int) = 0 by decide)
      · rw [if_neg h16] at hle ⊢
        have hb : wrd (b.toNat : Int) = true := by unfold wrd; rw [hl]; rfl
        have hrun : run wrd (b :: l) = run wrd l + 1 := by simp only [run, hb, if_true]
        have e : (b :: l).take (run wrd (b :: l)) ++ 32 :: r = b :: (l.take (run wrd l) ++ 32 :: r) := by rw [hrun]; rfl
        have hs := run_stable wrd 32 (by rfl) r (b :: l)
        have ht := take_stable (b :: l) r 32 (run wrd (b :: l)) (run_le wrd (b :: l))
        show tokL ((b :: l).take (run wrd (b :: l)) ++ 32 :: r) = _ ∧ sk false ((b :: l).take (run wrd (b :: l)) ++ 32 :: r) = 0
        rw [e] at hs ht ⊢
        constructor
        · simp only [tokL, hl, if_true]
          rw [hs, ht, if_neg h16]
        · refine sk_zero _ _ ?_ ?_
          · unfold ltr at hl; unfold blk; simp at hl ⊢; omega
          · unfold ltr at hl; simp at hl; omega
    · have hl' : ltr (b.toNat : Int) = false := by simpa using hl
      by_cases hg : dgt (b.toNat : Int) = true
      · simp only [tokL, hl', hg, if_true, Bool.false_eq_true, if_false] at he hk hle ⊢
        by_cases h9 : 9 < run dgt (b :: l)
        · rw [if_pos h9] at he; exact absurd he (show ¬ (3 : Int) = 0 by decide)
        · rw [if_neg h9] at hle ⊢
          have hrun : run dgt (b :: l) = run dgt l + 1 := by simp only [run, hg, if_true]
          have e : (b :: l).take (run dgt (b :: l)) ++ 32 :: r = b :: (l.take (run dgt l) ++ 32 :: r) := by rw [hrun]; rfl
          have hs := run_stable dgt 32 (by rfl) r (b :: l)
          have ht := take_stable (b :: l) r 32 (run dgt (b :: l)) (run_le dgt (b :: l))
          show tokL ((b :: l).take (run dgt (b :: l)) ++ 32 :: r) = _ ∧ sk false ((b :: l).take (run dgt (b :: l)) ++ 32 :: r) = 0
          rw [e] at hs ht ⊢
          constructor
          · simp only [tokL, hl', hg, if_true, Bool.false_eq_true, if_false]
            rw [hs, ht, if_neg h9]
          · refine sk_zero _ _ ?_ ?_
            · unfold dgt at hg; unfold blk; simp at hg ⊢; omega
            · unfold dgt at hg; simp at hg; omega
      · have hg' : dgt (b.toNat : Int) = false := by simpa using hg
        simp only [tokL, hl', hg', Bool.false_eq_true, if_false] at he hk hle ⊢
        by_cases h0 : mkl (b :: l) = 0
        · rw [if_pos h0] at he; exact absurd he (show ¬ (4 : Int) = 0 by decide)
        · rw [if_neg h0] at hle ⊢
          show tokL ((b :: l).take (mkl (b :: l)) ++ 32 :: r) = _ ∧ sk false ((b :: l).take (mkl (b :: l)) ++ 32 :: r) = 0
          have key : ∃ t, (b :: l).take (mkl (b :: l)) = b :: t ∧ mkl (b :: (t ++ 32 :: r)) = mkl (b :: l) ∧ blk (b.toNat : Int) = false ∧ b.toNat ≠ 47 := by
            have hone : one b.toNat = true → blk (b.toNat : Int) = false ∧ b.toNat ≠ 47 := by
              intro h; unfold one at h; unfold blk; simp at h ⊢; omega
            have htwo : ∀ c : Int, two b.toNat c = true → blk (b.toNat : Int) = false ∧ b.toNat ≠ 47 := by
              intro c h; unfold two at h; unfold blk; simp at h ⊢; omega
            have h32 : two b.toNat ((32 : UInt8).toNat) = false := by
              unfold two; simp
            cases l with
            | nil =>
              by_cases h1 : one b.toNat = true
              · refine ⟨[], ?_, ?_, hone h1⟩
                · simp only [mkl, h1, if_true]; rfl
                · simp only [mkl, List.nil_append, h32, h1, Bool.false_eq_true, if_false, if_true]
              · simp only [mkl, h1, Bool.false_eq_true, if_false] at h0; exact absurd trivial h0
            | cons c l =>
              by_cases h2 : two b.toNat c.toNat = true
              · refine ⟨[c], ?_, ?_, htwo _ h2⟩
                · simp only [mkl, h2, if_true]; rfl
                · simp only [mkl, List.cons_append, h2, if_true]
              · by_cases h1 : one b.toNat = true
                · refine ⟨[], ?_, ?_, hone h1⟩
                  · simp only [mkl, h2, h1, Bool.false_eq_true, if_false, if_true]; rfl
                  · simp only [mkl, List.nil_append, h32, h1, h2, Bool.false_eq_true, if_false, if_true]
                · simp only [mkl, h2, h1, Bool.false_eq_true, if_false] at h0; exact absurd trivial h0
          obtain ⟨t, e, hm, hb, h47⟩ := key
          rw [e]
          constructor
          · rw [List.cons_append]
            simp only [tokL, hl', hg', Bool.false_eq_true, if_false]
            rw [hm, if_neg h0]
          · exact sk_zero _ _ hb h47
end Tx
end Go.Proofs.YtbanidkfeibikaaDoor
