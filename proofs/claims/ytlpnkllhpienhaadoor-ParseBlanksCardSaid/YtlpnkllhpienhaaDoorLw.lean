/-
  DERIVED. Plain: the texts of a text's signs, with blanks behind each and remarks ahead, have the same signs; what is read of them is the same. The walk of the law on blanks and remarks.
-/
import Derived.Test.YtlpnkllhpienhaaDoorSb
import Derived.Test.YtlpnkllhpienhaaDoorLv
import Derived.Test.YtlpnkllhpienhaaDoorRsG
import Derived.Test.YtlpnkllhpienhaaDoorAllW
import Derived.IntWalk
import Derived.Lib.SmallJoins
namespace Go.Proofs.YtlpnkllhpienhaaDoor
namespace Tx


theorem run_stable (p : Int → Bool) (b : UInt8) (hb : p (b.toNat : Int) = false) (r : List UInt8) : ∀ l : List UInt8, run p (l.take (run p l) ++ b :: r) = run p l
  | [] => by simp [run, hb]
  | a :: l => by
    by_cases ha : p (a.toNat : Int) = true
    · simp only [run, ha, if_true, List.take_succ_cons, List.cons_append]; rw [run_stable p b hb r l]
    · simp only [run, ha, Bool.false_eq_true, if_false, List.take_zero, List.nil_append, hb]
theorem take_stable (l r : List UInt8) (b : UInt8) (n : Nat) (hn : n ≤ l.length) : (l.take n ++ b :: r).take n = l.take n := by
  rw [List.take_append_of_le_length (by rw [List.length_take]; omega), List.take_take, Nat.min_self]

def isKeyL (l : List UInt8) : Bool := kw.any fun x => l == x
structure Tk where
  kind : Int
  len : Nat
  num : Int
  err : Int
/-- The sign at a list's head. -/
def tokL : List UInt8 → Tk
  | [] => ⟨0, 0, 0, 0⟩
  | b :: l =>
    if ltr (b.toNat : Int) then
      if 16 < run wrd (b :: l) then ⟨0, 0, 0, 3⟩ else ⟨if isKeyL ((b :: l).take (run wrd (b :: l))) then 3 else 1, run wrd (b :: l), 0, 0⟩
    else if dgt (b.toNat : Int) then
      if 9 < run dgt (b :: l) then ⟨0, 0, 0, 3⟩ else ⟨2, run dgt (b :: l), val ((b :: l).take (run dgt (b :: l))), 0⟩
    else if mkl (b :: l) = 0 then ⟨0, 0, 0, 4⟩ else ⟨4, mkl (b :: l), 0, 0⟩

theorem wend_len (p : Int → Bool) (s : ByteArray) (k : Nat) : wend p s k = k + run p (s.data.toList.drop k) := rfl
theorem part_take (s : ByteArray) (k n : Nat) : (s.extract k (k + n)).data.toList = (s.data.toList.drop k).take n := by
  rw [part_list, show k + n - k = n by omega]

/-- The sign at a place hangs on what stands from there on. -/
theorem tok_list (s : ByteArray) (k : Nat) : tok s k = ⟨⟨(tokL (s.data.toList.drop k)).kind, k, s.extract k (k + (tokL (s.data.toList.drop k)).len), (tokL (s.data.toList.drop k)).num⟩, k + (tokL (s.data.toList.drop k)).len, (tokL (s.data.toList.drop k)).err⟩ := by
  have hbad : ∀ e, An.bad k e = ⟨⟨0, k, s.extract k (k + 0), 0⟩, k + 0, e⟩ := by
    intro e; unfold An.bad; rw [Nat.add_zero, cut_none]
  by_cases h : k < s.size
  · have hd := drop_at s k h
    cases hl : ltr (s[k].toNat : Int)
    · cases hg : dgt (s[k].toNat : Int)
      · rw [tok_mark s k h hl hg]
        unfold markA mrk
        rw [hd]
        simp only [tokL, hl, hg, Bool.false_eq_true, if_false]
        by_cases h0 : mkl (s[k] :: s.data.toList.drop (k + 1)) = 0
        · rw [if_pos h0, if_pos h0]; exact hbad 4
        · rw [if_neg h0, if_neg h0]; rfl
      · rw [tok_num s k h hl hg]
        unfold numA
        rw [wend_len, part_take, hd]
        simp only [tokL, hl, hg, Bool.false_eq_true, if_false, if_true]
        rw [show k + run dgt (s[k] :: s.data.toList.drop (k + 1)) - k = run dgt (s[k] :: s.data.toList.drop (k + 1)) by omega]
        by_cases h9 : 9 < run dgt (s[k] :: s.data.toList.drop (k + 1))
        · rw [if_pos h9, if_pos h9]; exact hbad 3
        · rw [if_neg h9, if_neg h9]; rfl
    · rw [tok_word s k h hl]
      unfold wordA isKey
      rw [wend_len, part_take, hd]
      simp only [tokL, hl, if_true]
      rw [show k + run wrd (s[k] :: s.data.toList.drop (k + 1)) - k = run wrd (s[k] :: s.data.toList.drop (k + 1)) by omega]
      by_cases h16 : 16 < run wrd (s[k] :: s.data.toList.drop (k + 1))
      · rw [if_pos h16, if_pos h16]; exact hbad 3
      · rw [if_neg h16, if_neg h16]; rfl
  · rw [tok_end s k h, drop_end s k (by omega)]
    exact hbad 0

theorem mkl_le (l : List UInt8) : mkl l ≤ l.length := by
  match l with
  | [] => simp [mkl]
  | [a] => simp only [mkl]; split <;> simp
  | a :: b :: l => simp only [mkl]; split; simp; split <;> simp
theorem tokL_le (l : List UInt8) : (tokL l).len ≤ l.length := by
  cases l with
  | nil => simp [tokL]
  | cons b l =>
    simp only [tokL]
    split
    · split
      · exact Nat.zero_le _
      · exact run_le wrd (b :: l)
    · split
      · split
        · exact Nat.zero_le _
        · exact run_le dgt (b :: l)
      · split
        · exact Nat.zero_le _
        · exact mkl_le _

theorem sk_zero (b : UInt8) (l : List UInt8) (h1 : blk (b.toNat : Int) = false) (h2 : b.toNat ≠ 47) : sk false (b :: l) = 0 := by
  simp only [sk, h1, Bool.false_eq_true, if_false]
  rw [if_neg (fun h => h2 h.1)]

/-- A sign's text, a line end behind it, is that sign again, and nothing is left behind ahead of it. -/
theorem tokL_again (l r : List UInt8) (he : (tokL l).err = 0) (hk : (tokL l).kind ≠ 0) :
    tokL (l.take (tokL l).len ++ 10 :: r) = tokL l ∧ sk false (l.take (tokL l).len ++ 10 :: r) = 0 := by
  cases l with
  | nil => exact absurd rfl hk
  | cons b l =>
    have hle := tokL_le (b :: l)
    by_cases hl : ltr (b.toNat : Int) = true
    · simp only [tokL, hl, if_true] at he hk hle ⊢
      by_cases h16 : 16 < run wrd (b :: l)
      · rw [if_pos h16] at he; exact absurd he (show ¬ (3 : Int) = 0 by decide)
      · rw [if_neg h16] at hle ⊢
        have hb : wrd (b.toNat : Int) = true := by unfold wrd; rw [hl]; rfl
        have hrun : run wrd (b :: l) = run wrd l + 1 := by simp only [run, hb, if_true]
        have e : (b :: l).take (run wrd (b :: l)) ++ 10 :: r = b :: (l.take (run wrd l) ++ 10 :: r) := by rw [hrun]; rfl
        have hs := run_stable wrd 10 (by rfl) r (b :: l)
        have ht := take_stable (b :: l) r 10 (run wrd (b :: l)) (run_le wrd (b :: l))
        show tokL ((b :: l).take (run wrd (b :: l)) ++ 10 :: r) = _ ∧ sk false ((b :: l).take (run wrd (b :: l)) ++ 10 :: r) = 0
        rw [e] at hs ht ⊢
        constructor
        · simp only [tokL, hl, if_true]
          rw [hs, ht, if_neg h16]
        · refine sk_zero _ _ ?_ ?_
          · unfold ltr at hl; unfold blk; simp at hl ⊢; omega
          · unfold ltr at hl; simp at hl; omega
    · have hl' : ltr (b.toNat : Int) = false := by simpa using hl
      by_cases hg : dgt (b.toNat : Int) = true
      · simp only [tokL, hl', hg, if_true, Bool.false_eq_true, if_false] at he hk hle ⊢
        by_cases h9 : 9 < run dgt (b :: l)
        · rw [if_pos h9] at he; exact absurd he (show ¬ (3 : Int) = 0 by decide)
        · rw [if_neg h9] at hle ⊢
          have hrun : run dgt (b :: l) = run dgt l + 1 := by simp only [run, hg, if_true]
          have e : (b :: l).take (run dgt (b :: l)) ++ 10 :: r = b :: (l.take (run dgt l) ++ 10 :: r) := by rw [hrun]; rfl
          have hs := run_stable dgt 10 (by rfl) r (b :: l)
          have ht := take_stable (b :: l) r 10 (run dgt (b :: l)) (run_le dgt (b :: l))
          show tokL ((b :: l).take (run dgt (b :: l)) ++ 10 :: r) = _ ∧ sk false ((b :: l).take (run dgt (b :: l)) ++ 10 :: r) = 0
          rw [e] at hs ht ⊢
          constructor
          · simp only [tokL, hl', hg, if_true, Bool.false_eq_true, if_false]
            rw [hs, ht, if_neg h9]
          · refine sk_zero _ _ ?_ ?_
            · unfold dgt at hg; unfold blk; simp at hg ⊢; omega
            · unfold dgt at hg; simp at hg; omega
      · have hg' : dgt (b.toNat : Int) = false := by simpa using hg
        simp only [tokL, hl', hg', Bool.false_eq_true, if_false] at he hk hle ⊢
        by_cases h0 : mkl (b :: l) = 0
        · rw [if_pos h0] at he; exact absurd he (show ¬ (4 : Int) = 0 by decide)
        · rw [if_neg h0] at hle ⊢
          show tokL ((b :: l).take (mkl (b :: l)) ++ 10 :: r) = _ ∧ sk false ((b :: l).take (mkl (b :: l)) ++ 10 :: r) = 0
          have key : ∃ t, (b :: l).take (mkl (b :: l)) = b :: t ∧ mkl (b :: (t ++ 10 :: r)) = mkl (b :: l) ∧ blk (b.toNat : Int) = false ∧ b.toNat ≠ 47 := by
            have hone : one b.toNat = true → blk (b.toNat : Int) = false ∧ b.toNat ≠ 47 := by
              intro h; unfold one at h; unfold blk; simp at h ⊢; omega
            have htwo : ∀ c : Int, two b.toNat c = true → blk (b.toNat : Int) = false ∧ b.toNat ≠ 47 := by
              intro c h; unfold two at h; unfold blk; simp at h ⊢; omega
            have h10 : two b.toNat ((10 : UInt8).toNat) = false := by
              unfold two; simp
            cases l with
            | nil =>
              by_cases h1 : one b.toNat = true
              · refine ⟨[], ?_, ?_, hone h1⟩
                · simp only [mkl, h1, if_true]; rfl
                · simp only [mkl, List.nil_append, h10, h1, Bool.false_eq_true, if_false, if_true]
              · simp only [mkl, h1, Bool.false_eq_true, if_false] at h0; exact absurd trivial h0
            | cons c l =>
              by_cases h2 : two b.toNat c.toNat = true
              · refine ⟨[c], ?_, ?_, htwo _ h2⟩
                · simp only [mkl, h2, if_true]; rfl
                · simp only [mkl, List.cons_append, h2, if_true]
              · by_cases h1 : one b.toNat = true
                · refine ⟨[], ?_, ?_, hone h1⟩
                  · simp only [mkl, h2, h1, Bool.false_eq_true, if_false, if_true]; rfl
                  · simp only [mkl, List.nil_append, h10, h1, h2, Bool.false_eq_true, if_false, if_true]
                · simp only [mkl, h2, h1, Bool.false_eq_true, if_false] at h0; exact absurd trivial h0
          obtain ⟨t, e, hm, hb, h47⟩ := key
          rw [e]
          constructor
          · rw [List.cons_append]
            simp only [tokL, hl', hg', Bool.false_eq_true, if_false]
            rw [hm, if_neg h0]
          · exact sk_zero _ _ hb h47


/-- These are the signs from i on, up to the End. -/
def Chain (s : ByteArray) : Nat → List Sg → Prop
  | _, [] => False
  | i, a :: l => (nx s i).err = 0 ∧ (nx s i).sg = a ∧ ((a.kind = 0 ∧ l = []) ∨ (a.kind ≠ 0 ∧ Chain s (nx s i).stop l))

theorem go_chain : ∀ (f : Nat) (s : ByteArray) (i : Nat) (acc : List Sg), i ≤ s.size → s.size < i + f → (go f s i acc).2.2 = 0 →
    ∃ l, (go f s i acc).1 = acc ++ l ∧ Chain s i l ∧ (go f s i acc).2.1 = 0
  | 0, s, i, acc, hi, hf, _ => absurd hf (by omega)
  | f + 1, s, i, acc, hi, hf, he => by
    unfold go at he ⊢
    by_cases h0 : (nx s i).err = 0
    · rw [if_pos h0] at he ⊢
      by_cases hk : (nx s i).sg.kind = 0
      · rw [if_pos hk]
        exact ⟨[(nx s i).sg], rfl, ⟨h0, rfl, .inl ⟨hk, rfl⟩⟩, rfl⟩
      · rw [if_neg hk] at he ⊢
        have h1 := nx_adv s i h0 hk
        have h2 := nx_stop_le s i hi
        obtain ⟨l, e1, e2, e3⟩ := go_chain f s _ _ h2 (by omega) he
        exact ⟨(nx s i).sg :: l, by rw [e1, List.append_assoc]; rfl, ⟨h0, rfl, .inr ⟨hk, e2⟩⟩, e3⟩
    · rw [if_neg h0] at he; exact absurd he h0

theorem chain_go : ∀ (f : Nat) (s : ByteArray) (i : Nat) (acc l : List Sg), i ≤ s.size → s.size < i + f → Chain s i l → go f s i acc = (acc ++ l, 0, 0)
  | 0, s, i, acc, l, hi, hf, _ => absurd hf (by omega)
  | f + 1, s, i, acc, [], hi, hf, h => h.elim
  | f + 1, s, i, acc, a :: l, hi, hf, h => by
    obtain ⟨h0, rfl, h1⟩ := h
    unfold go
    rw [if_pos h0]
    rcases h1 with ⟨hk, rfl⟩ | ⟨hk, hc⟩
    · rw [if_pos hk]
    · rw [if_neg hk]
      have h1 := nx_adv s i h0 hk
      have h2 := nx_stop_le s i hi
      rw [chain_go f s _ _ l h2 (by omega) hc, List.append_assoc]
      rfl

/-- The texts of signs, a blank behind each. -/
def joined : List Sg → List UInt8
  | [] => []
  | a :: l => a.text.data.toList ++ 10 :: 9 :: joined l
/-- What is asked of a sign. -/
def key (g : Sg) : Int × List UInt8 × Int := (g.kind, g.text.data.toList, g.num)

theorem nx_list (s : ByteArray) (i : Nat) : nx s i = ⟨⟨(tokL (s.data.toList.drop (skp s i))).kind, skp s i, s.extract (skp s i) (skp s i + (tokL (s.data.toList.drop (skp s i))).len), (tokL (s.data.toList.drop (skp s i))).num⟩, skp s i + (tokL (s.data.toList.drop (skp s i))).len, (tokL (s.data.toList.drop (skp s i))).err⟩ := tok_list s (skp s i)

theorem tokL_end (l : List UInt8) (he : (tokL l).err = 0) (hk : (tokL l).kind = 0) : l = [] := by
  cases l with
  | nil => rfl
  | cons b l =>
    exfalso
    simp only [tokL] at he hk
    split at hk
    · rename_i hl
      rw [if_pos hl] at he
      split at hk
      · rename_i h; rw [if_pos h] at he; exact absurd he (show ¬ (3 : Int) = 0 by decide)
      · dsimp only at hk; split at hk <;> exact absurd hk (by decide)
    · rename_i hl
      rw [if_neg hl] at he
      split at hk
      · rename_i hg
        rw [if_pos hg] at he
        split at hk
        · rename_i h; rw [if_pos h] at he; exact absurd he (show ¬ (3 : Int) = 0 by decide)
        · exact absurd hk (show ¬ (2 : Int) = 0 by decide)
      · rename_i hg
        rw [if_neg hg] at he
        split at hk
        · rename_i h; rw [if_pos h] at he; exact absurd he (show ¬ (4 : Int) = 0 by decide)
        · exact absurd hk (show ¬ (4 : Int) = 0 by decide)

/-- A blank ahead is left behind. -/
theorem nx_blank (t : ByteArray) (j : Nat) (b : UInt8) (hb : blk (b.toNat : Int) = true) (l : List UInt8) (h : t.data.toList.drop j = b :: l) : nx t j = nx t (j + 1) ∧ t.data.toList.drop (j + 1) = l ∧ j < t.size := by
  have hj : j < t.size := by
    rcases Nat.lt_or_ge j t.size with h1 | h1
    · exact h1
    · rw [drop_end t j h1] at h; cases h
  have e := drop_at t j hj
  rw [h] at e
  injection e with e1 e2
  refine ⟨?_, e2.symm, hj⟩
  unfold nx
  rw [skp_blank t j hj (by rw [← e1]; exact hb)]
theorem nx_two (t : ByteArray) (j : Nat) (l : List UInt8) (h : t.data.toList.drop j = 10 :: 9 :: l) : nx t j = nx t (j + 2) ∧ t.data.toList.drop (j + 2) = l := by
  obtain ⟨e1, e2, _⟩ := nx_blank t j 10 (by rfl) _ h
  obtain ⟨e3, e4, _⟩ := nx_blank t (j + 1) 9 (by rfl) _ e2
  exact ⟨e1.trans e3, e4⟩

theorem again_chain : ∀ (l : List Sg) (s : ByteArray) (i : Nat), Chain s i l → ∀ (t : ByteArray) (j : Nat), t.data.toList.drop j = joined l → ∃ m, Chain t j m ∧ m.map key = l.map key
  | [], s, i, h => h.elim
  | a :: l, s, i, h => by
    obtain ⟨h0, rfl, h1⟩ := h
    intro t j hj
    have hs := nx_list s i
    generalize hD : s.data.toList.drop (skp s i) = D at hs
    have hpt := part_take s (skp s i) (tokL D).len
    rw [hD] at hpt
    have htext : (nx s i).sg.text.data.toList = D.take (tokL D).len := by rw [hs]; exact hpt
    have hkind : (nx s i).sg.kind = (tokL D).kind := by rw [hs]
    have hnum : (nx s i).sg.num = (tokL D).num := by rw [hs]
    have herr : (tokL D).err = 0 := by rw [hs] at h0; exact h0
    rcases h1 with ⟨hk, rfl⟩ | ⟨hk, hc⟩
    · have hDe : D = [] := tokL_end D herr (by rw [← hkind]; exact hk)
      have ht0 : (nx s i).sg.text.data.toList = [] := by rw [htext, hDe]; rfl
      have hj' : t.data.toList.drop j = 10 :: 9 :: [] := by rw [hj]; show _ ++ 10 :: 9 :: joined [] = _; rw [ht0]; rfl
      obtain ⟨e1, e2⟩ := nx_two t j [] hj'
      have hsz : t.size ≤ j + 2 := by
        have := congrArg List.length e2
        rw [List.length_drop, len_eq] at this
        simp at this; omega
      have hsk : skp t (j + 2) = j + 2 := skp_end t (j + 2) hsz
      have hnx : nx t j = An.bad (j + 2) 0 := by rw [e1]; unfold nx; rw [hsk, tok_end t (j + 2) (by omega)]
      refine ⟨[(nx t j).sg], ⟨by rw [hnx]; rfl, rfl, .inl ⟨by rw [hnx]; rfl, rfl⟩⟩, ?_⟩
      simp only [List.map_cons, List.map_nil]
      unfold key
      rw [hk, ht0, hnum, hDe, hnx]
      rfl
    · have hk' : (tokL D).kind ≠ 0 := by rw [← hkind]; exact hk
      obtain ⟨g1, g2⟩ := tokL_again D (9 :: joined l) herr hk'
      have hj' : t.data.toList.drop j = D.take (tokL D).len ++ 10 :: 9 :: joined l := by rw [hj]; show _ ++ 10 :: 9 :: joined l = _; rw [htext]
      rw [← hj'] at g1 g2
      have hsk : skp t j = j := by unfold skp; rw [g2]; rfl
      have ht := nx_list t j
      rw [hsk, g1] at ht
      have hlen := tokL_le D
      have hdrop : t.data.toList.drop (j + (tokL D).len) = 10 :: 9 :: joined l := by
        rw [← List.drop_drop, hj', List.drop_left' (by rw [List.length_take]; omega)]
      obtain ⟨e1, e2⟩ := nx_two t (j + (tokL D).len) (joined l) hdrop
      obtain ⟨m, c1, c2⟩ := again_chain l s _ hc t (j + (tokL D).len + 2) e2
      have c1' : Chain t (j + (tokL D).len) m := by
        cases m with
        | nil => exact c1.elim
        | cons b m =>
          obtain ⟨q0, q1, q2⟩ := c1
          exact ⟨by rw [e1]; exact q0, by rw [e1]; exact q1, by rw [e1]; exact q2⟩
      refine ⟨(nx t j).sg :: m, ⟨by rw [ht]; exact herr, rfl, .inr ⟨by rw [ht]; exact hk', by rw [ht]; exact c1'⟩⟩, ?_⟩
      simp only [List.map_cons]
      rw [c2]
      congr 1
      unfold key
      rw [hkind, htext, hnum]
      have p1 : (nx t j).sg.text.data.toList = D.take (tokL D).len := by
        rw [ht]
        show (t.extract j (j + (tokL D).len)).data.toList = _
        rw [part_take, hj', List.take_left' (by rw [List.length_take]; omega)]
      rw [p1]
      have p2 : (nx t j).sg.kind = (tokL D).kind := by rw [ht]
      have p3 : (nx t j).sg.num = (tokL D).num := by rw [ht]
      rw [p2, p3]


/-- Behind the sign ahead of the k-th. -/
def lastAt : Nat → List Sg → Nat → Nat
  | st, _, 0 => st
  | st, [], _ + 1 => st
  | _, a :: l, k + 1 => lastAt (a.pos + a.text.size) l k

theorem lastAt_zero (st : Nat) (l : List Sg) : lastAt st l 0 = st := by cases l <;> rfl
theorem lastAt_succ : ∀ (l : List Sg) (st k : Nat) (hk : k < l.length), lastAt st l (k + 1) = l[k].pos + l[k].text.size
  | [], _, k, hk => absurd hk (by simp)
  | a :: l, st, 0, _ => by show lastAt _ l 0 = _; rw [lastAt_zero]; rfl
  | a :: l, st, k + 1, hk => by
    show lastAt _ l (k + 1) = _
    rw [lastAt_succ l _ k (by simpa using hk)]
    rfl

theorem nx_shape (s : ByteArray) (i : Nat) (hi : i ≤ s.size) :
    i ≤ (nx s i).sg.pos ∧ (nx s i).stop = (nx s i).sg.pos + (nx s i).sg.text.size ∧ (nx s i).stop ≤ s.size ∧ s.extract (nx s i).sg.pos ((nx s i).sg.pos + (nx s i).sg.text.size) = (nx s i).sg.text := by
  have h := nx_list s i
  have hle := tokL_le (s.data.toList.drop (skp s i))
  have hk := skp_le s i hi
  rw [List.length_drop, len_eq] at hle
  have hsz : (s.extract (skp s i) (skp s i + (tokL (s.data.toList.drop (skp s i))).len)).size = (tokL (s.data.toList.drop (skp s i))).len := by
    rw [part_size _ _ _ (by omega)]; omega
  rw [h]
  refine ⟨skp_ge s i, ?_, ?_, ?_⟩
  · show _ = _ + ByteArray.size _; rw [hsz]
  · show skp s i + _ ≤ _; omega
  · show s.extract _ (_ + ByteArray.size _) = _; rw [hsz]

theorem seg : ∀ (l : List Sg) (s : ByteArray) (i : Nat), Chain s i l → i ≤ s.size → ∀ (k : Nat) (hk : k < l.length),
    lastAt i l k ≤ l[k].pos ∧ l[k].pos + l[k].text.size ≤ s.size ∧ s.extract l[k].pos (l[k].pos + l[k].text.size) = l[k].text
  | [], s, i, h => h.elim
  | a :: l, s, i, h => by
    obtain ⟨h0, rfl, h1⟩ := h
    intro hi k hk
    obtain ⟨n1, n2, n3, n4⟩ := nx_shape s i hi
    match k, hk with
    | 0, _ =>
      rw [lastAt_zero]
      exact ⟨n1, by rw [n2] at n3; exact n3, n4⟩
    | k + 1, hk =>
      rcases h1 with ⟨_, rfl⟩ | ⟨_, hc⟩
      · simp at hk
      · have := seg l s _ hc n3 k (by simpa using hk)
        rw [n2] at this
        exact this

theorem joined_append : ∀ (a b : List Sg), joined (a ++ b) = joined a ++ joined b
  | [], b => rfl
  | x :: a, b => by
    show x.text.data.toList ++ 10 :: 9 :: joined (a ++ b) = (x.text.data.toList ++ 10 :: 9 :: joined a) ++ joined b
    rw [joined_append a b, List.append_assoc]; rfl
theorem joined_take (l : List Sg) (k : Nat) (hk : k < l.length) : joined (l.take (k + 1)) = joined (l.take k) ++ l[k].text.data.toList ++ [10, 9] := by
  rw [List.take_succ_eq_append_getElem hk, joined_append]
  show _ ++ (_ ++ 10 :: 9 :: joined []) = _
  rw [← List.append_assoc]; rfl
theorem joined_len (l : List Sg) (s : ByteArray) (h : Chain s 0 l) : ∀ k, k ≤ l.length → (joined (l.take k)).length ≤ lastAt 0 l k + 2 * k
  | 0, _ => by simp [joined]
  | k + 1, hk => by
    have ih := joined_len l s h k (by omega)
    have hs := seg l s 0 h (Nat.zero_le _) k (by omega)
    rw [joined_take l k (by omega), lastAt_succ l 0 k (by omega), List.length_append, List.length_append, len_eq]
    simp only [List.length_cons, List.length_nil]
    omega
theorem last_le (l : List Sg) (s : ByteArray) (h : Chain s 0 l) : ∀ k, k ≤ l.length → lastAt 0 l k ≤ s.size
  | 0, _ => by rw [lastAt_zero]; exact Nat.zero_le _
  | k + 1, hk => by
    have hs := seg l s 0 h (Nat.zero_le _) k (by omega)
    rw [lastAt_succ l 0 k (by omega)]
    exact hs.2.1

theorem go_err : ∀ (f : Nat) (s : ByteArray) (i : Nat) (acc : List Sg), (go f s i acc).2.2 ≠ 0 → (go f s i acc).1 = []
  | 0, s, i, acc, h => absurd rfl h
  | f + 1, s, i, acc, h => by
    unfold go at h ⊢
    by_cases h0 : (nx s i).err = 0
    · rw [if_pos h0] at h ⊢
      by_cases hk : (nx s i).sg.kind = 0
      · rw [if_pos hk] at h; exact absurd rfl h
      · rw [if_neg hk] at h ⊢; exact go_err f s _ _ h
    · rw [if_neg h0]
theorem alls_err (s : ByteArray) (h : (alls s).2.2 ≠ 0) : (alls s).1 = [] := by
  unfold alls at h ⊢
  by_cases hl : 65536 < s.size
  · rw [if_pos hl]
  · rw [if_neg hl] at h ⊢; exact go_err _ _ _ _ h
theorem alls_chain (s : ByteArray) (h : (alls s).2.2 = 0) : Chain s 0 (alls s).1 := by
  unfold alls at h ⊢
  by_cases hl : 65536 < s.size
  · rw [if_pos hl] at h; exact absurd h (show ¬ (3 : Int) = 0 by decide)
  · rw [if_neg hl] at h ⊢
    obtain ⟨l, e1, e2, _⟩ := go_chain (s.size + 1) s 0 [] (Nat.zero_le _) (by omega) h
    rw [e1]; exact e2
theorem alls_again (s t : ByteArray) (h : (alls s).2.2 = 0) (ht : t.data.toList = joined (alls s).1) (hz : t.size ≤ 65536) : (alls t).2.2 = 0 ∧ (alls t).1.map key = (alls s).1.map key := by
  obtain ⟨m, c, e⟩ := again_chain _ s 0 (alls_chain s h) t 0 (by rw [List.drop_zero]; exact ht)
  have : alls t = (m, 0, 0) := by
    unfold alls
    rw [if_neg (by omega), chain_go (t.size + 1) t 0 [] m (Nat.zero_le _) (by omega) c]
    rfl
  rw [this]
  exact ⟨rfl, e⟩

/-- What stands ahead: so many remarks. -/
def rem : List UInt8 := [47, 47, 32, 109, 111, 114, 101, 10, 32]
def pre : Nat → List UInt8
  | 0 => []
  | n + 1 => pre n ++ rem
theorem pre_comm : ∀ n, pre n ++ rem = rem ++ pre n
  | 0 => by simp [pre]
  | n + 1 => by rw [pre, ← List.append_assoc, ← pre_comm n]
theorem pre_len : ∀ n, (pre n).length = 9 * n
  | 0 => rfl
  | n + 1 => by rw [pre, List.length_append, pre_len n]; simp [rem]; omega
theorem sk_rem (r : List UInt8) : sk false (rem ++ r) = 9 + sk false r := by
  simp [rem, sk, blk, inl]; omega
theorem nx_pre : ∀ (n : Nat) (t : ByteArray) (j : Nat) (r : List UInt8), t.data.toList.drop j = pre n ++ r → nx t j = nx t (j + 9 * n) ∧ t.data.toList.drop (j + 9 * n) = r
  | 0, t, j, r, h => ⟨rfl, h⟩
  | n + 1, t, j, r, h => by
    rw [pre, pre_comm, List.append_assoc] at h
    have hd : t.data.toList.drop (j + 9) = pre n ++ r := by
      rw [← List.drop_drop, h, List.drop_left' (by simp [rem])]
    have hs : skp t j = skp t (j + 9) := by
      unfold skp
      rw [h, hd, sk_rem]; omega
    obtain ⟨e1, e2⟩ := nx_pre n t (j + 9) r hd
    rw [show j + 9 + 9 * n = j + 9 * (n + 1) by omega] at e1 e2
    exact ⟨by rw [← e1]; unfold nx; rw [hs], e2⟩
theorem alls_blank (s t : ByteArray) (n : Nat) (h : (alls s).2.2 = 0) (ht : t.data.toList = pre n ++ joined (alls s).1) (hz : t.size ≤ 65536) : (alls t).2.2 = 0 ∧ (alls t).1.map key = (alls s).1.map key := by
  obtain ⟨e1, e2⟩ := nx_pre n t 0 (joined (alls s).1) (by rw [List.drop_zero]; exact ht)
  obtain ⟨m, c, e⟩ := again_chain _ s 0 (alls_chain s h) t (0 + 9 * n) e2
  have c1 : Chain t 0 m := by
    cases m with
    | nil => exact c.elim
    | cons b m =>
      obtain ⟨q0, q1, q2⟩ := c
      exact ⟨by rw [e1]; exact q0, by rw [e1]; exact q1, by rw [e1]; exact q2⟩
  have : alls t = (m, 0, 0) := by
    unfold alls
    rw [if_neg (by omega), chain_go (t.size + 1) t 0 [] m (Nat.zero_le _) (by omega) c1]
    rfl
  rw [this]
  exact ⟨rfl, e⟩
end Tx
theorem tk_key (x : Tx.Sg) : Pr.tk x = (fun k : Int × List UInt8 × Int => (⟨k.1, ⟨k.2.1.toArray⟩, k.2.2⟩ : Pr.Tk)) (Tx.key x) := rfl
theorem toks_eq {l m : List Tx.Sg} (h : l.map Tx.key = m.map Tx.key) : l.map Pr.tk = m.map Pr.tk := by
  have e : ∀ l : List Tx.Sg, l.map Pr.tk = (l.map Tx.key).map (fun k : Int × List UInt8 × Int => (⟨k.1, ⟨k.2.1.toArray⟩, k.2.2⟩ : Pr.Tk)) := fun l => by
    rw [List.map_map]; rfl
  rw [e l, e m, h]
theorem rd_blank (s t : ByteArray) (n : Nat) (h : (Tx.alls s).2.2 = 0) (ht : t.data.toList = Tx.pre n ++ Tx.joined (Tx.alls s).1) (hz : t.size ≤ 65536) : Pr.rd t = Pr.rd s := by
  obtain ⟨h1, h2⟩ := Tx.alls_blank s t n h ht hz
  unfold Pr.rd
  rw [if_pos h1, if_pos h, toks_eq h2]
end Go.Proofs.YtlpnkllhpienhaaDoor

namespace Go.Proofs.YtlpnkllhpienhaaDoor
open Go.RowKit Go.Sort

theorem go_len : ∀ (f : Nat) (s : ByteArray) (i : Nat) (acc : List Tx.Sg), acc.length ≤ i → i ≤ s.size → (Tx.go f s i acc).1.length ≤ s.size + 1
  | 0, s, i, acc, h, hi => by unfold Tx.go; show acc.length ≤ _; omega
  | f + 1, s, i, acc, h, hi => by
    unfold Tx.go
    split
    · rename_i he
      split
      · show (acc ++ [_]).length ≤ _; simp; omega
      · rename_i hk
        have h1 := Tx.nx_adv s i he hk
        have h2 := Tx.nx_stop_le s i hi
        exact go_len f s _ _ (by simp; omega) h2
    · simp
theorem alls_len (s : ByteArray) : (Tx.alls s).1.length ≤ s.size + 1 := by
  unfold Tx.alls; split
  · simp
  · exact go_len _ s 0 [] (Nat.zero_le _) (Nat.zero_le _)
/-- The k-th sign's text of a row of one's own. -/
theorem own_text {w : World} {B : Nat} {T : TypeId} {l : List Tx.Sg} {g cap : Nat} (h : w.ownsRow B T 4 (.slice (some ⟨g, 0, none⟩) l.length cap) l.length (l.flatMap Tx.cells)) (k : Nat) (hk : k < l.length) :
    w.cell? ⟨g, k * 4 + 2, none⟩ = some (.string l[k].text) := by
  rw [h.cellAt (k * 4 + 2) (by omega)]; exact Tx.cells_at l k hk 2 (by decide)

set_option maxHeartbeats 3200000 in
set_option maxRecDepth 100000 in
theorem law_any (s : ByteArray) (n : Int) (w : World) (h0 : 0 ≤ n) (h1 : n < 256) (hg : Gl w) :
    Calls Tryd.prog 3 #[.string s, .int .u8 n] w fun e w' => e = .returned (.bool true) ∧ Below w.heap.size w w' := by
  have HG := Lib.hid hg
  clear hg
  by_cases hl : 4000 < s.size
  · go_enter Tryd.func3, Tryd.ntmps3
    go_wp2_with (go_at_call 4; refine (lives_any _ HG.out).mono ?_; rintro e w' ⟨rfl, hb⟩)
    go_ret
    exact ⟨rfl, by assumption⟩
  · have h5 : s.size ≤ 4000 := by omega
    have hn1 := fun w => refAll_any s w (by omega)
    unfold AllPost at hn1
    have hlen := alls_len s
    have hcha := Tx.alls_chain s
    have hrd := fun t => rd_blank s t
    obtain ⟨l, hll⟩ : ∃ l, l = (Tx.alls s).1 := ⟨_, rfl⟩
    obtain ⟨p, hp⟩ : ∃ p, p = (Tx.alls s).2.1 := ⟨_, rfl⟩
    obtain ⟨er, her⟩ : ∃ er, er = (Tx.alls s).2.2 := ⟨_, rfl⟩
    rw [← hll, ← hp, ← her] at hn1
    rw [← hll] at hlen
    rw [← hll, ← her] at hcha
    have hrd' : ∀ (t : ByteArray) (m : Nat), er = 0 → t.data.toList = Tx.pre m ++ Tx.joined l → t.size ≤ 65536 → Pr.rd t = Pr.rd s := by
      intro t m; rw [her, hll]; exact hrd t m
    clear hrd hll hp her
    have HN1 := Lib.hid hn1
    have hlen1 : l.length ≤ 4001 := by omega
    clear hn1 hlen hl
    by_cases he : er = 0
    · subst he
      have HC := Lib.hid (hcha rfl)
      have HA := Lib.hid (fun t m => hrd' t m rfl)
      clear hcha hrd'
      go_enter Tryd.func3, Tryd.ntmps3
      go_wp2_with fail
      refine (HN1.out _).mono ?_; rintro e w1 ⟨v1, rfl, ho1, hb1⟩
      obtain ⟨A1, c1, rfl⟩ := own_shape ho1
      have HO1 := Lib.hid ho1
      have HB1 := Lib.hid hb1
      clear ho1 hb1
      obtain ⟨R, hR⟩ : ∃ R : Nat, (R : Int) = n % 20 := ⟨(n % 20).toNat, by omega⟩
      have hR20 : R < 20 := by omega
      go_wp2_with fail
      go_loopw [8, 9] (fun t i wr => ∃ (k : Nat) (tx : ByteArray), k ≤ R ∧ i = .int .i64 k ∧ t = .string tx ∧ Hid (tx.data.toList = Tx.pre k) ∧ Hid (wr.ownsRow w.heap.size 28 4 (.slice A1 l.length c1) l.length (l.flatMap Tx.cells)) ∧ Hid (Below w.heap.size w wr)) (fun _ i _ => R - (Lib.intOf i).toNat)
      case atStart => exact ⟨0, ByteArray.empty, Nat.zero_le _, rfl, rfl, Lib.hid rfl, HO1, HB1⟩
      case round =>
        obtain ⟨k, tx, hk, rfl, rfl, HTX, HO, HB⟩ := hrel
        have htx : tx.size = 9 * k := by
          have := Tx.pre_len k
          rw [← HTX.out, Tx.len_eq] at this
          exact this
        by_cases hlt : k < R
        · have hc : ((k : Int) < n % 20) := by omega
          go_wp2_with fail
          go_roundw
          case rel => exact ⟨k + 1, tx ++ ⟨#[47, 47, 32, 109, 111, 114, 101, 10, 32]⟩, by omega, by go_num, rfl, Lib.hid (by rw [show Tx.pre (k + 1) = Tx.pre k ++ Tx.rem from rfl, ← HTX.out]; simp [Tx.rem]), Lib.hid HO.out, Lib.hid HB.out⟩
          case measure => simp [Lib.intOf]; omega
        · obtain rfl : k = R := by omega
          have hc : ¬ ((k : Int) < n % 20) := by omega
          have HPR := Lib.hid HTX.out
          have HK20 : Hid (k < 20) := Lib.hid hR20
          clear HTX htx
          go_wp2_with fail
          go_loopw [8, 10] (fun t i wz => ∃ (j : Nat) (ty : ByteArray), j ≤ l.length ∧ i = .int .i64 j ∧ t = .string ty ∧ Hid (ty.data.toList = Tx.pre k ++ Tx.joined (l.take j)) ∧ Hid (wz.ownsRow w.heap.size 28 4 (.slice A1 l.length c1) l.length (l.flatMap Tx.cells)) ∧ Hid (Below w.heap.size w wz)) (fun _ i _ => l.length - (Lib.intOf i).toNat)
          case atStart => exact ⟨0, tx, Nat.zero_le _, rfl, rfl, Lib.hid (by rw [HPR.out]; simp [Tx.joined]), HO, HB⟩
          case round =>
            clear HO HB
            obtain ⟨j, ty, hj, rfl, rfl, HTY, HO, HB⟩ := hrel
            have hty : ty.size ≤ 12182 := by
              have e1 := Tx.joined_len l s HC.out j hj
              have e2 := Tx.last_le l s HC.out j hj
              have e3 := congrArg List.length HTY.out
              rw [List.length_append, Tx.pre_len, Tx.len_eq] at e3
              have := HK20.out
              omega
            by_cases hlt : j < l.length
            · obtain ⟨g1, d1, f1⟩ := Go.Joins.ownsRow_form HO.out (by omega)
              injection f1 with f1 f1a f1b
              clear f1a f1b
              subst f1
              have a2 := own_text HO.out j hlt
              obtain ⟨s1, s2, s3⟩ := Tx.seg l s 0 HC.out (Nat.zero_le _) j hlt
              have hjt := Tx.joined_take l j hlt
              generalize l[j] = a at a2 s1 s2 s3 hjt
              have HJT := Lib.hid hjt
              have hts : a.text.size ≤ 4000 := by omega
              clear hjt s1 s2 s3
              go_wp2_with fail
              go_roundw
              case rel => exact ⟨j + 1, ty ++ a.text ++ ⟨#[10, 9]⟩, by omega, by go_num, rfl, Lib.hid (by rw [HJT.out, ← List.append_assoc, ← List.append_assoc, ← HTY.out]; simp), Lib.hid HO.out, Lib.hid (by first | exact HB.out | exact below_drewN HB.out _)⟩
              case measure => simp [Lib.intOf]; omega
            · obtain rfl : j = l.length := by omega
              have hJ := HTY.out
              rw [List.take_length] at hJ
              have HRD := Lib.hid (HA.out ty k hJ (by omega))
              have HM1 := Lib.hid (program6_any s _ (by omega) (HG.out.below HB.out HG.out.two))
              have HM2 := Lib.hid (fun w hg => program6_any ty w (by omega) hg)
              clear hJ HO HTY hty h5
              go_wp2_with fail
              refine (HM1.out).mono ?_; rintro en w2 ⟨y1, p1, rfl, hy1, hl1, hb1⟩
              have HY1 := Lib.hid hy1
              have HL1 := Lib.hid (pgLies_ext (Ext.mask _ _) hl1)
              have HB2 := Lib.hid (HB.out.trans (hb1.mono HB.out.size))
              clear hy1 hl1 hb1 HM1 HB
              go_wp2_with (first | ((with_reducible show wpList _ _ _ (Oper.mk none (Op.store 33 (.tmp 11) (.tmp 56)) _ _ _ _ :: _) _ _); refine wpList_store_new rfl 33 (.tmp 11) (.tmp 56) rfl _ (Pg.cells y1).toArray rfl rfl size33 rfl rfl ?_))
              have hm : Below w2.heap.size w2 (w2.alloc (.cells #[.slice y1.structs.p y1.structs.l.length y1.structs.cap, .slice y1.globals.p y1.globals.l.length y1.globals.cap, .slice y1.procs.p y1.procs.l.length y1.procs.cap] 33)) := (Below.refl _ _).alloc (Nat.le_refl _) _
              have HK1 : Hid (Bk (w2.alloc (.cells #[.slice y1.structs.p y1.structs.l.length y1.structs.cap, .slice y1.globals.p y1.globals.l.length y1.globals.cap, .slice y1.procs.p y1.procs.l.length y1.procs.cap] 33)) w2.heap.size 33 #[.slice y1.structs.p y1.structs.l.length y1.structs.cap, .slice y1.globals.p y1.globals.l.length y1.globals.cap, .slice y1.procs.p y1.procs.l.length y1.procs.cap]) := Lib.hid (heap_alloc_new _ _)
              have HB3 := Lib.hid (HB2.out.trans (hm.mono HB2.out.size))
              have HL3 := Lib.hid (pgLies_below HL1.out hm)
              generalize w2.alloc (.cells #[.slice y1.structs.p y1.structs.l.length y1.structs.cap, .slice y1.globals.p y1.globals.l.length y1.globals.cap, .slice y1.procs.p y1.procs.l.length y1.procs.cap] 33) = wA at HK1 HB3 HL3 ⊢
              clear hm HB2 HL1
              generalize w2.heap.size = g2 at *
              refine (HM2.out wA (HG.out.below HB3.out HG.out.two)).mono ?_; rintro en w3 ⟨y2, p2, rfl, hy2, hl2, hb2⟩
              have HY2 : Hid (y1.er = y2.er) := Lib.hid (by rw [HY1.out, hy2, HRD.out])
              have HL2 := Lib.hid (pgLies_ext (Ext.mask _ _) hl2)
              have HL4 := Lib.hid (pgLies_below HL3.out hb2)
              have HB4 := Lib.hid (HB3.out.trans (hb2.mono HB3.out.size))
              have HK2 := Lib.hid (HK1.out.below hb2 HK1.out.lt)
              have her := congrArg Prod.fst HRD.out
              generalize (Pr.rd ty).1 = e2 at her ⊢
              generalize (Pr.rd s).1 = e1 at her ⊢
              subst her
              clear hy2 hl2 hb2 HM2 HB3 HL3 HK1 HY1 HRD
              have hm4 : Below w3.heap.size w3 (w3.alloc (.cells #[.slice y2.structs.p y2.structs.l.length y2.structs.cap, .slice y2.globals.p y2.globals.l.length y2.globals.cap, .slice y2.procs.p y2.procs.l.length y2.procs.cap] 33)) := (Below.refl _ _).alloc (Nat.le_refl _) _
              have HB5 := Lib.hid (HB4.out.trans (hm4.mono HB4.out.size))
              have HS := Lib.hid (refProgram_any y1 y2 (w3.alloc (.cells #[.slice y2.structs.p y2.structs.l.length y2.structs.cap, .slice y2.globals.p y2.globals.l.length y2.globals.cap, .slice y2.procs.p y2.procs.l.length y2.procs.cap] 33)) (pgLies_below HL4.out hm4) (pgLies_below HL2.out hm4))
              rw [samePg_of HY2.out] at HS
              have hk1 := HK2.out.below hm4 HK2.out.lt
              have hk2 : Bk (w3.alloc (.cells #[.slice y2.structs.p y2.structs.l.length y2.structs.cap, .slice y2.globals.p y2.globals.l.length y2.globals.cap, .slice y2.procs.p y2.procs.l.length y2.procs.cap] 33)) w3.heap.size 33 #[.slice y2.structs.p y2.structs.l.length y2.structs.cap, .slice y2.globals.p y2.globals.l.length y2.globals.cap, .slice y2.procs.p y2.procs.l.length y2.procs.cap] := heap_alloc_new _ _
              have q1 : World.cell? (w3.alloc (.cells #[.slice y2.structs.p y2.structs.l.length y2.structs.cap, .slice y2.globals.p y2.globals.l.length y2.globals.cap, .slice y2.procs.p y2.procs.l.length y2.procs.cap] 33)) ⟨g2, 0, none⟩ = some (.slice y1.structs.p y1.structs.l.length y1.structs.cap) := hk1.cell 0
              have q2 : World.cell? (w3.alloc (.cells #[.slice y2.structs.p y2.structs.l.length y2.structs.cap, .slice y2.globals.p y2.globals.l.length y2.globals.cap, .slice y2.procs.p y2.procs.l.length y2.procs.cap] 33)) ⟨g2, 1, none⟩ = some (.slice y1.globals.p y1.globals.l.length y1.globals.cap) := hk1.cell 1
              have q3 : World.cell? (w3.alloc (.cells #[.slice y2.structs.p y2.structs.l.length y2.structs.cap, .slice y2.globals.p y2.globals.l.length y2.globals.cap, .slice y2.procs.p y2.procs.l.length y2.procs.cap] 33)) ⟨g2, 2, none⟩ = some (.slice y1.procs.p y1.procs.l.length y1.procs.cap) := hk1.cell 2
              have q4 : World.cell? (w3.alloc (.cells #[.slice y2.structs.p y2.structs.l.length y2.structs.cap, .slice y2.globals.p y2.globals.l.length y2.globals.cap, .slice y2.procs.p y2.procs.l.length y2.procs.cap] 33)) ⟨w3.heap.size, 0, none⟩ = some (.slice y2.structs.p y2.structs.l.length y2.structs.cap) := hk2.cell 0
              have q5 : World.cell? (w3.alloc (.cells #[.slice y2.structs.p y2.structs.l.length y2.structs.cap, .slice y2.globals.p y2.globals.l.length y2.globals.cap, .slice y2.procs.p y2.procs.l.length y2.procs.cap] 33)) ⟨w3.heap.size, 1, none⟩ = some (.slice y2.globals.p y2.globals.l.length y2.globals.cap) := hk2.cell 1
              have q6 : World.cell? (w3.alloc (.cells #[.slice y2.structs.p y2.structs.l.length y2.structs.cap, .slice y2.globals.p y2.globals.l.length y2.globals.cap, .slice y2.procs.p y2.procs.l.length y2.procs.cap] 33)) ⟨w3.heap.size, 2, none⟩ = some (.slice y2.procs.p y2.procs.l.length y2.procs.cap) := hk2.cell 2
              clear hk1 hk2 hm4 HK2 HL2 HL4 HB4 HY2
              go_wp2_with (first | ((with_reducible show wpList _ _ _ (Oper.mk none (Op.store 33 (.tmp 14) (.tmp 62)) _ _ _ _ :: _) _ _); refine wpList_store_new rfl 33 (.tmp 14) (.tmp 62) rfl _ (Pg.cells y2).toArray rfl rfl size33 rfl rfl ?_))
              refine (HS.out).mono ?_; rintro en w4 ⟨rfl, hb4⟩
              have HB6 := Lib.hid (HB5.out.trans (hb4.mono HB5.out.size))
              clear hb4 HS HB5
              go_wp2_with (go_at_call 4; refine (lives_any _ (HG.out.below HB6.out HG.out.two)).mono ?_; rintro e w' ⟨rfl, hb⟩)
              go_ret
              exact ⟨rfl, HB6.out.trans (Below.mono (by assumption) HB6.out.size)⟩
    · have he' : (er != 0) = true := by rw [bne_iff_ne]; exact he
      clear hcha hrd' he
      go_enter Tryd.func3, Tryd.ntmps3
      go_wp2_with fail
      refine (HN1.out _).mono ?_; rintro e w1 ⟨v1, rfl, ho1, hb1⟩
      obtain ⟨A1, c1, rfl⟩ := own_shape ho1
      have HB1 := Lib.hid hb1
      clear ho1 hb1
      go_wp2_with (go_at_call 4; refine (lives_any _ (HG.out.below HB1.out HG.out.two)).mono ?_; rintro e w' ⟨rfl, hb⟩)
      go_ret
      exact ⟨rfl, HB1.out.trans (Below.mono (by assumption) HB1.out.size)⟩
end Go.Proofs.YtlpnkllhpienhaaDoor
