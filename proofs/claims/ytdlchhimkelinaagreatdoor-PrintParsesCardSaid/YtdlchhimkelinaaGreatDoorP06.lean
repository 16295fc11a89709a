/-
  Plain: the texts of a text's signs, with blanks behind each and remarks ahead, have the same signs; what is read of them is the same. The walk of the law on blanks and remarks. Plain: how a printed text is read: piece by piece, its signs. Plain: what is printed of a tree, and its signs: paths, value
-/
import Derived.Test.YtdlchhimkelinaaGreatDoorP05
import Derived.IntWalk
import Derived.Lib.SmallJoins
set_option maxHeartbeats 6400000
set_option maxRecDepth 100000
namespace Go.Proofs.YtdlchhimkelinaaGreatDoor
namespace Tx
def isKeyL (l : List UInt8) : Bool := kw.any fun x => l == x
structure Tk where
 kind : Int
 len : Nat
 num : Int
 err : Int
/-- The sign at a list's head. -/
def tokL : List UInt8 → Tk
 | [] => ⟨0, 0, 0, 0⟩
 | b :: l =>
  if ltr (b.toNat : Int) then
   if 16 < run wrd (b :: l) then ⟨0, 0, 0, 3⟩ else ⟨if isKeyL ((b :: l).take (run wrd (b :: l))) then 3 else 1, run wrd (b :: l), 0, 0⟩
  else if dgt (b.toNat : Int) then
   if 9 < run dgt (b :: l) then ⟨0, 0, 0, 3⟩ else ⟨2, run dgt (b :: l), val ((b :: l).take (run dgt (b :: l))), 0⟩
  else if mkl (b :: l) = 0 then ⟨0, 0, 0, 4⟩ else ⟨4, mkl (b :: l), 0, 0⟩
theorem wend_len (p : Int → Bool) (s : ByteArray) (k : Nat) : wend p s k = k + run p (s.data.toList.drop k) := rfl
theorem part_take (s : ByteArray) (k n : Nat) : (s.extract k (k + n)).data.toList = (s.data.toList.drop k).take n := by
 rw [part_list, show k + n - k = n by omega]
/-- The sign at a place hangs on what stands from there on. -/
theorem tok_list (s : ByteArray) (k : Nat) : tok s k = ⟨⟨(tokL (s.data.toList.drop k)).kind, k, s.extract k (k + (tokL (s.data.toList.drop k)).len), (tokL (s.data.toList.drop k)).num⟩, k + (tokL (s.data.toList.drop k)).len, (tokL (s.data.toList.drop k)).err⟩ := by
 have hbad : ∀ e, An.bad k e = ⟨⟨0, k, s.extract k (k + 0), 0⟩, k + 0, e⟩ := by
  intro e; unfold An.bad; rw [Nat.add_zero, cut_none]
 by_cases h : k < s.size
 ·have hd := drop_at s k h
  cases hl : ltr (s[k].toNat : Int)
  ·cases hg : dgt (s[k].toNat : Int)
   ·rw [tok_mark s k h hl hg]
    unfold markA mrk
    rw [hd]
    simp only [tokL, hl, hg, Bool.false_eq_true, if_false]
    by_cases h0 : mkl (s[k] :: s.data.toList.drop (k + 1)) = 0
    ·rw [if_pos h0, if_pos h0]; exact hbad 4
    ·rw [if_neg h0, if_neg h0]; rfl
   ·rw [tok_num s k h hl hg]
    unfold numA
    rw [wend_len, part_take, hd]
    simp only [tokL, hl, hg, Bool.false_eq_true, if_false, if_true]
    rw [show k + run dgt (s[k] :: s.data.toList.drop (k + 1)) - k = run dgt (s[k] :: s.data.toList.drop (k + 1)) by omega]
    by_cases h9 : 9 < run dgt (s[k] :: s.data.toList.drop (k + 1))
    ·rw [if_pos h9, if_pos h9]; exact hbad 3
    ·rw [if_neg h9, if_neg h9]; rfl
  ·rw [tok_word s k h hl]
   unfold wordA isKey
   rw [wend_len, part_take, hd]
   simp only [tokL, hl, if_true]
   rw [show k + run wrd (s[k] :: s.data.toList.drop (k + 1)) - k = run wrd (s[k] :: s.data.toList.drop (k + 1)) by omega]
   by_cases h16 : 16 < run wrd (s[k] :: s.data.toList.drop (k + 1))
   ·rw [if_pos h16, if_pos h16]; exact hbad 3
   ·rw [if_neg h16, if_neg h16]; rfl
 ·rw [tok_end s k h, drop_end s k (by omega)]
  exact hbad 0
theorem sk_zero (b : UInt8) (l : List UInt8) (h1 : blk (b.toNat : Int) = false) (h2 : b.toNat ≠ 47) : sk false (b :: l) = 0 := by
 simp only [sk, h1, Bool.false_eq_true, if_false]
 rw [if_neg (fun h => h2 h.1)]
/-- These are the signs from i on, up to the End. -/
def Chain (s : ByteArray) : Nat → List Sg → Prop
 | _, [] => False
 | i, a :: l => (nx s i).err = 0 ∧ (nx s i).sg = a ∧ ((a.kind = 0 ∧ l = []) ∨ (a.kind ≠ 0 ∧ Chain s (nx s i).stop l))
theorem go_chain : ∀ (f : Nat) (s : ByteArray) (i : Nat) (acc : List Sg), i ≤ s.size → s.size < i + f → (go f s i acc).2.2 = 0 →
  ∃ l, (go f s i acc).1 = acc ++ l ∧ Chain s i l ∧ (go f s i acc).2.1 = 0
 | 0, s, i, acc, hi, hf, _ => absurd hf (by omega)
 | f + 1, s, i, acc, hi, hf, he => by
  unfold go at he ⊢
  by_cases h0 : (nx s i).err = 0
  ·rw [if_pos h0] at he ⊢
   by_cases hk : (nx s i).sg.kind = 0
   ·rw [if_pos hk]
    exact ⟨[(nx s i).sg], rfl, ⟨h0, rfl, .inl ⟨hk, rfl⟩⟩, rfl⟩
   ·rw [if_neg hk] at he ⊢
    have h1 := nx_adv s i h0 hk
    have h2 := nx_stop_le s i hi
    obtain ⟨l, e1, e2, e3⟩ := go_chain f s _ _ h2 (by omega) he
    exact ⟨(nx s i).sg :: l, by rw [e1, List.append_assoc]; rfl, ⟨h0, rfl, .inr ⟨hk, e2⟩⟩, e3⟩
  ·rw [if_neg h0] at he; exact absurd he h0
theorem chain_go : ∀ (f : Nat) (s : ByteArray) (i : Nat) (acc l : List Sg), i ≤ s.size → s.size < i + f → Chain s i l → go f s i acc = (acc ++ l, 0, 0)
 | 0, s, i, acc, l, hi, hf, _ => absurd hf (by omega)
 | f + 1, s, i, acc, [], hi, hf, h => h.elim
 | f + 1, s, i, acc, a :: l, hi, hf, h => by
  obtain ⟨h0, rfl, h1⟩ := h
  unfold go
  rw [if_pos h0]
  rcases h1 with ⟨hk, rfl⟩ | ⟨hk, hc⟩
  ·rw [if_pos hk]
  ·rw [if_neg hk]
   have h1 := nx_adv s i h0 hk
   have h2 := nx_stop_le s i hi
   rw [chain_go f s _ _ l h2 (by omega) hc, List.append_assoc]
   rfl
/-- What is asked of a sign. -/
def key (g : Sg) : Int × List UInt8 × Int := (g.kind, g.text.data.toList, g.num)
theorem nx_list (s : ByteArray) (i : Nat) : nx s i = ⟨⟨(tokL (s.data.toList.drop (skp s i))).kind, skp s i, s.extract (skp s i) (skp s i + (tokL (s.data.toList.drop (skp s i))).len), (tokL (s.data.toList.drop (skp s i))).num⟩, skp s i + (tokL (s.data.toList.drop (skp s i))).len, (tokL (s.data.toList.drop (skp s i))).err⟩ := tok_list s (skp s i)
/-- A blank ahead is left behind. -/
theorem nx_blank (t : ByteArray) (j : Nat) (b : UInt8) (hb : blk (b.toNat : Int) = true) (l : List UInt8) (h : t.data.toList.drop j = b :: l) : nx t j = nx t (j + 1) ∧ t.data.toList.drop (j + 1) = l ∧ j < t.size := by
 have hj : j < t.size := by
  rcases Nat.lt_or_ge j t.size with h1 | h1
  ·exact h1
  ·rw [drop_end t j h1] at h; cases h
 have e := drop_at t j hj
 rw [h] at e
 injection e with e1 e2
 refine ⟨?_, e2.symm, hj⟩
 unfold nx
 rw [skp_blank t j hj (by rw [← e1]; exact hb)]
theorem alls_chain (s : ByteArray) (h : (alls s).2.2 = 0) : Chain s 0 (alls s).1 := by
 unfold alls at h ⊢
 by_cases hl : 65536 < s.size
 ·rw [if_pos hl] at h; exact absurd h (show ¬ (3 : Int) = 0 by decide)
 ·rw [if_neg hl] at h ⊢
  obtain ⟨l, e1, e2, _⟩ := go_chain (s.size + 1) s 0 [] (Nat.zero_le _) (by omega) h
  rw [e1]; exact e2
/-- What stands ahead: so many remarks. -/
def rem : List UInt8 := [47, 47, 32, 109, 111, 114, 101, 10, 32]
def pre : Nat → List UInt8
 | 0 => []
 | n + 1 => pre n ++ rem
end Tx
end Go.Proofs.YtdlchhimkelinaaGreatDoor
namespace Go.Proofs.YtdlchhimkelinaaGreatDoor
open Go.RowKit Go.Sort
theorem go_len : ∀ (f : Nat) (s : ByteArray) (i : Nat) (acc : List Tx.Sg), acc.length ≤ i → i ≤ s.size → (Tx.go f s i acc).1.length ≤ s.size + 1
 | 0, s, i, acc, h, hi => by unfold Tx.go; show acc.length ≤ _; omega
 | f + 1, s, i, acc, h, hi => by
  unfold Tx.go
  split
  ·rename_i he
   split
   ·show (acc ++ [_]).length ≤ _; simp; omega
   ·rename_i hk
    have h1 := Tx.nx_adv s i he hk
    have h2 := Tx.nx_stop_le s i hi
    exact go_len f s _ _ (by simp; omega) h2
  ·simp
theorem alls_len (s : ByteArray) : (Tx.alls s).1.length ≤ s.size + 1 := by
 unfold Tx.alls; split
 ·simp
 ·exact go_len _ s 0 [] (Nat.zero_le _) (Nat.zero_le _)
end Go.Proofs.YtdlchhimkelinaaGreatDoor
namespace Go.Proofs.YtdlchhimkelinaaGreatDoor
namespace Tx
/-- From place j on these signs are read; behind them is place k. -/
inductive Reads (t : ByteArray) : Nat → Nat → List (Int × List UInt8 × Int) → Prop
 | nil (j : Nat) : Reads t j j []
 | blank {j k : Nat} {ts : List (Int × List UInt8 × Int)} : nx t j = nx t (j + 1) → Reads t (j + 1) k ts → Reads t j k ts
 | cons {j k : Nat} {g : Int × List UInt8 × Int} {ts : List (Int × List UInt8 × Int)} : (nx t j).err = 0 → (nx t j).sg.kind ≠ 0 → key (nx t j).sg = g → Reads t (nx t j).stop k ts → Reads t j k (g :: ts)
theorem Reads.trans {t : ByteArray} {i j k : Nat} {ts us : List (Int × List UInt8 × Int)} (h : Reads t i j ts) (g : Reads t j k us) : Reads t i k (ts ++ us) := by
 induction h with
 | nil j => exact g
 | blank e _ ih => exact .blank e (ih g)
 | cons e0 ek eg _ ih => exact .cons e0 ek eg (ih g)
theorem Reads.chain {t : ByteArray} {j k : Nat} {ts : List (Int × List UInt8 × Int)} (h : Reads t j k ts) (h0 : (nx t k).err = 0) (hk : (nx t k).sg.kind = 0) : ∃ m, Chain t j m ∧ m.map key = ts ++ [key (nx t k).sg] := by
 induction h with
 | nil j => exact ⟨[(nx t j).sg], ⟨h0, rfl, .inl ⟨hk, rfl⟩⟩, rfl⟩
 | blank e _ ih =>
  obtain ⟨m, c, e1⟩ := ih h0 hk
  refine ⟨m, ?_, e1⟩
  cases m with
  | nil => exact c.elim
  | cons b m =>
   obtain ⟨q0, q1, q2⟩ := c
   exact ⟨by rw [e]; exact q0, by rw [e]; exact q1, by rw [e]; exact q2⟩
 | cons e0 ek eg _ ih =>
  obtain ⟨m, c, e1⟩ := ih h0 hk
  exact ⟨_ :: m, ⟨e0, rfl, .inr ⟨ek, c⟩⟩, by simp only [List.map_cons, eg, e1, List.cons_append]⟩
/-- Such bytes, something of this kind behind them, are read as these signs. -/
def Lx (a : List UInt8) (ts : List (Int × List UInt8 × Int)) (C : List UInt8 → Prop) : Prop :=
 ∀ (t : ByteArray) (j : Nat) (r : List UInt8), C r → t.data.toList.drop j = a ++ r → ∃ k, Reads t j k ts ∧ t.data.toList.drop k = r
def Any (_ : List UInt8) : Prop := True
theorem Lx.nil : Lx [] [] Any := fun _ j _ _ h => ⟨j, .nil j, h⟩
theorem Lx.append {a b : List UInt8} {ts us : List (Int × List UInt8 × Int)} {C D : List UInt8 → Prop} (h : Lx a ts C) (g : Lx b us D) (hc : ∀ r, D r → C (b ++ r)) : Lx (a ++ b) (ts ++ us) D := by
 intro t j r hr ht
 rw [List.append_assoc] at ht
 obtain ⟨k, h1, h2⟩ := h t j (b ++ r) (hc r hr) ht
 obtain ⟨m, g1, g2⟩ := g t k r hr h2
 exact ⟨m, h1.trans g1, g2⟩
theorem Lx.weak {a : List UInt8} {ts : List (Int × List UInt8 × Int)} {C D : List UInt8 → Prop} (h : Lx a ts C) (hc : ∀ r, D r → C r) : Lx a ts D := fun t j r hr ht => h t j r (hc r hr) ht
theorem Lx.blank (b : UInt8) (hb : blk (b.toNat : Int) = true) : Lx [b] [] Any := by
 intro t j r _ ht
 obtain ⟨e1, e2, _⟩ := nx_blank t j b hb r ht
 exact ⟨j + 1, .blank e1 (.nil _), e2⟩
theorem Lx.tok {a : List UInt8} {kd num : Int} {C : List UInt8 → Prop} (hk : kd ≠ 0) (h : ∀ r, C r → tokL (a ++ r) = ⟨kd, a.length, num, 0⟩ ∧ sk false (a ++ r) = 0) : Lx a [(kd, a, num)] C := by
 intro t j r hr ht
 obtain ⟨h1, h2⟩ := h r hr
 have hs : skp t j = j := by unfold skp; rw [ht, h2]; rfl
 have hn := nx_list t j
 rw [hs, ht, h1] at hn
 have hp := part_take t j a.length
 rw [ht, List.take_left' rfl] at hp
 refine ⟨j + a.length, .cons (by rw [hn]) (by rw [hn]; exact hk) ?_ (by rw [hn]; exact .nil _), ?_⟩
 ·rw [hn]; unfold key; rw [hp]
 ·rw [← List.drop_drop, ht, List.drop_left' rfl]
/-- No letter and no digit is ahead. -/
def Clear (r : List UInt8) : Prop := ∀ b, r.head? = some b → wrd (b.toNat : Int) = false
/-- No Mark of two bytes comes of it. -/
def NoPair (c : UInt8) (r : List UInt8) : Prop := ∀ b, r.head? = some b → two (c.toNat : Int) (b.toNat : Int) = false
theorem run_all (p : Int → Bool) : ∀ (a r : List UInt8), (∀ b ∈ a, p (b.toNat : Int) = true) → (∀ b, r.head? = some b → p (b.toNat : Int) = false) → run p (a ++ r) = a.length
 | [], [], _, _ => rfl
 | [], b :: r, _, h => by simp only [List.nil_append, run, h b rfl, Bool.false_eq_true, if_false, List.length_nil]
 | a :: l, r, h, g => by
  have := run_all p l r (fun b hb => h b (List.mem_cons_of_mem _ hb)) g
  simp only [List.cons_append, run, h a List.mem_cons_self, if_true, this, List.length_cons]
/-- A word: a letter, then letters and digits, at most sixteen. -/
def isWord (a : List UInt8) : Prop := (∃ b l, a = b :: l ∧ ltr (b.toNat : Int) = true) ∧ (∀ b ∈ a, wrd (b.toNat : Int) = true) ∧ a.length ≤ 16
theorem ltr_sk {b : UInt8} (h : wrd (b.toNat : Int) = true) (l : List UInt8) : sk false (b :: l) = 0 := by
 refine sk_zero _ _ ?_ ?_
 ·unfold wrd ltr dgt at h; unfold blk; simp at h ⊢; omega
 ·unfold wrd ltr dgt at h; simp at h; omega
theorem tokL_cons (b : UInt8) (l : List UInt8) : tokL (b :: l) = if ltr (b.toNat : Int) then (if 16 < run wrd (b :: l) then ⟨0, 0, 0, 3⟩ else ⟨if isKeyL ((b :: l).take (run wrd (b :: l))) then 3 else 1, run wrd (b :: l), 0, 0⟩) else if dgt (b.toNat : Int) then (if 9 < run dgt (b :: l) then ⟨0, 0, 0, 3⟩ else ⟨2, run dgt (b :: l), val ((b :: l).take (run dgt (b :: l))), 0⟩) else if mkl (b :: l) = 0 then ⟨0, 0, 0, 4⟩ else ⟨4, mkl (b :: l), 0, 0⟩ := rfl
theorem Lx.word {a : List UInt8} (h : isWord a) : Lx a [(if isKeyL a then 3 else 1, a, 0)] Clear := by
 obtain ⟨⟨b, l, rfl, hb⟩, hw, hl⟩ := h
 refine Lx.tok (by split <;> decide) fun r hr => ?_
 have hrun := run_all wrd (b :: l) r hw hr
 rw [List.cons_append] at hrun ⊢
 refine ⟨?_, ltr_sk (hw b List.mem_cons_self) _⟩
 rw [tokL_cons, if_pos hb, hrun, if_neg (by omega), ← List.cons_append, List.take_left' rfl]
theorem Lx.num {a : List UInt8} (h0 : a ≠ []) (hd : ∀ b ∈ a, dgt (b.toNat : Int) = true) (hl : a.length ≤ 9) : Lx a [(2, a, val a)] Clear := by
 cases a with
 | nil => exact absurd rfl h0
 | cons b l =>
  refine Lx.tok (by decide) fun r hr => ?_
  have hb := hd b List.mem_cons_self
  have hw : wrd (b.toNat : Int) = true := by unfold wrd; rw [hb, Bool.or_true]
  have hn : ltr (b.toNat : Int) = false := by unfold dgt at hb; unfold ltr; simp at hb ⊢; omega
  have hrun := run_all dgt (b :: l) r hd (fun c hc => by have := hr c hc; unfold wrd at this; simp at this; exact this.2)
  rw [List.cons_append] at hrun ⊢
  refine ⟨?_, ltr_sk hw _⟩
  rw [tokL_cons, if_neg (by rw [hn]; decide), if_pos hb, hrun, if_neg (by omega), ← List.cons_append, List.take_left' rfl]
theorem Lx.one {c : UInt8} (h : one c.toNat = true) : Lx [c] [(4, [c], 0)] (NoPair c) := by
 refine Lx.tok (by decide) fun r hr => ?_
 have h1 : ltr (c.toNat : Int) = false := by unfold Tx.one at h; unfold ltr; simp at h ⊢; omega
 have h2 : dgt (c.toNat : Int) = false := by unfold Tx.one at h; unfold dgt; simp at h ⊢; omega
 have hm : mkl ([c] ++ r) = 1 := by
  cases r with
  | nil => simp only [List.append_nil, mkl, h, if_true]
  | cons b r => simp only [List.cons_append, List.nil_append, mkl, hr b rfl, h, Bool.false_eq_true, if_false, if_true]
 refine ⟨?_, ?_⟩
 ·show tokL (c :: ([] ++ r)) = _
  rw [tokL_cons, if_neg (by rw [h1]; decide), if_neg (by rw [h2]; decide), show c :: ([] ++ r) = [c] ++ r from rfl, hm, if_neg (by decide)]; rfl
 ·refine sk_zero _ _ ?_ ?_
  ·unfold Tx.one at h; unfold blk; simp at h ⊢; omega
  ·unfold Tx.one at h; simp at h; omega
theorem Lx.two {c d : UInt8} (h : two c.toNat d.toNat = true) : Lx [c, d] [(4, [c, d], 0)] Any := by
 refine Lx.tok (by decide) fun r _ => ?_
 have h1 : ltr (c.toNat : Int) = false := by unfold Tx.two at h; unfold ltr; simp at h ⊢; omega
 have h2 : dgt (c.toNat : Int) = false := by unfold Tx.two at h; unfold dgt; simp at h ⊢; omega
 have hm : mkl ([c, d] ++ r) = 2 := by simp only [List.cons_append, mkl, h, if_true]
 refine ⟨?_, ?_⟩
 ·show tokL (c :: ([d] ++ r)) = _
  rw [tokL_cons, if_neg (by rw [h1]; decide), if_neg (by rw [h2]; decide), show c :: ([d] ++ r) = [c, d] ++ r from rfl, hm, if_neg (by decide)]; rfl
 ·refine sk_zero _ _ ?_ ?_
  ·unfold Tx.two at h; unfold blk; simp at h ⊢; omega
  ·unfold Tx.two at h; simp at h; omega
/-- A text that is read so from its head on, up to its end. -/
theorem Lx.alls {t : ByteArray} {ts : List (Int × List UInt8 × Int)} (h : Lx t.data.toList ts Any) (hz : t.size ≤ 65536) : (Tx.alls t).2.2 = 0 ∧ (Tx.alls t).1.map key = ts ++ [(0, [], 0)] := by
 obtain ⟨k, h1, h2⟩ := h t 0 [] trivial (by simp)
 have hk : t.size ≤ k := by
  have := congrArg List.length h2
  rw [List.length_drop, len_eq] at this; simp at this; omega
 have hnx : nx t k = An.bad k 0 := by unfold nx; rw [skp_end t k hk, tok_end t k (by omega)]
 obtain ⟨m, c, e⟩ := h1.chain (by rw [hnx]; rfl) (by rw [hnx]; rfl)
 have : Tx.alls t = (m, 0, 0) := by
  unfold Tx.alls
  rw [if_neg (by omega), chain_go (t.size + 1) t 0 [] m (Nat.zero_le _) (by omega) c]
  rfl
 rw [this]
 refine ⟨rfl, ?_⟩
 rw [e, hnx]; rfl
/-- Digits of a number. -/
def digits (n : Nat) : List UInt8 := if n < 10 then [UInt8.ofNat (48 + n)] else digits (n / 10) ++ [UInt8.ofNat (48 + n % 10)]
termination_by n
decreasing_by omega
theorem dig_nat (n : Nat) (h : n < 10) : (UInt8.ofNat (48 + n)).toNat = 48 + n := by rw [UInt8.toNat_ofNat']; omega
theorem val_snoc (l : List UInt8) (b : UInt8) : val (l ++ [b]) = 10 * val l + (b.toNat - 48) := by unfold val; rw [List.foldl_append]; rfl
theorem digits_ok (n : Nat) : digits n ≠ [] ∧ (∀ b ∈ digits n, dgt (b.toNat : Int) = true) ∧ val (digits n) = n := by
 induction n using Nat.strongRecOn with
 | ind n ih =>
  unfold digits
  by_cases h : n < 10
  ·rw [if_pos h]
   refine ⟨by simp, fun b hb => ?_, ?_⟩
   ·rw [List.mem_singleton.1 hb, dig_nat n h]; unfold dgt; simp; omega
   ·unfold val; simp only [List.foldl_cons, List.foldl_nil, dig_nat n h]; omega
  ·rw [if_neg h]
   obtain ⟨_, h2, h3⟩ := ih (n / 10) (by omega)
   refine ⟨by simp, fun b hb => ?_, ?_⟩
   ·rcases List.mem_append.1 hb with hb | hb
    ·exact h2 b hb
    ·rw [List.mem_singleton.1 hb, dig_nat _ (by omega)]; unfold dgt; simp; omega
   ·rw [val_snoc, h3, dig_nat _ (by omega)]; omega
theorem digits_len : ∀ (k n : Nat), n < 10 ^ k → 0 < k → (digits n).length ≤ k
 | 0, _, _, h => absurd h (by omega)
 | k + 1, n, hn, _ => by
  unfold digits
  by_cases h : n < 10
  ·rw [if_pos h]; simp
  ·rw [if_neg h, List.length_append]
   have hk : 0 < k := by
    rcases Nat.eq_zero_or_pos k with rfl | h'
    ·simp at hn; omega
    ·exact h'
   have := digits_len k (n / 10) (by rw [Nat.pow_succ] at hn; omega) hk
   simp; omega
theorem Lx.digits {n : Nat} (h : n ≤ 999999999) : Lx (digits n) [(2, Tx.digits n, (n : Int))] Clear := by
 obtain ⟨h1, h2, h3⟩ := digits_ok n
 have := Lx.num h1 h2 (digits_len 9 n (by omega) (by omega))
 rw [h3] at this; exact this
end Tx
end Go.Proofs.YtdlchhimkelinaaGreatDoor
namespace Go.Proofs.YtdlchhimkelinaaGreatDoor
namespace Pn
open Tx (Lx Clear NoPair Any)
abbrev K := Int × List UInt8 × Int
def txt (x : ByteArray) : List UInt8 := x.data.toList
def nm (x : ByteArray) : K := (1, txt x, 0)
def ky (a : List UInt8) : K := (3, a, 0)
def mk (a : List UInt8) : K := (4, a, 0)
def dg (n : Int) : K := (2, Tx.digits n.toNat, n)
/-- May this be a name? -/
def okN (x : ByteArray) : Bool := (match txt x with | [] => false | b :: _ => Tx.ltr (b.toNat : Int)) && (txt x).all (fun b => Tx.wrd (b.toNat : Int)) && decide ((txt x).length ≤ 16) && !Tx.isKeyL (txt x)
def okNum (n : Int) : Bool := decide (0 ≤ n) && decide (n ≤ 999999999)
def noP (w : Pth) : Bool := decide (txt w.name = []) && decide (w.hops.l = [])
def noT (t : Tm) : Bool := decide (txt t.name = []) && decide (t.n = 0)
theorem okN_word {x : ByteArray} (h : okN x = true) : Tx.isWord (txt x) ∧ Tx.isKeyL (txt x) = false := by
 unfold okN at h
 simp only [Bool.and_eq_true, Bool.not_eq_true', List.all_eq_true, decide_eq_true_eq] at h
 obtain ⟨⟨⟨h1, h2⟩, h3⟩, h4⟩ := h
 refine ⟨⟨?_, h2, h3⟩, h4⟩
 cases ht : txt x with
 | nil => rw [ht] at h1; simp at h1
 | cons b l => rw [ht] at h1; exact ⟨b, l, rfl, h1⟩
theorem lx_name {x : ByteArray} (h : okN x = true) : Lx (txt x) [nm x] Clear := by
 obtain ⟨h1, h2⟩ := okN_word h
 have := Lx.word h1
 rw [if_neg (by rw [h2]; decide)] at this; exact this
theorem lx_key {a : List UInt8} (h : Tx.isWord a) (hk : Tx.isKeyL a = true) : Lx a [ky a] Clear := by
 have := Lx.word h
 rw [if_pos hk] at this; exact this
theorem lx_num {n : Int} (h : okNum n = true) : Lx (Tx.digits n.toNat) [dg n] Clear := by
 unfold okNum at h; simp at h
 have := Lx.digits (n := n.toNat) (by omega)
 rw [show ((n.toNat : Nat) : Int) = n by omega] at this; exact this
theorem clear_cons {b : UInt8} {l : List UInt8} (h : Tx.wrd (b.toNat : Int) = false) : Clear (b :: l) := fun c hc => by
 injection hc with hc; rw [← hc]; exact h
theorem nopair_cons {c b : UInt8} {l : List UInt8} (h : Tx.two (c.toNat : Int) (b.toNat : Int) = false) : NoPair c (b :: l) := fun d hd => by
 injection hd with hd; rw [← hd]; exact h
/-- A mark of which no pair begins. -/
theorem nopair_any {c : UInt8} (h : ∀ b : UInt8, Tx.two (c.toNat : Int) (b.toNat : Int) = false) (r : List UInt8) : NoPair c r := fun b _ => h b
/- What is printed of paths. -/
def hopsT : List Hp → List UInt8
 | [] => []
 | h :: l => [45, 62] ++ txt h.name ++ hopsT l
def hopsK : List Hp → List K
 | [] => []
 | h :: l => [mk [45, 62], nm h.name] ++ hopsK l
def pathT (w : Pth) : List UInt8 := txt w.name ++ hopsT w.hops.l
def pathK (w : Pth) : List K := [nm w.name] ++ hopsK w.hops.l
def okPath (w : Pth) : Bool := okN w.name && decide (w.hops.l.length ≤ 8) && w.hops.l.all fun h => okN h.name
theorem hops_clear (l : List Hp) (r : List UInt8) (hr : Clear r) : Clear (hopsT l ++ r) := by
 cases l with
 | nil => exact hr
 | cons h l => exact clear_cons (by rfl)
theorem lx_hops : ∀ l : List Hp, (∀ h ∈ l, okN h.name = true) → Lx (hopsT l) (hopsK l) Clear
 | [], _ => Lx.nil.weak fun _ _ => trivial
 | h :: l, ho => by
  have h1 := (Lx.two (c := 45) (d := 62) (by rfl)).append (lx_name (ho h List.mem_cons_self)) (fun _ _ => trivial)
  exact h1.append (lx_hops l fun x hx => ho x (List.mem_cons_of_mem _ hx)) (hops_clear l)
theorem lx_path {w : Pth} (h : okPath w = true) : Lx (pathT w) (pathK w) Clear := by
 unfold okPath at h
 simp only [Bool.and_eq_true, List.all_eq_true] at h
 exact (lx_name h.1.1).append (lx_hops _ h.2) (hops_clear _)
def termT (t : Tm) : List UInt8 := if txt t.name = [] then Tx.digits t.n.toNat else txt t.name
def termK (t : Tm) : List K := [if txt t.name = [] then dg t.n else nm t.name]
def okTerm (t : Tm) : Bool := if txt t.name = [] then okNum t.n else okN t.name && decide (t.n = 0)
theorem lx_term {t : Tm} (h : okTerm t = true) : Lx (termT t) (termK t) Clear := by
 unfold okTerm at h; unfold termT termK
 by_cases h0 : txt t.name = []
 ·rw [if_pos h0] at h; rw [if_pos h0, if_pos h0]; exact lx_num h
 ·rw [if_neg h0] at h; rw [if_neg h0, if_neg h0]
  simp only [Bool.and_eq_true] at h; exact lx_name h.1
def tNull : List UInt8 := [110, 117, 108, 108]
def tNew : List UInt8 := [110, 101, 119]
def tInput : List UInt8 := [105, 110, 112, 117, 116]
def valT (v : Vl) : List UInt8 :=
 if v.kind = 0 then tNull else if v.kind = 1 then pathT v.path else if v.kind = 2 then tNew ++ [32] ++ txt v.type else if v.kind = 3 then tInput
 else if v.kind = 4 then Tx.digits v.left.n.toNat else if v.kind = 5 then termT v.left ++ [32] ++ [43] ++ [32] ++ termT v.right else termT v.left ++ [32] ++ [45] ++ [32] ++ termT v.right
def valK (v : Vl) : List K :=
 if v.kind = 0 then [ky tNull] else if v.kind = 1 then pathK v.path else if v.kind = 2 then [ky tNew, nm v.type] else if v.kind = 3 then [ky tInput]
 else if v.kind = 4 then [dg v.left.n] else if v.kind = 5 then termK v.left ++ [mk [43]] ++ termK v.right else termK v.left ++ [mk [45]] ++ termK v.right
/-- May this be a value? -/
def okVal (v : Vl) : Bool :=
 if v.kind = 0 ∨ v.kind = 3 then noP v.path && noT v.left && noT v.right && decide (txt v.type = [])
 else if v.kind = 1 then noT v.left && noT v.right && decide (txt v.type = []) && okPath v.path
 else if v.kind = 2 then noP v.path && noT v.left && noT v.right && okN v.type
 else if v.kind = 4 then noP v.path && noT v.right && decide (txt v.type = []) && decide (txt v.left.name = []) && okNum v.left.n
 else if v.kind = 5 ∨ v.kind = 6 then noP v.path && decide (txt v.type = []) && okTerm v.left && okTerm v.right
 else false
def okSide (v : Vl) : Bool := okVal v && (decide (v.kind = 0) || decide (v.kind = 1) || decide (v.kind = 4))
theorem word_of {a : List UInt8} (h : ((match a with | [] => false | b :: _ => Tx.ltr (b.toNat : Int)) && a.all (fun b => Tx.wrd (b.toNat : Int)) && decide (a.length ≤ 16)) = true) : Tx.isWord a := by
 simp only [Bool.and_eq_true, List.all_eq_true, decide_eq_true_eq] at h
 obtain ⟨⟨h1, h2⟩, h3⟩ := h
 refine ⟨?_, h2, h3⟩
 cases a with
 | nil => simp at h1
 | cons b l => exact ⟨b, l, rfl, h1⟩
theorem lx_null : Lx tNull [ky tNull] Clear := lx_key (word_of (by decide)) (by decide)
theorem lx_new : Lx tNew [ky tNew] Clear := lx_key (word_of (by decide)) (by decide)
theorem lx_input : Lx tInput [ky tInput] Clear := lx_key (word_of (by decide)) (by decide)
theorem lx_sp : Lx [32] [] Any := Lx.blank 32 (by rfl)
theorem lx_sum {s t : Tm} {c : UInt8} (hs : okTerm s = true) (ht : okTerm t = true) (h1 : Tx.one c.toNat = true) (h2 : Tx.two c.toNat 32 = false) : Lx (termT s ++ [32] ++ [c] ++ [32] ++ termT t) (termK s ++ [mk [c]] ++ termK t) Clear := by
 have a := (lx_term hs).append lx_sp (D := Any) (fun r _ => clear_cons (by rfl))
 have b := a.append (Lx.one h1) (fun _ _ => trivial)
 have c := b.append lx_sp (D := Any) (fun r _ => nopair_cons h2)
 have d := c.append (lx_term ht) (fun _ _ => trivial)
 simpa [mk] using d
theorem lx_val {v : Vl} (h : okVal v = true) : Lx (valT v) (valK v) Clear := by
 unfold okVal at h; unfold valT valK
 by_cases h0 : v.kind = 0
 ·rw [if_pos h0, if_pos h0]; exact lx_null
 by_cases h1 : v.kind = 1
 ·rw [if_neg h0, if_neg h0, if_pos h1, if_pos h1]
  rw [if_neg (by omega), if_pos h1] at h
  simp only [Bool.and_eq_true] at h
  exact lx_path h.2
 by_cases h2 : v.kind = 2
 ·rw [if_neg h0, if_neg h0, if_neg h1, if_neg h1, if_pos h2, if_pos h2]
  rw [if_neg (by omega), if_neg h1, if_pos h2] at h
  simp only [Bool.and_eq_true] at h
  have a := lx_new.append lx_sp (D := Any) (fun r _ => clear_cons (by rfl))
  have b := a.append (lx_name h.2) (fun _ _ => trivial)
  simpa using b
 by_cases h3 : v.kind = 3
 ·rw [if_neg h0, if_neg h0, if_neg h1, if_neg h1, if_neg h2, if_neg h2, if_pos h3, if_pos h3]; exact lx_input
 by_cases h4 : v.kind = 4
 ·rw [if_neg h0, if_neg h0, if_neg h1, if_neg h1, if_neg h2, if_neg h2, if_neg h3, if_neg h3, if_pos h4, if_pos h4]
  rw [if_neg (by omega), if_neg h1, if_neg h2, if_pos h4] at h
  simp only [Bool.and_eq_true] at h
  exact lx_num h.2
 rw [if_neg (by omega), if_neg h1, if_neg h2, if_neg h4] at h
 rw [if_neg h0, if_neg h0, if_neg h1, if_neg h1, if_neg h2, if_neg h2, if_neg h3, if_neg h3, if_neg h4, if_neg h4]
 by_cases h56 : v.kind = 5 ∨ v.kind = 6
 ·rw [if_pos h56] at h
  simp only [Bool.and_eq_true] at h
  by_cases h5 : v.kind = 5
  ·rw [if_pos h5, if_pos h5]; exact lx_sum h.1.2 h.2 (by rfl) (by rfl)
  ·rw [if_neg h5, if_neg h5]; exact lx_sum h.1.2 h.2 (by rfl) (by rfl)
 ·rw [if_neg h56] at h; cases h
/- Conditions. -/
def relT (k : Int) : List UInt8 := if k = 1 then [61, 61] else if k = 2 then [33, 61] else if k = 3 then [60] else [62, 61]
def condT (c : Cd) : List UInt8 := if c.kind = 0 then [63] else valT c.left ++ [32] ++ relT c.kind ++ [32] ++ valT c.right
def condK (c : Cd) : List K := if c.kind = 0 then [mk [63]] else valK c.left ++ [mk (relT c.kind)] ++ valK c.right
def noVal (v : Vl) : Bool := decide (v.kind = 0) && okVal v
def noCond (c : Cd) : Bool := decide (c.kind = 0) && noVal c.left && noVal c.right
def okCond (c : Cd) : Bool := if c.kind = 0 then noCond c else decide (1 ≤ c.kind) && decide (c.kind ≤ 4) && okSide c.left && okSide c.right
theorem lx_rel (k : Int) : Lx (relT k) [mk (relT k)] (fun r => ∃ l, r = 32 :: l) := by
 unfold relT
 split
 ·exact (Lx.two (by rfl)).weak fun _ _ => trivial
 ·split
  ·exact (Lx.two (by rfl)).weak fun _ _ => trivial
  ·split
   ·exact (Lx.one (by rfl)).weak fun _ ⟨l, hl⟩ => by rw [hl]; exact nopair_cons (by rfl)
   ·exact (Lx.two (by rfl)).weak fun _ _ => trivial
theorem lx_cond {c : Cd} (h : okCond c = true) : Lx (condT c) (condK c) Clear := by
 unfold okCond at h; unfold condT condK
 by_cases h0 : c.kind = 0
 ·rw [if_pos h0, if_pos h0]
  exact (Lx.one (c := 63) (by rfl)).weak fun r _ => nopair_any (fun b => by unfold Tx.two; simp) r
 ·rw [if_neg h0] at h
  rw [if_neg h0, if_neg h0]
  simp only [Bool.and_eq_true, okSide] at h
  have a := (lx_val h.1.2.1).append lx_sp (D := Any) (fun r _ => clear_cons (by rfl))
  have b := a.append (lx_rel c.kind) (fun _ _ => trivial)
  have d := b.append lx_sp (D := Any) (fun r _ => ⟨r, rfl⟩)
  have e := d.append (lx_val h.2.1) (fun _ _ => trivial)
  simpa using e
/- Declarations. -/
def tInt : List UInt8 := [105, 110, 116]
def declT (d : Dc) : List UInt8 := if txt d.type = [] then tInt ++ [32] ++ txt d.name else txt d.type ++ [42] ++ [32] ++ txt d.name
def declK (d : Dc) : List K := if txt d.type = [] then [ky tInt, nm d.name] else [nm d.type, mk [42], nm d.name]
def okDecl (d : Dc) : Bool := okN d.name && (decide (txt d.type = []) || okN d.type)
theorem lx_decl {d : Dc} (h : okDecl d = true) : Lx (declT d) (declK d) Clear := by
 unfold okDecl at h; unfold declT declK
 simp only [Bool.and_eq_true, Bool.or_eq_true, decide_eq_true_eq] at h
 by_cases h0 : txt d.type = []
 ·rw [if_pos h0, if_pos h0]
  have a := (lx_key (a := tInt) (word_of (by decide)) (by decide)).append lx_sp (D := Any) (fun r _ => clear_cons (by rfl))
  have b := a.append (lx_name h.1) (fun _ _ => trivial)
  simpa using b
 ·rw [if_neg h0, if_neg h0]
  have a := (lx_name (h.2.resolve_left h0)).append (Lx.one (c := 42) (by rfl)) (fun r _ => clear_cons (by rfl))
  have b := a.append lx_sp (D := Any) (fun r _ => nopair_cons (by rfl))
  have c := b.append (lx_name h.1) (fun _ _ => trivial)
  simpa [mk] using c
end Pn
end Go.Proofs.YtdlchhimkelinaaGreatDoor
namespace Go.Proofs.YtdlchhimkelinaaGreatDoor
namespace Pn
open Tx (Lx Clear NoPair Any)
theorem lx_b {b : UInt8} {a : List UInt8} {ts : List K} {D : List UInt8 → Prop} (hb : Tx.blk (b.toNat : Int) = true) (h : Lx a ts D) : Lx (b :: a) ts D :=
 (Lx.blank b hb).append h fun _ _ => trivial
theorem lx_m {c : UInt8} {a : List UInt8} {ts : List K} {D : List UInt8 → Prop} (h1 : Tx.one c.toNat = true) (h2 : ∀ b : UInt8, Tx.two (c.toNat : Int) (b.toNat : Int) = false) (h : Lx a ts D) : Lx (c :: a) (mk [c] :: ts) D :=
 (Lx.one h1).append h fun _ _ => nopair_any h2 _
theorem lx_m1 {c b : UInt8} {a : List UInt8} {ts : List K} {D : List UInt8 → Prop} (h1 : Tx.one c.toNat = true) (h2 : Tx.two (c.toNat : Int) (b.toNat : Int) = false) (h : Lx (b :: a) ts D) : Lx (c :: b :: a) (mk [c] :: ts) D :=
 (Lx.one h1).append h fun _ _ => nopair_cons h2
theorem lx_w {a : List UInt8} {b : UInt8} {c : List UInt8} {ts us : List K} {D : List UInt8 → Prop} (h : Lx a ts Clear) (g : Lx (b :: c) us D) (hb : Tx.wrd (b.toNat : Int) = false) : Lx (a ++ b :: c) (ts ++ us) D :=
 h.append g fun _ _ => clear_cons hb
theorem lx_a {a b : List UInt8} {ts us : List K} {D : List UInt8 → Prop} (h : Lx a ts Any) (g : Lx b us D) : Lx (a ++ b) (ts ++ us) D := h.append g fun _ _ => trivial
theorem np_semi (b : UInt8) : Tx.two ((59 : UInt8).toNat : Int) (b.toNat : Int) = false := by unfold Tx.two; simp
theorem np_open (b : UInt8) : Tx.two ((40 : UInt8).toNat : Int) (b.toNat : Int) = false := by unfold Tx.two; simp
theorem np_shut (b : UInt8) : Tx.two ((41 : UInt8).toNat : Int) (b.toNat : Int) = false := by unfold Tx.two; simp
theorem np_comma (b : UInt8) : Tx.two ((44 : UInt8).toNat : Int) (b.toNat : Int) = false := by unfold Tx.two; simp
theorem np_lb (b : UInt8) : Tx.two ((123 : UInt8).toNat : Int) (b.toNat : Int) = false := by unfold Tx.two; simp
theorem np_rb (b : UInt8) : Tx.two ((125 : UInt8).toNat : Int) (b.toNat : Int) = false := by unfold Tx.two; simp
/-- Two blanks for each brace. -/
def pad : Nat → List UInt8
 | 0 => []
 | d + 1 => pad d ++ [32, 32]
theorem lx_pad : ∀ d, Lx (pad d) [] Any
 | 0 => Lx.nil
 | d + 1 => lx_a (lx_pad d) (lx_b (by rfl) lx_sp)
theorem lx_padw (d : Nat) {a : List UInt8} {ts : List K} {D : List UInt8 → Prop} (h : Lx a ts D) : Lx (pad d ++ a) ts D := lx_a (lx_pad d) h
def tFree : List UInt8 := [102, 114, 101, 101]
def tIf : List UInt8 := [105, 102]
def tElse : List UInt8 := [101, 108, 115, 101]
def tWhile : List UInt8 := [119, 104, 105, 108, 101]
def tStruct : List UInt8 := [115, 116, 114, 117, 99, 116]
def tVoid : List UInt8 := [118, 111, 105, 100]
theorem lx_free : Lx tFree [ky tFree] Clear := lx_key (word_of (by decide)) (by decide)
theorem lx_if : Lx tIf [ky tIf] Clear := lx_key (word_of (by decide)) (by decide)
theorem lx_else : Lx tElse [ky tElse] Clear := lx_key (word_of (by decide)) (by decide)
theorem lx_while : Lx tWhile [ky tWhile] Clear := lx_key (word_of (by decide)) (by decide)
theorem lx_struct : Lx tStruct [ky tStruct] Clear := lx_key (word_of (by decide)) (by decide)
theorem lx_void : Lx tVoid [ky tVoid] Clear := lx_key (word_of (by decide)) (by decide)
/-- Items, parted by a comma and a blank; what stands behind begins with no letter and no digit. -/
def commaT {α : Type} (f : α → List UInt8) : List α → List UInt8
 | [] => []
 | [a] => f a
 | a :: b :: l => f a ++ 44 :: 32 :: commaT f (b :: l)
def commaK {α : Type} (f : α → List K) : List α → List K
 | [] => []
 | [a] => f a
 | a :: b :: l => f a ++ mk [44] :: commaK f (b :: l)
theorem lx_comma {α : Type} {f : α → List UInt8} {g : α → List K} : ∀ l : List α, (∀ a ∈ l, Lx (f a) (g a) Clear) → Lx (commaT f l) (commaK g l) Clear
 | [], _ => Lx.nil.weak fun _ _ => trivial
 | [a], h => h a List.mem_cons_self
 | a :: b :: l, h => lx_w (h a List.mem_cons_self) (lx_m (by rfl) np_comma (lx_b (by rfl) (lx_comma (b :: l) fun x hx => h x (List.mem_cons_of_mem _ hx)))) (by rfl)
/-- A statement, its line's end and what is behind it. -/
def stT (h : Hd) (t e : List UInt8) (d : Nat) (k : List UInt8) : List UInt8 :=
 if h.kind = 0 then 59 :: 10 :: k
 else if h.kind = 1 then pathT h.place ++ 32 :: 61 :: 32 :: (valT h.value ++ 59 :: 10 :: k)
 else if h.kind = 2 then tFree ++ 40 :: (pathT h.place ++ 41 :: 59 :: 10 :: k)
 else if h.kind = 3 then txt h.name ++ 40 :: (commaT valT h.args.l ++ 41 :: 59 :: 10 :: k)
 else if h.kind = 4 then tIf ++ 32 :: 40 :: (condT h.cond ++ 41 :: 32 :: 123 :: 10 :: (t ++ (pad d ++ 125 :: (if h.both then 32 :: (tElse ++ 32 :: 123 :: 10 :: (e ++ (pad d ++ 125 :: 10 :: k))) else 10 :: k))))
 else if h.kind = 5 then tWhile ++ 32 :: 40 :: (condT h.cond ++ 41 :: 32 :: 123 :: 10 :: (t ++ (pad d ++ 125 :: 10 :: k)))
 else 123 :: 10 :: (t ++ (pad d ++ 125 :: 10 :: k))
def stK (h : Hd) (t e k : List K) : List K :=
 if h.kind = 0 then mk [59] :: k
 else if h.kind = 1 then pathK h.place ++ mk [61] :: (valK h.value ++ mk [59] :: k)
 else if h.kind = 2 then ky tFree :: mk [40] :: (pathK h.place ++ mk [41] :: mk [59] :: k)
 else if h.kind = 3 then nm h.name :: mk [40] :: (commaK valK h.args.l ++ mk [41] :: mk [59] :: k)
 else if h.kind = 4 then ky tIf :: mk [40] :: (condK h.cond ++ mk [41] :: mk [123] :: (t ++ mk [125] :: (if h.both then ky tElse :: mk [123] :: (e ++ mk [125] :: k) else k)))
 else if h.kind = 5 then ky tWhile :: mk [40] :: (condK h.cond ++ mk [41] :: mk [123] :: (t ++ mk [125] :: k))
 else mk [123] :: (t ++ mk [125] :: k)
def linesT : SL → Nat → List UInt8
 | .nil, _ => []
 | .cons h _ _ t _ _ e r, d => pad d ++ stT h (linesT t (d + 1)) (linesT e (d + 1)) d (linesT r d)
def linesK : SL → List K
 | .nil => []
 | .cons h _ _ t _ _ e r => stK h (linesK t) (linesK e) (linesK r)
def noCall (h : Hd) : Bool := decide (txt h.name = []) && decide (h.args.l = [])
/-- May this be a statement, for itself (t0, e0: has it no Then, no Else)? -/
def okStmt (h : Hd) (t0 e0 : Bool) : Bool :=
 if h.kind = 0 then noP h.place && noVal h.value && noCond h.cond && noCall h && t0 && e0 && !h.both
 else if h.kind = 1 then okPath h.place && okVal h.value && noCond h.cond && noCall h && t0 && e0 && !h.both
 else if h.kind = 2 then okPath h.place && noVal h.value && noCond h.cond && noCall h && t0 && e0 && !h.both
 else if h.kind = 3 then h.args.l.all okSide && noP h.place && noVal h.value && noCond h.cond && okN h.name && t0 && e0 && !h.both
 else if h.kind = 4 then noP h.place && noVal h.value && okCond h.cond && noCall h && (h.both || e0)
 else if h.kind = 5 then noP h.place && noVal h.value && okCond h.cond && noCall h && e0 && !h.both
 else if h.kind = 6 then noP h.place && noVal h.value && noCond h.cond && noCall h && e0 && !h.both
 else false
def isNil : SL → Bool
 | .nil => true
 | .cons .. => false
def okList : SL → Bool
 | .nil => true
 | .cons h _ _ t _ _ e r => okStmt h (isNil t) (isNil e) && okList t && okList e && okList r
theorem lx_args {l : List Vl} (h : l.all okSide = true) : Lx (commaT valT l) (commaK valK l) Clear :=
 lx_comma l fun a ha => by
  have := List.all_eq_true.1 h a ha
  unfold okSide at this
  simp only [Bool.and_eq_true] at this
  exact lx_val this.1
theorem lx_stmt {h : Hd} {t0 e0 : Bool} {t e k : List UInt8} {tk ek kk : List K} {d : Nat} (ho : okStmt h t0 e0 = true) (ht : Lx t tk Any) (he : Lx e ek Any) (hk : Lx k kk Any) : Lx (stT h t e d k) (stK h tk ek kk) Any := by
 have hend : Lx (10 :: k) kk Any := lx_b (by rfl) hk
 have hsemi : Lx (59 :: 10 :: k) (mk [59] :: kk) Any := lx_m (by rfl) np_semi hend
 have hshut : Lx (41 :: 59 :: 10 :: k) (mk [41] :: mk [59] :: kk) Any := lx_m (by rfl) np_shut hsemi
 have hblk : ∀ {a b : List UInt8} {u v : List K}, Lx a u Any → Lx b v Any → Lx (123 :: 10 :: (a ++ (pad d ++ 125 :: b))) (mk [123] :: (u ++ mk [125] :: v)) Any :=
  fun ha hb => lx_m (by rfl) np_lb (lx_b (by rfl) (lx_a ha (lx_padw d (lx_m (by rfl) np_rb hb))))
 unfold okStmt at ho; unfold stT stK
 by_cases h0 : h.kind = 0
 ·rw [if_pos h0, if_pos h0]; exact hsemi
 by_cases h1 : h.kind = 1
 ·rw [if_neg h0, if_pos h1] at ho
  simp only [Bool.and_eq_true] at ho
  rw [if_neg h0, if_neg h0, if_pos h1, if_pos h1]
  exact lx_w (lx_path ho.1.1.1.1.1.1) (lx_b (by rfl) (lx_m1 (by rfl) (by rfl) (lx_b (by rfl) (lx_w (lx_val ho.1.1.1.1.1.2) hsemi (by rfl))))) (by rfl)
 by_cases h2 : h.kind = 2
 ·rw [if_neg h0, if_neg h1, if_pos h2] at ho
  simp only [Bool.and_eq_true] at ho
  rw [if_neg h0, if_neg h0, if_neg h1, if_neg h1, if_pos h2, if_pos h2]
  exact lx_w lx_free (lx_m (by rfl) np_open (lx_w (lx_path ho.1.1.1.1.1.1) hshut (by rfl))) (by rfl)
 by_cases h3 : h.kind = 3
 ·rw [if_neg h0, if_neg h1, if_neg h2, if_pos h3] at ho
  simp only [Bool.and_eq_true] at ho
  rw [if_neg h0, if_neg h0, if_neg h1, if_neg h1, if_neg h2, if_neg h2, if_pos h3, if_pos h3]
  exact lx_w (lx_name ho.1.1.1.2) (lx_m (by rfl) np_open (lx_w (lx_args ho.1.1.1.1.1.1.1) hshut (by rfl))) (by rfl)
 by_cases h4 : h.kind = 4
 ·rw [if_neg h0, if_neg h1, if_neg h2, if_neg h3, if_pos h4] at ho
  simp only [Bool.and_eq_true] at ho
  rw [if_neg h0, if_neg h0, if_neg h1, if_neg h1, if_neg h2, if_neg h2, if_neg h3, if_neg h3, if_pos h4, if_pos h4]
  refine lx_w lx_if (lx_b (by rfl) (lx_m (by rfl) np_open (lx_w (lx_cond ho.1.1.2) (lx_m (by rfl) np_shut (lx_b (by rfl) (hblk ht ?_))) (by rfl)))) (by rfl)
  by_cases hb : h.both = true
  ·rw [if_pos hb, if_pos hb]
   exact lx_b (by rfl) (lx_w lx_else (lx_b (by rfl) (hblk he hend)) (by rfl))
  ·rw [if_neg hb, if_neg hb]; exact hend
 by_cases h5 : h.kind = 5
 ·rw [if_neg h0, if_neg h1, if_neg h2, if_neg h3, if_neg h4, if_pos h5] at ho
  simp only [Bool.and_eq_true] at ho
  rw [if_neg h0, if_neg h0, if_neg h1, if_neg h1, if_neg h2, if_neg h2, if_neg h3, if_neg h3, if_neg h4, if_neg h4, if_pos h5, if_pos h5]
  exact lx_w lx_while (lx_b (by rfl) (lx_m (by rfl) np_open (lx_w (lx_cond ho.1.1.1.2) (lx_m (by rfl) np_shut (lx_b (by rfl) (hblk ht hend))) (by rfl)))) (by rfl)
 rw [if_neg h0, if_neg h0, if_neg h1, if_neg h1, if_neg h2, if_neg h2, if_neg h3, if_neg h3, if_neg h4, if_neg h4, if_neg h5, if_neg h5]
 exact hblk ht hend
theorem lx_lines : ∀ (l : SL) (d : Nat), okList l = true → Lx (linesT l d) (linesK l) Any
 | .nil, _, _ => Lx.nil
 | .cons h _ _ t _ _ e r, d, ho => by
  simp only [okList, Bool.and_eq_true] at ho
  exact lx_padw d (lx_stmt ho.1.1.1 (lx_lines t (d + 1) ho.1.1.2) (lx_lines e (d + 1) ho.1.2) (lx_lines r d ho.2))
/- Programs. -/
def fieldsT (d : Nat) : List Dc → List UInt8 → List UInt8
 | [], k => k
 | x :: l, k => pad d ++ (declT x ++ 59 :: 10 :: fieldsT d l k)
def fieldsK : List Dc → List K → List K
 | [], k => k
 | x :: l, k => declK x ++ mk [59] :: fieldsK l k
theorem lx_fields {d : Nat} {k : List UInt8} {kk : List K} (hk : Lx k kk Any) : ∀ l : List Dc, l.all okDecl = true → Lx (fieldsT d l k) (fieldsK l kk) Any
 | [], _ => hk
 | x :: l, h => by
  simp only [List.all_cons, Bool.and_eq_true] at h
  exact lx_padw d (lx_w (lx_decl h.1) (lx_m (by rfl) np_semi (lx_b (by rfl) (lx_fields hk l h.2))) (by rfl))
def structsT : List Sr → List UInt8 → List UInt8
 | [], k => k
 | x :: l, k => tStruct ++ 32 :: (txt x.name ++ 32 :: 123 :: 10 :: fieldsT 1 x.fields.l (125 :: 10 :: structsT l k))
def structsK : List Sr → List K → List K
 | [], k => k
 | x :: l, k => ky tStruct :: nm x.name :: mk [123] :: fieldsK x.fields.l (mk [125] :: structsK l k)
def okField (d : Dc) : Bool := okDecl d && !decide (txt d.type = [])
def okStruct (s : Sr) : Bool := okN s.name && s.fields.l.all okField
theorem fields_decls {l : List Dc} (h : l.all okField = true) : l.all okDecl = true := by
 rw [List.all_eq_true] at h ⊢
 intro x hx
 have := h x hx
 unfold okField at this
 simp only [Bool.and_eq_true] at this
 exact this.1
theorem lx_structs {k : List UInt8} {kk : List K} (hk : Lx k kk Any) : ∀ l : List Sr, l.all okStruct = true → Lx (structsT l k) (structsK l kk) Any
 | [], _ => hk
 | x :: l, h => by
  simp only [List.all_cons, Bool.and_eq_true, okStruct] at h
  exact lx_w lx_struct (lx_b (by rfl) (lx_w (lx_name h.1.1) (lx_b (by rfl) (lx_m (by rfl) np_lb (lx_b (by rfl) (lx_fields (lx_m (by rfl) np_rb (lx_b (by rfl) (lx_structs hk l h.2))) _ (fields_decls h.1.2))))) (by rfl))) (by rfl)
def procsT : List Pc → List UInt8
 | [] => []
 | x :: l => tVoid ++ 32 :: (txt x.name ++ 40 :: (commaT declT x.params.l ++ 41 :: 32 :: 123 :: 10 :: fieldsT 1 x.locals_.l (linesT x.body 1 ++ 125 :: 10 :: procsT l)))
def procsK : List Pc → List K
 | [] => []
 | x :: l => ky tVoid :: nm x.name :: mk [40] :: (commaK declK x.params.l ++ mk [41] :: mk [123] :: fieldsK x.locals_.l (linesK x.body ++ mk [125] :: procsK l))
def okProc (p : Pc) : Bool := okN p.name && p.params.l.all okDecl && p.locals_.l.all okDecl && okList p.body
theorem lx_procs : ∀ l : List Pc, l.all okProc = true → Lx (procsT l) (procsK l) Any
 | [], _ => Lx.nil
 | x :: l, h => by
  simp only [List.all_cons, Bool.and_eq_true, okProc] at h
  have hps : Lx (commaT declT x.params.l) (commaK declK x.params.l) Clear := lx_comma _ fun a ha => lx_decl (List.all_eq_true.1 h.1.1.1.2 a ha)
  have hbody : Lx (linesT x.body 1 ++ 125 :: 10 :: procsT l) (linesK x.body ++ mk [125] :: procsK l) Any := lx_a (lx_lines _ 1 h.1.2) (lx_m (by rfl) np_rb (lx_b (by rfl) (lx_procs l h.2)))
  exact lx_w lx_void (lx_b (by rfl) (lx_w (lx_name h.1.1.1.1) (lx_m (by rfl) np_open (lx_w hps (lx_m (by rfl) np_shut (lx_b (by rfl) (lx_m (by rfl) np_lb (lx_b (by rfl) (lx_fields hbody _ h.1.1.2))))) (by rfl))) (by rfl))) (by rfl)
/-- What is printed of a program, and its signs. -/
def progT (p : Pg) : List UInt8 := structsT p.structs.l (fieldsT 0 p.globals.l (procsT p.procs.l))
def progK (p : Pg) : List K := structsK p.structs.l (fieldsK p.globals.l (procsK p.procs.l))
def okProg (p : Pg) : Bool := p.structs.l.all okStruct && p.globals.l.all okDecl && p.procs.l.all okProc
theorem lx_prog {p : Pg} (h : okProg p = true) : Lx (progT p) (progK p) Any := by
 simp only [okProg, Bool.and_eq_true] at h
 exact lx_structs (lx_fields (lx_procs _ h.2) _ h.1.2) _ h.1.1
/-- The printed text of a program whose parts may be is read as its signs. -/
theorem alls_prog {p : Pg} (h : okProg p = true) {t : ByteArray} (ht : t.data.toList = progT p) (hz : t.size ≤ 65536) : (Tx.alls t).2.2 = 0 ∧ (Tx.alls t).1.map Tx.key = progK p ++ [(0, [], 0)] :=
 Lx.alls (by rw [ht]; exact lx_prog h) hz
end Pn
end Go.Proofs.YtdlchhimkelinaaGreatDoor
namespace Go.Proofs.YtdlchhimkelinaaGreatDoor
namespace Pn
open Pr (th St Res)
def toTk (k : K) : Pr.Tk := ⟨k.1, ⟨k.2.1.toArray⟩, k.2.2⟩
/-- The signs from i on are just these. -/
def Rs (t : List Pr.Tk) (i : Nat) (ks : List K) : Prop := t.drop i = ks.map toTk
def hd : List K → List UInt8
 | [] => []
 | x :: _ => x.2.1
def kd : List K → Int
 | [] => 0
 | x :: _ => x.1
section
variable {t : List Pr.Tk}
theorem Rs.sg {i : Nat} {x : K} {r : List K} (h : Rs t i (x :: r)) : Pr.sg t i = toTk x ∧ Rs t (i + 1) r := by
 unfold Rs at h ⊢
 constructor
 ·unfold Pr.sg
  rw [List.getD_eq_getElem?_getD, ← List.head?_drop, h]; rfl
 ·rw [← List.drop_drop, h]; rfl
theorem Rs.sg_nil {i : Nat} (h : Rs t i []) : Pr.sg t i = ⟨0, ByteArray.empty, 0⟩ := by
 unfold Rs at h; unfold Pr.sg
 rw [List.getD_eq_getElem?_getD, ← List.head?_drop, h]; rfl
theorem Rs.is {i : Nat} {ks : List K} (h : Rs t i ks) (s : ByteArray) : Pr.is t i s = decide (hd ks = s.data.toList) := by
 unfold Pr.is
 rw [Lib.toList_data, Lib.toList_data]
 cases ks with
 | nil => rw [h.sg_nil]; exact Bool.beq_eq_decide_eq _ _
 | cons x r => rw [h.sg.1]; show ((x.2.1.toArray.toList == s.data.toList)) = _; exact Bool.beq_eq_decide_eq _ _
theorem Rs.is_yes {i : Nat} {ks : List K} (h : Rs t i ks) {s : ByteArray} (e : hd ks = s.data.toList) : Pr.is t i s = true := by rw [h.is]; exact decide_eq_true e
theorem Rs.is_no {i : Nat} {ks : List K} (h : Rs t i ks) {s : ByteArray} (e : hd ks ≠ s.data.toList) : Pr.is t i s = false := by rw [h.is]; exact decide_eq_false e
theorem Rs.kind {i : Nat} {ks : List K} (h : Rs t i ks) : (Pr.sg t i).kind = kd ks := by
 cases ks with
 | nil => rw [h.sg_nil]; rfl
 | cons x r => rw [h.sg.1]; rfl
/-- A part of the parser makes this, and is then where these signs are ahead. -/
def Bk (t : List Pr.Tk) {α : Type} (res : Res α) (a : α) (o b : Int) (r : List K) : Prop := ∃ i, res = .ok (a, ⟨i, o, b⟩) ∧ Rs t i r
theorem Bk.th {α β : Type} {res : Res α} {a : α} {o b o' b' : Int} {r q : List K} {f : α → St → Res β} {c : β} (h : Bk t res a o b r) (g : ∀ i, Rs t i r → Bk t (f a ⟨i, o, b⟩) c o' b' q) : Bk t (th res f) c o' b' q := by
 obtain ⟨i, rfl, hi⟩ := h
 exact g i hi
theorem Bk.ok {α : Type} {a : α} {i : Nat} {o b : Int} {r : List K} (h : Rs t i r) : Bk t (.ok (a, ⟨i, o, b⟩)) a o b r := ⟨i, rfl, h⟩
theorem must_bk {s : ByteArray} {i : Nat} {o b : Int} {x : K} {r : List K} (h : Rs t i (x :: r)) (e : x.2.1 = s.data.toList) : Bk t (Pr.must t s ⟨i, o, b⟩) (toTk x) o b r := by
 unfold Pr.must
 rw [if_pos (h.is_yes e), h.sg.1]
 exact ⟨i + 1, rfl, h.sg.2⟩
theorem name_bk {x : ByteArray} {i : Nat} {o b : Int} {r : List K} (h : Rs t i (nm x :: r)) : Bk t (Pr.name t ⟨i, o, b⟩) (toTk (nm x)) o b r := by
 unfold Pr.name
 have hk : (Pr.sg t i).kind = 1 := h.kind
 rw [if_pos hk, h.sg.1]
 exact ⟨i + 1, rfl, h.sg.2⟩
theorem nm_text (x : ByteArray) : (toTk (nm x)).text = x := by
 show (⟨(x.data.toList).toArray⟩ : ByteArray) = x
 rw [Array.toArray_toList]
theorem empty_of {x : ByteArray} (h : txt x = []) : x = ByteArray.empty := by
 have : x = ⟨(txt x).toArray⟩ := (nm_text x).symm
 rw [this, h]; rfl
theorem okN_ne {x : ByteArray} (h : okN x = true) {a : List UInt8} (ha : Tx.isKeyL a = true ∨ ∀ b l, a = b :: l → Tx.wrd (b.toNat : Int) = false) : txt x ≠ a := by
 intro e
 obtain ⟨⟨⟨b, l, hb, hl⟩, hw, _⟩, h2⟩ := okN_word h
 rcases ha with ha | ha
 ·rw [e, ha] at h2; cases h2
 ·have h3 := ha b l (e.symm.trans hb)
  rw [hw b (by rw [hb]; exact List.mem_cons_self)] at h3; cases h3
theorem notword {a : UInt8} (h : Tx.wrd (a.toNat : Int) = false) (l : List UInt8) : ∀ b m, a :: l = b :: m → Tx.wrd (b.toNat : Int) = false := fun b m e => by
 injection e with e _; rw [← e]; exact h
theorem digits_ne (n : Nat) {a : List UInt8} (ha : ∀ b ∈ a.head?, Tx.dgt (b.toNat : Int) = false) : Tx.digits n ≠ a := by
 intro e
 obtain ⟨h1, h2, _⟩ := Tx.digits_ok n
 cases hd : Tx.digits n with
 | nil => exact h1 hd
 | cons b l =>
  have h3 := ha b (by rw [← e, hd]; rfl)
  rw [h2 b (by rw [hd]; exact List.mem_cons_self)] at h3; cases h3
theorem hops_bk : ∀ (l : List Hp) (n : Nat) (acc : List Hp) (i : Nat) (o b : Int) (r : List K), l.length ≤ n → Rs t i (hopsK l ++ r) → hd r ≠ [45, 62] → Bk t (Pr.hops t n acc ⟨i, o, b⟩) (acc ++ l.map Hp.er) o b r
 | [], 0, acc, i, o, b, r, _, h, hr => by
  unfold Pr.hops
  rw [if_neg (by rw [Rs.is_no (ks := r) h hr]; decide), List.map_nil, List.append_nil]
  exact Bk.ok h
 | [], n + 1, acc, i, o, b, r, _, h, hr => by
  unfold Pr.hops
  rw [if_neg (by rw [Rs.is_no (ks := r) h hr]; decide), List.map_nil, List.append_nil]
  exact Bk.ok h
 | x :: l, 0, acc, i, o, b, r, hl, h, hr => by simp at hl
 | x :: l, n + 1, acc, i, o, b, r, hl, h, hr => by
  unfold Pr.hops
  have h1 : Rs t i (mk [45, 62] :: nm x.name :: (hopsK l ++ r)) := h
  rw [if_pos (h1.is_yes rfl)]
  refine (name_bk h1.sg.2).th fun j hj => ?_
  rw [nm_text]
  have := hops_bk l n (acc ++ [⟨x.name, 0⟩]) j o b r (by simpa using hl) hj hr
  rwa [List.append_assoc] at this
theorem path_bk {w : Pth} {i : Nat} {o b : Int} {r : List K} (ho : okPath w = true) (h : Rs t i (pathK w ++ r)) (hr : hd r ≠ [45, 62]) : Bk t (Pr.path t ⟨i, o, b⟩) w.er o b r := by
 unfold okPath at ho
 simp only [Bool.and_eq_true, decide_eq_true_eq] at ho
 unfold Pr.path
 refine (name_bk h).th fun j hj => ?_
 refine (hops_bk w.hops.l 8 [] j o b r ho.1.2 hj hr).th fun m hm => ?_
 rw [nm_text]
 exact Bk.ok hm
theorem term_bk {x : Tm} {i : Nat} {o b : Int} {r : List K} (ho : okTerm x = true) (h : Rs t i (termK x ++ r)) : Bk t (Pr.term t ⟨i, o, b⟩) x.er o b r := by
 unfold okTerm at ho; unfold termK at h; unfold Pr.term
 by_cases h0 : txt x.name = []
 ·rw [if_pos h0] at h
  have h1 : Rs t i (dg x.n :: r) := h
  have hk : (Pr.sg t i).kind = 2 := h1.kind
  rw [if_pos hk, h1.sg.1]
  refine ⟨i + 1, ?_, h1.sg.2⟩
  unfold Tm.er
  rw [empty_of h0]; rfl
 ·rw [if_neg h0] at h ho
  simp only [Bool.and_eq_true, decide_eq_true_eq] at ho
  have h1 : Rs t i (nm x.name :: r) := h
  rw [if_neg (by rw [h1.kind]; show ¬ (1 : Int) = 2; decide)]
  refine (name_bk h1).th fun j hj => ?_
  rw [nm_text]
  unfold Tm.er
  rw [ho.2]
  exact Bk.ok hj
theorem noP_er {w : Pth} (h : noP w = true) : w.er = Pr.noPth := by
 unfold noP at h
 simp only [Bool.and_eq_true, decide_eq_true_eq] at h
 unfold Pth.er Sl.er
 rw [empty_of h.1, h.2]; rfl
theorem noT_er {x : Tm} (h : noT x = true) : x.er = Pr.noTm := by
 unfold noT at h
 simp only [Bool.and_eq_true, decide_eq_true_eq] at h
 unfold Tm.er
 rw [empty_of h.1, h.2]; rfl
theorem noVal_er {v : Vl} (h : noVal v = true) : v.er = Pr.noVl := by
 unfold noVal okVal at h
 simp only [Bool.and_eq_true, decide_eq_true_eq] at h
 obtain ⟨h0, h⟩ := h
 rw [if_pos (.inl h0)] at h
 simp only [Bool.and_eq_true, decide_eq_true_eq] at h
 unfold Vl.er
 rw [h0, noP_er h.1.1.1, noT_er h.1.1.2, noT_er h.1.2, empty_of h.2]; rfl
theorem noCond_er {c : Cd} (h : noCond c = true) : c.er = Pr.noCd := by
 unfold noCond at h
 simp only [Bool.and_eq_true, decide_eq_true_eq] at h
 unfold Cd.er
 rw [h.1.1, noVal_er h.1.2, noVal_er h.2]; rfl
theorem side_bk {v : Vl} {i : Nat} {o b : Int} {r : List K} (ho : okSide v = true) (h : Rs t i (valK v ++ r)) (hr : hd r ≠ [45, 62]) : Bk t (Pr.side t ⟨i, o, b⟩) v.er o b r := by
 unfold okSide at ho
 simp only [Bool.and_eq_true, Bool.or_eq_true, decide_eq_true_eq] at ho
 obtain ⟨hv, hk⟩ := ho
 unfold Pr.side
 by_cases h0 : v.kind = 0
 ·have hn : noVal v = true := by unfold noVal; rw [hv, decide_eq_true h0]; rfl
  unfold valK at h
  rw [if_pos h0] at h
  have h1 : Rs t i (ky tNull :: r) := h
  rw [if_pos (h1.is_yes rfl), noVal_er hn]
  exact ⟨i + 1, rfl, h1.sg.2⟩
 by_cases h1 : v.kind = 1
 ·unfold okVal at hv
  rw [if_neg (by omega), if_pos h1] at hv
  simp only [Bool.and_eq_true, decide_eq_true_eq] at hv
  unfold valK at h
  rw [if_neg h0, if_pos h1] at h
  have hw := hv.2
  unfold okPath at hw
  simp only [Bool.and_eq_true] at hw
  rw [if_neg (by rw [h.is_no (s := ⟨#[110, 117, 108, 108]⟩) (okN_ne hw.1.1 (.inl (by decide)))]; decide), if_neg (by rw [h.kind]; show ¬ (1 : Int) = 2; decide)]
  refine (path_bk hv.2 h hr).th fun j hj => ?_
  refine ⟨j, ?_, hj⟩
  unfold Vl.er
  rw [h1, noT_er hv.1.1.1, noT_er hv.1.1.2, empty_of hv.1.2]; rfl
 have h4 : v.kind = 4 := by omega
 unfold okVal at hv
 rw [if_neg (by omega), if_neg h1, if_neg (by omega), if_pos h4] at hv
 simp only [Bool.and_eq_true, decide_eq_true_eq] at hv
 unfold valK at h
 rw [if_neg h0, if_neg h1, if_neg (by omega), if_neg (by omega), if_pos h4] at h
 have h5 : Rs t i (dg v.left.n :: r) := h
 have hk5 : (Pr.sg t i).kind = 2 := h5.kind
 rw [if_neg (by rw [h5.is_no (s := ⟨#[110, 117, 108, 108]⟩) (digits_ne _ (by decide))]; decide), if_pos hk5]
 have ht : okTerm v.left = true := by unfold okTerm; rw [if_pos hv.1.2]; exact hv.2
 have h6 : Rs t i (termK v.left ++ r) := by unfold termK; rw [if_pos hv.1.2]; exact h5
 refine (term_bk ht h6).th fun j hj => ?_
 refine ⟨j, ?_, hj⟩
 unfold Vl.er
 rw [h4, noP_er hv.1.1.1.1, noT_er hv.1.1.1.2, empty_of hv.1.1.2]; rfl
end
end Pn
end Go.Proofs.YtdlchhimkelinaaGreatDoor
namespace Go.Proofs.YtdlchhimkelinaaGreatDoor
namespace Pn
open Pr (th St Res)
section
variable {t : List Pr.Tk}
theorem Rs.no {i : Nat} {x : K} {r : List K} (h : Rs t i (x :: r)) {s : ByteArray} (e : x.2.1 ≠ s.data.toList) : Pr.is t i s = false := Rs.is_no (ks := x :: r) h e
theorem Rs.len {i : Nat} {ks : List K} (h : Rs t i ks) : ks.length ≤ t.length := by
 have := congrArg List.length h
 rw [List.length_drop, List.length_map] at this; omega
theorem Rs.sums {i : Nat} {ks : List K} {o b : Int} (h : Rs t i ks) (ht : ∀ x r, ks = x :: r → hd r ≠ [43] ∧ hd r ≠ [45] ∨ x.1 ≠ 1 ∧ x.1 ≠ 2) : Pr.sums t ⟨i, o, b⟩ = false := by
 unfold Pr.sums
 cases ks with
 | nil =>
  have : (Pr.sg t i).kind = 0 := by rw [h.sg_nil]
  rw [this]; rfl
 | cons x r =>
  have hk : (Pr.sg t i).kind = x.1 := h.kind
  rw [hk]
  rcases ht x r rfl with ⟨h1, h2⟩ | ⟨h1, h2⟩
  ·rw [h.sg.2.is_no (s := ⟨#[43]⟩) h1, h.sg.2.is_no (s := ⟨#[45]⟩) h2]; simp
  ·have e1 : (x.1 == 1) = false := by rw [beq_eq_false_iff_ne]; exact h1
   have e2 : (x.1 == 2) = false := by rw [beq_eq_false_iff_ne]; exact h2
   rw [e1, e2]; rfl
theorem term_hd {x : Tm} (ho : okTerm x = true) {a : List UInt8} (ha : Tx.isKeyL a = true) (h2 : ∀ b ∈ a.head?, Tx.dgt (b.toNat : Int) = false) (r : List K) : hd (termK x ++ r) ≠ a := by
 unfold okTerm at ho; unfold termK
 by_cases h0 : txt x.name = []
 ·rw [if_pos h0]; exact digits_ne _ h2
 ·rw [if_neg h0] at ho ⊢
  simp only [Bool.and_eq_true] at ho
  exact okN_ne ho.1 (.inl ha)
theorem sum_bk {v : Vl} {i : Nat} {o b : Int} {r : List K} {c : UInt8} (hl : okTerm v.left = true) (hr : okTerm v.right = true) (hp : noP v.path = true) (hy : txt v.type = []) (hc : c = 43 ∧ v.kind = 5 ∨ c = 45 ∧ v.kind = 6)
  (h : Rs t i (termK v.left ++ mk [c] :: (termK v.right ++ r))) : Bk t (Pr.value t ⟨i, o, b⟩) v.er o b r := by
 unfold Pr.value
 rw [if_neg (by rw [h.is_no (s := ⟨#[110, 101, 119]⟩) (term_hd hl (by decide) (by decide) _)]; decide), if_neg (by rw [h.is_no (s := ⟨#[105, 110, 112, 117, 116]⟩) (term_hd hl (by decide) (by decide) _)]; decide)]
 have hs : Pr.sums t ⟨i, o, b⟩ = true := by
  unfold Pr.sums
  have hk : (Pr.sg t i).kind = 1 ∨ (Pr.sg t i).kind = 2 := by
   rw [h.kind]; unfold termK; split
   ·exact .inr rfl
   ·exact .inl rfl
  have h2 : Rs t (i + 1) (mk [c] :: (termK v.right ++ r)) := by
   unfold termK at h; exact h.sg.2
  have e1 : ((Pr.sg t i).kind == 1 || (Pr.sg t i).kind == 2) = true := by
   rcases hk with hk | hk <;> rw [hk] <;> rfl
  show (((Pr.sg t i).kind == 1 || (Pr.sg t i).kind == 2) && (Pr.is t (i + 1) ⟨#[43]⟩ || Pr.is t (i + 1) ⟨#[45]⟩)) = true
  rw [e1]
  rcases hc with ⟨rfl, _⟩ | ⟨rfl, _⟩
  ·rw [h2.is_yes (s := ⟨#[43]⟩) rfl]; rfl
  ·rw [h2.is_yes (s := ⟨#[45]⟩) rfl]; simp
 rw [if_pos hs]
 unfold Pr.sum
 refine (term_bk hl h).th fun j hj => ?_
 refine (term_bk hr hj.sg.2).th fun m hm => ?_
 refine ⟨m, ?_, hm⟩
 unfold Vl.er
 rw [noP_er hp, empty_of hy]
 rcases hc with ⟨rfl, hk⟩ | ⟨rfl, hk⟩
 ·rw [hk, if_neg (by rw [hj.no (s := ⟨#[45]⟩) (by decide)]; decide)]; rfl
 ·rw [hk, if_pos (hj.is_yes (s := ⟨#[45]⟩) rfl)]; rfl
theorem value_bk {v : Vl} {i : Nat} {o b : Int} {r : List K} (ho : okVal v = true) (h : Rs t i (valK v ++ r)) (hr : hd r ≠ [45, 62]) (hr1 : hd r ≠ [43]) (hr2 : hd r ≠ [45]) : Bk t (Pr.value t ⟨i, o, b⟩) v.er o b r := by
 by_cases h56 : v.kind = 5 ∨ v.kind = 6
 ·have hv := ho
  unfold okVal at hv
  rw [if_neg (by omega), if_neg (by omega), if_neg (by omega), if_neg (by omega), if_pos h56] at hv
  simp only [Bool.and_eq_true, decide_eq_true_eq] at hv
  unfold valK at h
  rw [if_neg (by omega), if_neg (by omega), if_neg (by omega), if_neg (by omega), if_neg (by omega)] at h
  rcases h56 with h5 | h6
  ·rw [if_pos h5] at h
   exact sum_bk hv.1.2 hv.2 hv.1.1.1 hv.1.1.2 (.inl ⟨rfl, h5⟩) (by simpa using h)
  ·rw [if_neg (by omega)] at h
   exact sum_bk hv.1.2 hv.2 hv.1.1.1 hv.1.1.2 (.inr ⟨rfl, h6⟩) (by simpa using h)
 unfold Pr.value
 by_cases h2 : v.kind = 2
 ·unfold okVal at ho
  rw [if_neg (by omega), if_neg (by omega), if_pos h2] at ho
  simp only [Bool.and_eq_true] at ho
  unfold valK at h
  rw [if_neg (by omega), if_neg (by omega), if_pos h2] at h
  have h1 : Rs t i (ky tNew :: nm v.type :: r) := h
  rw [if_pos (h1.is_yes rfl)]
  refine (name_bk h1.sg.2).th fun j hj => ?_
  refine ⟨j, ?_, hj⟩
  rw [nm_text]
  unfold Vl.er
  rw [h2, noP_er ho.1.1.1, noT_er ho.1.1.2, noT_er ho.1.2]; rfl
 by_cases h3 : v.kind = 3
 ·unfold okVal at ho
  rw [if_pos (.inr h3)] at ho
  simp only [Bool.and_eq_true, decide_eq_true_eq] at ho
  unfold valK at h
  rw [if_neg (by omega), if_neg (by omega), if_neg h2, if_pos h3] at h
  have h1 : Rs t i (ky tInput :: r) := h
  rw [if_neg (by rw [h1.no (s := ⟨#[110, 101, 119]⟩) (by decide)]; decide), if_pos (h1.is_yes rfl)]
  refine ⟨i + 1, ?_, h1.sg.2⟩
  unfold Vl.er
  rw [h3, noP_er ho.1.1.1, noT_er ho.1.1.2, noT_er ho.1.2, empty_of ho.2]; rfl
 have hk : v.kind = 0 ∨ v.kind = 1 ∨ v.kind = 4 := by
  have ho' := ho
  unfold okVal at ho'
  by_cases h0 : v.kind = 0
  ·exact .inl h0
  by_cases h1 : v.kind = 1
  ·exact .inr (.inl h1)
  by_cases h4 : v.kind = 4
  ·exact .inr (.inr h4)
  rw [if_neg (by omega), if_neg h1, if_neg h2, if_neg h4, if_neg h56] at ho'
  cases ho'
 have hs : okSide v = true := by
  unfold okSide; rw [ho]
  rcases hk with h | h | h <;> simp [h]
 have hside := fun hr => side_bk (o := o) (b := b) hs h hr
 rcases hk with h0 | h1 | h4
 ·unfold valK at h
  rw [if_pos h0] at h
  rw [if_neg (by rw [h.is_no (s := ⟨#[110, 101, 119]⟩) (by show tNull ≠ _; decide)]; decide), if_neg (by rw [h.is_no (s := ⟨#[105, 110, 112, 117, 116]⟩) (by show tNull ≠ _; decide)]; decide), if_neg (by rw [h.sums (fun x q e => .inr (by injection e with e _; rw [← e]; decide))]; decide)]
  exact hside hr
 ·have hv := ho
  unfold okVal at hv
  rw [if_neg (by omega), if_pos h1] at hv
  simp only [Bool.and_eq_true, decide_eq_true_eq] at hv
  have hw := hv.2
  unfold okPath at hw
  simp only [Bool.and_eq_true] at hw
  unfold valK at h
  rw [if_neg (by omega), if_pos h1] at h
  rw [if_neg (by rw [h.is_no (s := ⟨#[110, 101, 119]⟩) (okN_ne hw.1.1 (.inl (by decide)))]; decide), if_neg (by rw [h.is_no (s := ⟨#[105, 110, 112, 117, 116]⟩) (okN_ne hw.1.1 (.inl (by decide)))]; decide), if_neg]
  ·exact hside hr
  ·rw [h.sums]
   ·decide
   ·intro x q e
    refine .inl ?_
    have e' : nm v.path.name :: (hopsK v.path.hops.l ++ r) = x :: q := e
    injection e' with _ e'
    rw [← e']
    cases v.path.hops.l with
    | nil => exact ⟨hr1, hr2⟩
    | cons a l => exact ⟨by show ([45, 62] : List UInt8) ≠ _; decide, by show ([45, 62] : List UInt8) ≠ _; decide⟩
 ·unfold valK at h
  rw [if_neg (by omega), if_neg (by omega), if_neg (by omega), if_neg (by omega), if_pos h4] at h
  rw [if_neg (by rw [h.is_no (s := ⟨#[110, 101, 119]⟩) (digits_ne _ (by decide))]; decide), if_neg (by rw [h.is_no (s := ⟨#[105, 110, 112, 117, 116]⟩) (digits_ne _ (by decide))]; decide), if_neg]
  ·exact hside hr
  ·rw [h.sums]
   ·decide
   ·intro x q e
    refine .inl ?_
    have e' : dg v.left.n :: r = x :: q := e
    injection e' with _ e'
    rw [← e']; exact ⟨hr1, hr2⟩
/-- What a side begins with is no mark, and no key but null. -/
theorem side_hd {v : Vl} (ho : okSide v = true) (r : List K) {a : List UInt8} (ha : ∀ b ∈ a.head?, Tx.wrd (b.toNat : Int) = false) : hd (valK v ++ r) ≠ a := by
 have hw : ∀ b l, a = b :: l → Tx.wrd (b.toNat : Int) = false := fun b l e => ha b (by rw [e]; rfl)
 have hd' : ∀ b ∈ a.head?, Tx.dgt (b.toNat : Int) = false := fun b hb => by
  have := ha b hb
  unfold Tx.wrd at this; simp at this; exact this.2
 unfold okSide at ho
 simp only [Bool.and_eq_true, Bool.or_eq_true, decide_eq_true_eq] at ho
 obtain ⟨hv, hk⟩ := ho
 unfold valK
 by_cases h0' : v.kind = 0
 ·rw [if_pos h0']
  show tNull ≠ a
  intro e
  have := hw 110 [117, 108, 108] e.symm
  revert this; decide
 by_cases h1 : v.kind = 1
 ·unfold okVal at hv
  rw [if_neg (by omega), if_pos h1] at hv
  simp only [Bool.and_eq_true] at hv
  have hx := hv.2
  unfold okPath at hx
  simp only [Bool.and_eq_true] at hx
  rw [if_neg h0', if_pos h1]
  exact okN_ne hx.1.1 (.inr hw)
 ·rw [if_neg h0', if_neg h1, if_neg (by omega), if_neg (by omega), if_pos (by omega)]
  exact digits_ne _ hd'
theorem rel_bk {k : Int} {i : Nat} {o b : Int} {r : List K} (h1 : 1 ≤ k) (h4 : k ≤ 4) (h : Rs t i (mk (relT k) :: r)) : Bk t (Pr.relation t ⟨i, o, b⟩) k o b r := by
 unfold Pr.relation
 by_cases e1 : k = 1
 ·subst e1; rw [if_pos (h.is_yes rfl)]; exact ⟨i + 1, rfl, h.sg.2⟩
 by_cases e2 : k = 2
 ·subst e2; rw [if_neg (by rw [h.no (s := ⟨#[61, 61]⟩) (by decide)]; decide), if_pos (h.is_yes rfl)]; exact ⟨i + 1, rfl, h.sg.2⟩
 by_cases e3 : k = 3
 ·subst e3; rw [if_neg (by rw [h.no (s := ⟨#[61, 61]⟩) (by decide)]; decide), if_neg (by rw [h.no (s := ⟨#[33, 61]⟩) (by decide)]; decide), if_pos (h.is_yes rfl)]; exact ⟨i + 1, rfl, h.sg.2⟩
 obtain rfl : k = 4 := by omega
 rw [if_neg (by rw [h.no (s := ⟨#[61, 61]⟩) (by decide)]; decide), if_neg (by rw [h.no (s := ⟨#[33, 61]⟩) (by decide)]; decide), if_neg (by rw [h.no (s := ⟨#[60]⟩) (by decide)]; decide)]
 exact (must_bk h rfl).th fun j hj => Bk.ok hj
theorem cond_bk {c : Cd} {i : Nat} {o b : Int} {r : List K} (ho : okCond c = true) (h : Rs t i (condK c ++ r)) (hr : hd r ≠ [45, 62]) : Bk t (Pr.cond t ⟨i, o, b⟩) c.er o b r := by
 unfold okCond at ho; unfold condK at h; unfold Pr.cond
 by_cases h0 : c.kind = 0
 ·rw [if_pos h0] at ho h
  have h1 : Rs t i (mk [63] :: r) := h
  rw [if_pos (h1.is_yes rfl), noCond_er ho]
  exact ⟨i + 1, rfl, h1.sg.2⟩
 ·rw [if_neg h0] at ho h
  simp only [Bool.and_eq_true, decide_eq_true_eq] at ho
  have h1 : Rs t i (valK c.left ++ mk (relT c.kind) :: (valK c.right ++ r)) := by simpa using h
  rw [if_neg (by rw [h1.is_no (s := ⟨#[63]⟩) (side_hd ho.1.2 _ (by decide))]; decide)]
  refine (side_bk ho.1.2 h1 ?_).th fun j hj => ?_
  ·show relT c.kind ≠ _
   unfold relT; split
   ·decide
   ·split
    ·decide
    ·split <;> decide
  refine (rel_bk ho.1.1.1 ho.1.1.2 hj).th fun m hm => ?_
  refine (side_bk ho.2 hm hr).th fun n hn => ?_
  exact Bk.ok hn
theorem held_bk {c : Cd} {i : Nat} {o b : Int} {r : List K} (ho : okCond c = true) (h : Rs t i (mk [40] :: (condK c ++ mk [41] :: r))) : Bk t (Pr.held t ⟨i, o, b⟩) c.er o b r := by
 unfold Pr.held
 refine (must_bk h rfl).th fun j hj => ?_
 refine (cond_bk ho hj (by show ([41] : List UInt8) ≠ _; decide)).th fun m hm => ?_
 exact (must_bk hm rfl).th fun n hn => Bk.ok hn
def restK {β : Type} (f : β → List K) : List β → List K
 | [] => []
 | x :: l => mk [44] :: (f x ++ restK f l)
theorem comma_rest {β : Type} (f : β → List K) : ∀ (l : List β) (x : β), commaK f (x :: l) = f x ++ restK f l
 | [], x => by simp [commaK, restK]
 | y :: l, x => by simp only [commaK, restK]; rw [comma_rest f l y]
theorem rest_len {β : Type} (f : β → List K) : ∀ l : List β, l.length ≤ (restK f l).length
 | [] => Nat.le_refl _
 | x :: l => by have := rest_len f l; simp only [restK, List.length_cons, List.length_append]; omega
theorem more_bk {α β : Type} {item : St → Res α} {f : β → List K} {e : β → α} {o b : Int} {r : List K} : ∀ (l : List β) (_ : ∀ x ∈ l, ∀ i q, Rs t i (f x ++ q) → (hd q = [44] ∨ hd q = [41]) → Bk t (item ⟨i, o, b⟩) (e x) o b q)
  (n : Nat) (acc : List α) (i : Nat), l.length < n → Rs t i (restK f l ++ mk [41] :: r) → Bk t (Pr.more t item n acc ⟨i, o, b⟩) (acc ++ l.map e) o b r
 | [], _, 0, _, _, hn, _ => absurd hn (by simp)
 | [], _, n + 1, acc, i, _, h => by
  unfold Pr.more
  have h1 : Rs t i (mk [41] :: r) := h
  rw [if_neg (by rw [h1.no (s := ⟨#[44]⟩) (by decide)]; decide), List.map_nil, List.append_nil]
  exact (must_bk h1 rfl).th fun j hj => Bk.ok hj
 | x :: l, _, 0, _, _, hn, _ => absurd hn (by simp)
 | x :: l, hx, n + 1, acc, i, hn, h => by
  unfold Pr.more
  have h1 : Rs t i (mk [44] :: (f x ++ (restK f l ++ mk [41] :: r))) := by
   have := h; simp only [restK, List.cons_append, List.append_assoc] at this; exact this
  rw [if_pos (h1.is_yes rfl)]
  refine (hx x List.mem_cons_self _ _ h1.sg.2 ?_).th fun j hj => ?_
  ·cases l with
   | nil => exact .inr rfl
   | cons y l => exact .inl rfl
  ·have := more_bk l (fun y hy => hx y (List.mem_cons_of_mem _ hy)) n (acc ++ [e x]) j (by simpa using hn) hj
   rwa [List.append_assoc] at this
theorem listed_bk {α β : Type} {item : St → Res α} {f : β → List K} {e : β → α} {o b : Int} {r : List K} {i : Nat} (l : List β) (hx : ∀ x ∈ l, ∀ i q, Rs t i (f x ++ q) → (hd q = [44] ∨ hd q = [41]) → Bk t (item ⟨i, o, b⟩) (e x) o b q)
  (h0 : ∀ x ∈ l, ∀ q, hd (f x ++ q) ≠ [41]) (h : Rs t i (mk [40] :: (commaK f l ++ mk [41] :: r))) : Bk t (Pr.listed t item ⟨i, o, b⟩) (l.map e) o b r := by
 unfold Pr.listed
 refine (must_bk h rfl).th fun j hj => ?_
 cases l with
 | nil =>
  have h1 : Rs t j (mk [41] :: r) := hj
  rw [if_pos (h1.is_yes rfl)]
  exact ⟨j + 1, rfl, h1.sg.2⟩
 | cons x l =>
  rw [comma_rest, List.append_assoc] at hj
  rw [if_neg (by rw [hj.is_no (s := ⟨#[41]⟩) (h0 x List.mem_cons_self _)]; decide)]
  refine (hx x List.mem_cons_self _ _ hj ?_).th fun m hm => ?_
  ·cases l with
   | nil => exact .inr rfl
   | cons y l => exact .inl rfl
  ·have hl := hm.len
   have := rest_len f l
   rw [List.length_append] at hl
   exact more_bk l (fun y hy => hx y (List.mem_cons_of_mem _ hy)) _ [e x] m (by omega) hm
/- Declarations. -/
theorem pointer_bk {d : Dc} {i : Nat} {o b : Int} {r : List K} (h : Rs t i (nm d.type :: mk [42] :: nm d.name :: r)) : Bk t (Pr.pointer t ⟨i, o, b⟩) d.er o b r := by
 unfold Pr.pointer
 refine (name_bk h).th fun j hj => ?_
 refine (must_bk hj rfl).th fun m hm => ?_
 refine (name_bk hm).th fun n hn => ?_
 rw [nm_text, nm_text]
 exact Bk.ok hn
theorem variable_bk {d : Dc} {i : Nat} {o b : Int} {r : List K} (ho : okDecl d = true) (h : Rs t i (declK d ++ r)) : Bk t (Pr.variable_ t ⟨i, o, b⟩) d.er o b r := by
 unfold okDecl at ho
 simp only [Bool.and_eq_true, Bool.or_eq_true, decide_eq_true_eq] at ho
 unfold declK at h; unfold Pr.variable_
 by_cases h0 : txt d.type = []
 ·rw [if_pos h0] at h
  have h1 : Rs t i (ky tInt :: nm d.name :: r) := h
  rw [if_pos (h1.is_yes rfl)]
  refine (name_bk h1.sg.2).th fun j hj => ?_
  rw [nm_text]
  unfold Dc.er
  rw [empty_of h0]
  exact Bk.ok hj
 ·rw [if_neg h0] at h
  have h1 : Rs t i (nm d.type :: mk [42] :: nm d.name :: r) := h
  rw [if_neg (by rw [h1.is_no (s := ⟨#[105, 110, 116]⟩) (okN_ne (ho.2.resolve_left h0) (.inl (by decide)))]; decide)]
  exact pointer_bk h1
theorem decl_bk {d : Dc} {i : Nat} {o b : Int} {r : List K} (ho : okDecl d = true) (h : Rs t i (declK d ++ mk [59] :: r)) : Bk t (Pr.decl t ⟨i, o, b⟩) d.er o b r := by
 unfold Pr.decl
 refine (variable_bk ho h).th fun j hj => ?_
 exact (must_bk hj rfl).th fun n hn => Bk.ok hn
theorem fields_len : ∀ (l : List Dc) (k : List K), l.length ≤ (fieldsK l k).length
 | [], _ => Nat.zero_le _
 | x :: l, k => by have := fields_len l k; simp only [fieldsK, List.length_append, List.length_cons]; omega
theorem fields_bk {o b : Int} {r : List K} : ∀ (l : List Dc) (n : Nat) (acc : List Dc) (i : Nat), l.all okField = true → l.length < n → Rs t i (fieldsK l (mk [125] :: r)) → Bk t (Pr.fields t n acc ⟨i, o, b⟩) (acc ++ l.map Dc.er) o b r
 | [], 0, _, _, _, hn, _ => absurd hn (by simp)
 | [], n + 1, acc, i, _, _, h => by
  unfold Pr.fields
  have h1 : Rs t i (mk [125] :: r) := h
  rw [if_pos (h1.is_yes rfl), List.map_nil, List.append_nil]
  exact ⟨i + 1, rfl, h1.sg.2⟩
 | x :: l, 0, _, _, _, hn, _ => absurd hn (by simp)
 | x :: l, n + 1, acc, i, ho, hn, h => by
  unfold Pr.fields
  simp only [List.all_cons, Bool.and_eq_true, okField, okDecl, Bool.or_eq_true, Bool.not_eq_true', decide_eq_true_eq, decide_eq_false_iff_not] at ho
  have hd0 := ho.1.2
  have hk : declK x = [nm x.type, mk [42], nm x.name] := by unfold declK; rw [if_neg hd0]
  have h1 : Rs t i (nm x.type :: mk [42] :: nm x.name :: mk [59] :: fieldsK l (mk [125] :: r)) := by
   have := h; simp only [fieldsK, hk] at this; exact this
  rw [if_neg (by rw [h1.is_no (s := ⟨#[125]⟩) (okN_ne (ho.1.1.2.resolve_left hd0) (.inr (notword (by rfl) _)))]; decide)]
  refine (pointer_bk (d := x) h1).th fun j hj => ?_
  refine (must_bk hj rfl).th fun m hm => ?_
  have := fields_bk (o := o) (b := b) l n (acc ++ [x.er]) m (by rw [List.all_eq_true]; intro y hy; have := List.all_eq_true.1 (show l.all okField = true by simpa [okField, okDecl] using ho.2) y hy; exact this) (by simpa using hn) hm
  rwa [List.append_assoc] at this
/-- No declaration is ahead. -/
def NoDecl (r : List K) : Prop := hd r ≠ tInt ∧ (kd r ≠ 1 ∨ hd r.tail ≠ [42])
theorem Rs.declares {i : Nat} {r : List K} {o b : Int} (h : Rs t i r) (hr : NoDecl r) : Pr.declares t ⟨i, o, b⟩ = false := by
 unfold Pr.declares
 rw [h.is_no (s := ⟨#[105, 110, 116]⟩) hr.1, h.kind]
 rcases hr.2 with h2 | h2
 ·have : (kd r == 1) = false := by rw [beq_eq_false_iff_ne]; exact h2
  rw [this]; rfl
 ·cases r with
  | nil => rfl
  | cons x r => rw [h.sg.2.is_no (s := ⟨#[42]⟩) h2]; simp
theorem Rs.declares_yes {i : Nat} {d : Dc} {r : List K} {o b : Int} (h : Rs t i (declK d ++ r)) : Pr.declares t ⟨i, o, b⟩ = true := by
 unfold Pr.declares
 unfold declK at h
 by_cases h0 : txt d.type = []
 ·rw [if_pos h0] at h
  have h1 : Rs t i (ky tInt :: nm d.name :: r) := h
  rw [h1.is_yes (s := ⟨#[105, 110, 116]⟩) rfl]; rfl
 ·rw [if_neg h0] at h
  have h1 : Rs t i (nm d.type :: mk [42] :: nm d.name :: r) := h
  have hk : (Pr.sg t i).kind = 1 := h1.kind
  rw [hk, h1.sg.2.is_yes (s := ⟨#[42]⟩) rfl]; simp
theorem locals_bk {o b : Int} {r : List K} (hr : NoDecl r) : ∀ (l : List Dc) (n : Nat) (acc : List Dc) (i : Nat), l.all okDecl = true → l.length < n → Rs t i (fieldsK l r) → Bk t (Pr.locals t n acc ⟨i, o, b⟩) (acc ++ l.map Dc.er) o b r
 | [], 0, _, _, _, hn, _ => absurd hn (by simp)
 | [], n + 1, acc, i, _, _, h => by
  unfold Pr.locals
  have h1 : Rs t i r := h
  rw [if_neg (by rw [h1.declares hr]; decide), List.map_nil, List.append_nil]
  exact Bk.ok h1
 | x :: l, 0, _, _, _, hn, _ => absurd hn (by simp)
 | x :: l, n + 1, acc, i, ho, hn, h => by
  unfold Pr.locals
  simp only [List.all_cons, Bool.and_eq_true] at ho
  rw [if_pos (Rs.declares_yes (d := x) h)]
  refine (decl_bk ho.1 h).th fun j hj => ?_
  have := locals_bk (o := o) (b := b) hr l n (acc ++ [x.er]) j ho.2 (by simpa using hn) hj
  rwa [List.append_assoc] at this
end
end Pn
end Go.Proofs.YtdlchhimkelinaaGreatDoor
namespace Go.Proofs.YtdlchhimkelinaaGreatDoor
namespace Pn
open Pr (th St Res)
/-- How many statements there are. -/
def cnt : SL → Int
 | .nil => 0
 | .cons _ _ _ t _ _ e r => 1 + cnt t + cnt e + cnt r
/-- How deep blocks stand in each other. -/
def dp : SL → Int
 | .nil => 0
 | .cons h _ _ t _ _ e r => max (if 4 ≤ h.kind then 1 + max (dp t) (dp e) else 0) (dp r)
/-- The fuel that a reading takes. -/
def fu : SL → Nat
 | .nil => 1
 | .cons _ _ _ t _ _ e r => 1 + max (fu t) (max (fu e) (fu r))
theorem cnt_nn : ∀ l : SL, 0 ≤ cnt l
 | .nil => Int.le_refl _
 | .cons _ _ _ t _ _ e r => by have := cnt_nn t; have := cnt_nn e; have := cnt_nn r; simp only [cnt]; omega
theorem dp_nn : ∀ l : SL, 0 ≤ dp l
 | .nil => Int.le_refl _
 | .cons _ _ _ t _ _ e r => by have := dp_nn r; simp only [dp]; omega
theorem nil_of {l : SL} (h : isNil l = true) : l = .nil := by cases l with
 | nil => rfl
 | cons => cases h
theorem noCall_er {h : Hd} (hc : noCall h = true) : h.name = ByteArray.empty ∧ h.args.er Vl.er = ⟨none, 0, []⟩ := by
 unfold noCall at hc
 simp only [Bool.and_eq_true, decide_eq_true_eq] at hc
 refine ⟨empty_of hc.1, ?_⟩
 unfold Sl.er; rw [hc.2]; rfl
section
variable {t : List Pr.Tk}
theorem stK_app (h : Hd) (a e k q : List K) : stK h a e k ++ q = stK h a e (k ++ q) := by
 unfold stK
 split
 ·rfl
 split
 ·simp
 split
 ·simp
 split
 ·simp
 split
 ·split <;> simp
 split
 ·simp
 ·simp
theorem count_bk {i : Nat} {o b : Int} {ks : List K} (h : Rs t i ks) (hb : b ≠ 400) (ho : hd ks = [123] → o ≠ 20) : Bk t (Pr.count t ⟨i, o, b⟩) () o (b + 1) ks := by
 unfold Pr.count Pr.mustHold
 have : (Pr.is t i ⟨#[123]⟩ && o == 20) = false := by
  by_cases e : hd ks = [123]
  ·have := ho e
   have h2 : (o == 20) = false := by rw [beq_eq_false_iff_ne]; exact this
   rw [h2, Bool.and_false]
  ·rw [h.is_no (s := ⟨#[123]⟩) e, Bool.false_and]
 rw [if_neg (by show ¬ (Pr.is t i ⟨#[123]⟩ && o == 20) = true; rw [this]; decide)]
 show Bk t (if b = 400 then _ else _) _ _ _ _
 rw [if_neg hb]
 exact ⟨i, rfl, h⟩
theorem block_bk {rec : St → Res SL} {a : SL} {tk r : List K} {i : Nat} {o b b' : Int} (hrec : ∀ i q, Rs t i (tk ++ mk [125] :: q) → Bk t (rec ⟨i, o + 1, b⟩) a (o + 1) b' (mk [125] :: q)) (h : Rs t i (mk [123] :: (tk ++ mk [125] :: r))) (ho : o ≠ 20) : Bk t (Pr.block t rec ⟨i, o, b⟩) a o b' r := by
 unfold Pr.block Pr.mustHold
 have h2 : (o == 20) = false := by rw [beq_eq_false_iff_ne]; exact ho
 rw [if_neg (by show ¬ (_ && o == 20) = true; rw [h2, Bool.and_false]; decide)]
 refine (must_bk h rfl).th fun j hj => ?_
 refine (hrec j r hj).th fun m hm => ?_
 refine (must_bk hm rfl).th fun n hn => ?_
 exact ⟨n, by rw [show o + 1 - 1 = o by omega], hn⟩
/-- What a statement's signs begin with. -/
theorem st_hd {h : Hd} {t0 e0 : Bool} (ho : okStmt h t0 e0 = true) (a e k : List K) :
  (h.kind = 0 ∧ hd (stK h a e k) = [59] ∧ kd (stK h a e k) = 4) ∨ (h.kind = 1 ∧ okN h.place.name = true ∧ hd (stK h a e k) = txt h.place.name ∧ kd (stK h a e k) = 1 ∧ (hd (stK h a e k).tail = [45, 62] ∨ hd (stK h a e k).tail = [61])) ∨ (h.kind = 2 ∧ hd (stK h a e k) = tFree ∧ kd (stK h a e k) = 3)
  ∨ (h.kind = 3 ∧ okN h.name = true ∧ hd (stK h a e k) = txt h.name ∧ kd (stK h a e k) = 1 ∧ hd (stK h a e k).tail = [40]) ∨ (h.kind = 4 ∧ hd (stK h a e k) = tIf ∧ kd (stK h a e k) = 3) ∨ (h.kind = 5 ∧ hd (stK h a e k) = tWhile ∧ kd (stK h a e k) = 3) ∨ (h.kind = 6 ∧ hd (stK h a e k) = [123] ∧ kd (stK h a e k) = 4) := by
 unfold okStmt at ho; unfold stK
 by_cases h0 : h.kind = 0
 ·rw [if_pos h0]; exact .inl ⟨h0, rfl, rfl⟩
 by_cases h1 : h.kind = 1
 ·rw [if_neg h0, if_pos h1] at ho
  simp only [Bool.and_eq_true, okPath] at ho
  rw [if_neg h0, if_pos h1]
  refine .inr (.inl ⟨h1, ho.1.1.1.1.1.1.1.1, rfl, rfl, ?_⟩)
  unfold pathK
  cases h.place.hops.l with
  | nil => exact .inr rfl
  | cons x l => exact .inl rfl
 by_cases h2 : h.kind = 2
 ·rw [if_neg h0, if_neg h1, if_pos h2]; exact .inr (.inr (.inl ⟨h2, rfl, rfl⟩))
 by_cases h3 : h.kind = 3
 ·rw [if_neg h0, if_neg h1, if_neg h2, if_pos h3] at ho
  simp only [Bool.and_eq_true] at ho
  rw [if_neg h0, if_neg h1, if_neg h2, if_pos h3]; exact .inr (.inr (.inr (.inl ⟨h3, ho.1.1.1.2, rfl, rfl, rfl⟩)))
 by_cases h4 : h.kind = 4
 ·rw [if_neg h0, if_neg h1, if_neg h2, if_neg h3, if_pos h4]; exact .inr (.inr (.inr (.inr (.inl ⟨h4, rfl, rfl⟩))))
 by_cases h5 : h.kind = 5
 ·rw [if_neg h0, if_neg h1, if_neg h2, if_neg h3, if_neg h4, if_pos h5]; exact .inr (.inr (.inr (.inr (.inr (.inl ⟨h5, rfl, rfl⟩)))))
 by_cases h6 : h.kind = 6
 ·rw [if_neg h0, if_neg h1, if_neg h2, if_neg h3, if_neg h4, if_neg h5]; exact .inr (.inr (.inr (.inr (.inr (.inr ⟨h6, rfl, rfl⟩)))))
 rw [if_neg h0, if_neg h1, if_neg h2, if_neg h3, if_neg h4, if_neg h5, if_neg h6] at ho
 cases ho
theorem begins_bk {h : Hd} {t0 e0 : Bool} (ho : okStmt h t0 e0 = true) {a e k : List K} {i : Nat} {o b : Int} (hr : Rs t i (stK h a e k)) : Pr.begins t ⟨i, o, b⟩ = true := by
 unfold Pr.begins
 rcases st_hd ho a e k with ⟨_, g, _⟩ | ⟨_, _, _, g, _⟩ | ⟨_, g, _⟩ | ⟨_, _, _, g, _⟩ | ⟨_, g, _⟩ | ⟨_, g, _⟩ | ⟨_, g, _⟩
 ·rw [hr.is_yes (s := ⟨#[59]⟩) g]; rfl
 ·rw [hr.kind, g]; simp
 ·rw [hr.is_yes (s := ⟨#[102, 114, 101, 101]⟩) g]; simp
 ·rw [hr.kind, g]; simp
 ·rw [hr.is_yes (s := ⟨#[105, 102]⟩) g]; simp
 ·rw [hr.is_yes (s := ⟨#[119, 104, 105, 108, 101]⟩) g]; simp
 ·rw [hr.is_yes (s := ⟨#[123]⟩) g]; simp
theorem begins_no {q : List K} {i : Nat} {o b : Int} (hr : Rs t i (mk [125] :: q)) : Pr.begins t ⟨i, o, b⟩ = false := by
 unfold Pr.begins
 rw [hr.no (s := ⟨#[59]⟩) (by decide), hr.no (s := ⟨#[123]⟩) (by decide), hr.no (s := ⟨#[102, 114, 101, 101]⟩) (by decide), hr.no (s := ⟨#[105, 102]⟩) (by decide), hr.no (s := ⟨#[119, 104, 105, 108, 101]⟩) (by decide), hr.kind]
 rfl
theorem side_item {l : List Vl} (ho : l.all okSide = true) {o b : Int} : ∀ x ∈ l, ∀ i q, Rs t i (valK x ++ q) → (hd q = [44] ∨ hd q = [41]) → Bk t (Pr.side t ⟨i, o, b⟩) x.er o b q := by
 intro x hx i q h hq
 refine side_bk (List.all_eq_true.1 ho x hx) h ?_
 rcases hq with hq | hq <;> rw [hq] <;> decide
theorem stmt_bk {rec : St → Res SL} {h : Hd} {T E : SL} {o b : Int} {r : List K} {i : Nat} (ho : okStmt h (isNil T) (isNil E) = true)
  (hT : 4 ≤ h.kind → ∀ i q, Rs t i (linesK T ++ mk [125] :: q) → Bk t (rec ⟨i, o + 1, b + 1⟩) T.er (o + 1) (b + 1 + cnt T) (mk [125] :: q))
  (hE : h.kind = 4 → ∀ i q, Rs t i (linesK E ++ mk [125] :: q) → Bk t (rec ⟨i, o + 1, b + 1 + cnt T⟩) E.er (o + 1) (b + 1 + cnt T + cnt E) (mk [125] :: q))
  (hb : b ≠ 400) (hoo : 4 ≤ h.kind → o ≠ 20) (hr : hd r ≠ tElse) (hs : Rs t i (stK h (linesK T) (linesK E) r)) :
  Bk t (Pr.stmt t rec ⟨i, o, b⟩) (h.er, T.er, E.er) o (b + 1 + cnt T + cnt E) r := by
 have hst := st_hd ho (linesK T) (linesK E) r
 unfold Pr.stmt
 refine (count_bk hs hb ?_).th fun j hj => ?_
 ·intro e
  rcases hst with ⟨_, g, _⟩ | ⟨_, g0, g, _⟩ | ⟨_, g, _⟩ | ⟨_, g0, g, _⟩ | ⟨hk, _⟩ | ⟨hk, _⟩ | ⟨hk, _⟩
  ·rw [g] at e; exact absurd e (by decide)
  ·rw [g] at e; exact absurd e (okN_ne g0 (.inr (notword (by rfl) _)))
  ·rw [g] at e; exact absurd e (by decide)
  ·rw [g] at e; exact absurd e (okN_ne g0 (.inr (notword (by rfl) _)))
  ·exact hoo (by omega)
  ·exact hoo (by omega)
  ·exact hoo (by omega)
 unfold okStmt at ho
 rcases hst with ⟨hk, g, _⟩ | ⟨hk, g0, g, _, g2⟩ | ⟨hk, g, _⟩ | ⟨hk, g0, g, _, g2⟩ | ⟨hk, g, _⟩ | ⟨hk, g, _⟩ | ⟨hk, g, _⟩
 ·rw [if_pos hk] at ho
  simp only [Bool.and_eq_true, Bool.not_eq_true'] at ho
  rw [if_pos (hj.is_yes g)]
  obtain rfl := nil_of ho.1.1.2
  obtain rfl := nil_of ho.1.2
  unfold stK at hj
  rw [if_pos hk] at hj
  refine ⟨j + 1, ?_, hj.sg.2⟩
  obtain ⟨c1, c2⟩ := noCall_er ho.1.1.1.2
  unfold Hd.er
  rw [hk, noP_er ho.1.1.1.1.1.1, noVal_er ho.1.1.1.1.1.2, noCond_er ho.1.1.1.1.2, c1, c2, ho.2]
  simp [cnt, Pr.noHd, St.go, SL.er]
 ·rw [if_neg (by omega), if_pos hk] at ho
  simp only [Bool.and_eq_true, Bool.not_eq_true'] at ho
  rw [if_neg (by rw [hj.is_no (s := ⟨#[59]⟩) (by rw [g]; exact okN_ne g0 (.inr (notword (by rfl) _)))]; decide), if_neg (by rw [hj.is_no (s := ⟨#[123]⟩) (by rw [g]; exact okN_ne g0 (.inr (notword (by rfl) _)))]; decide),
   if_neg (by rw [hj.is_no (s := ⟨#[102, 114, 101, 101]⟩) (by rw [g]; exact okN_ne g0 (.inl (by decide)))]; decide), if_neg (by rw [hj.is_no (s := ⟨#[105, 102]⟩) (by rw [g]; exact okN_ne g0 (.inl (by decide)))]; decide), if_neg (by rw [hj.is_no (s := ⟨#[119, 104, 105, 108, 101]⟩) (by rw [g]; exact okN_ne g0 (.inl (by decide)))]; decide)]
  obtain rfl := nil_of ho.1.1.2
  obtain rfl := nil_of ho.1.2
  have hj2 : Pr.is t (j + 1) ⟨#[40]⟩ = false := by
   unfold stK at hj g2
   rw [if_neg (by omega), if_pos hk] at hj g2
   refine Rs.is_no (ks := hopsK h.place.hops.l ++ mk [61] :: (valK h.value ++ mk [59] :: r)) hj.sg.2 ?_
   rcases g2 with g2 | g2
   ·rw [show hd (hopsK h.place.hops.l ++ mk [61] :: (valK h.value ++ mk [59] :: r)) = [45, 62] from g2]; decide
   ·rw [show hd (hopsK h.place.hops.l ++ mk [61] :: (valK h.value ++ mk [59] :: r)) = [61] from g2]; decide
  unfold Pr.named
  rw [if_neg (by show ¬ Pr.is t (j + 1) ⟨#[40]⟩ = true; rw [hj2]; decide)]
  unfold stK at hj
  rw [if_neg (by omega), if_pos hk] at hj
  obtain ⟨c1, c2⟩ := noCall_er ho.1.1.1.2
  refine Bk.th (a := h.er) (o := o) (b := b + 1) (r := r) ?_ fun m hm => ⟨m, by simp [cnt, SL.er], hm⟩
  refine (path_bk ho.1.1.1.1.1.1 hj (by show ([61] : List UInt8) ≠ _; decide)).th fun m hm => ?_
  refine (must_bk hm rfl).th fun m hm => ?_
  refine (value_bk ho.1.1.1.1.1.2 hm (by show ([59] : List UInt8) ≠ _; decide) (by show ([59] : List UInt8) ≠ _; decide) (by show ([59] : List UInt8) ≠ _; decide)).th fun m hm => ?_
  refine (must_bk hm rfl).th fun m hm => ⟨m, ?_, hm⟩
  unfold Hd.er
  rw [hk, noCond_er ho.1.1.1.1.2, c1, c2, ho.2]; rfl
 ·rw [if_neg (by omega), if_neg (by omega), if_pos hk] at ho
  simp only [Bool.and_eq_true, Bool.not_eq_true'] at ho
  rw [if_neg (by rw [hj.is_no (s := ⟨#[59]⟩) (by rw [g]; decide)]; decide), if_neg (by rw [hj.is_no (s := ⟨#[123]⟩) (by rw [g]; decide)]; decide), if_pos (hj.is_yes g)]
  obtain rfl := nil_of ho.1.1.2
  obtain rfl := nil_of ho.1.2
  unfold stK at hj
  rw [if_neg (by omega), if_neg (by omega), if_pos hk] at hj
  obtain ⟨c1, c2⟩ := noCall_er ho.1.1.1.2
  refine Bk.th (a := h.er) (o := o) (b := b + 1) (r := r) ?_ fun m hm => ⟨m, by simp [cnt, SL.er], hm⟩
  unfold Pr.free
  refine (must_bk hj rfl).th fun m hm => ?_
  refine (must_bk hm rfl).th fun m hm => ?_
  refine (path_bk ho.1.1.1.1.1.1 hm (by show ([41] : List UInt8) ≠ _; decide)).th fun m hm => ?_
  refine (must_bk hm rfl).th fun m hm => ?_
  refine (must_bk hm rfl).th fun m hm => ⟨m, ?_, hm⟩
  unfold Hd.er
  rw [hk, noVal_er ho.1.1.1.1.1.2, noCond_er ho.1.1.1.1.2, c1, c2, ho.2]; rfl
 ·rw [if_neg (by omega), if_neg (by omega), if_neg (by omega), if_pos hk] at ho
  simp only [Bool.and_eq_true, Bool.not_eq_true'] at ho
  rw [if_neg (by rw [hj.is_no (s := ⟨#[59]⟩) (by rw [g]; exact okN_ne g0 (.inr (notword (by rfl) _)))]; decide), if_neg (by rw [hj.is_no (s := ⟨#[123]⟩) (by rw [g]; exact okN_ne g0 (.inr (notword (by rfl) _)))]; decide),
   if_neg (by rw [hj.is_no (s := ⟨#[102, 114, 101, 101]⟩) (by rw [g]; exact okN_ne g0 (.inl (by decide)))]; decide), if_neg (by rw [hj.is_no (s := ⟨#[105, 102]⟩) (by rw [g]; exact okN_ne g0 (.inl (by decide)))]; decide), if_neg (by rw [hj.is_no (s := ⟨#[119, 104, 105, 108, 101]⟩) (by rw [g]; exact okN_ne g0 (.inl (by decide)))]; decide)]
  obtain rfl := nil_of ho.1.1.2
  obtain rfl := nil_of ho.1.2
  unfold stK at hj
  rw [if_neg (by omega), if_neg (by omega), if_neg (by omega), if_pos hk] at hj
  unfold Pr.named
  rw [if_pos (hj.sg.2.is_yes rfl)]
  refine Bk.th (a := h.er) (o := o) (b := b + 1) (r := r) ?_ fun m hm => ⟨m, by simp [cnt, SL.er], hm⟩
  refine (name_bk hj).th fun m hm => ?_
  refine (listed_bk (e := Vl.er) h.args.l (side_item ho.1.1.1.1.1.1.1) (fun x hx q => side_hd (List.all_eq_true.1 ho.1.1.1.1.1.1.1 x hx) q (by decide)) hm).th fun m hm => ?_
  refine (must_bk hm rfl).th fun m hm => ⟨m, ?_, hm⟩
  rw [nm_text]
  unfold Hd.er
  rw [hk, noP_er ho.1.1.1.1.1.1.2, noVal_er ho.1.1.1.1.1.2, noCond_er ho.1.1.1.1.2, ho.2]; rfl
 ·rw [if_neg (by omega), if_neg (by omega), if_neg (by omega), if_neg (by omega), if_pos hk] at ho
  simp only [Bool.and_eq_true] at ho
  rw [if_neg (by rw [hj.is_no (s := ⟨#[59]⟩) (by rw [g]; decide)]; decide), if_neg (by rw [hj.is_no (s := ⟨#[123]⟩) (by rw [g]; decide)]; decide), if_neg (by rw [hj.is_no (s := ⟨#[102, 114, 101, 101]⟩) (by rw [g]; decide)]; decide), if_pos (hj.is_yes g)]
  unfold stK at hj
  rw [if_neg (by omega), if_neg (by omega), if_neg (by omega), if_neg (by omega), if_pos hk] at hj
  obtain ⟨c1, c2⟩ := noCall_er ho.1.2
  unfold Pr.branch
  refine (must_bk hj rfl).th fun m hm => ?_
  refine (held_bk ho.1.1.2 hm).th fun m hm => ?_
  refine (block_bk (hT (by omega)) hm (hoo (by omega))).th fun m hm => ?_
  by_cases hbo : h.both = true
  ·rw [if_pos hbo] at hm
   rw [if_pos (hm.is_yes rfl)]
   refine (block_bk (hE hk) hm.sg.2 (hoo (by omega))).th fun n hn => ⟨n, ?_, hn⟩
   unfold Hd.er
   rw [hk, noP_er ho.1.1.1.1, noVal_er ho.1.1.1.2, c1, c2, hbo]; rfl
  ·have hbf : h.both = false := by simpa using hbo
   rw [hbf] at ho
   have hE0 := nil_of (by simpa using ho.2 : isNil E = true)
   subst hE0
   rw [if_neg hbo] at hm
   rw [if_neg (by rw [hm.is_no (s := ⟨#[101, 108, 115, 101]⟩) hr]; decide)]
   refine ⟨m, ?_, hm⟩
   unfold Hd.er
   rw [hk, noP_er ho.1.1.1.1, noVal_er ho.1.1.1.2, c1, c2, hbf]; simp [cnt, SL.er, Pr.noHd]
 ·rw [if_neg (by omega), if_neg (by omega), if_neg (by omega), if_neg (by omega), if_neg (by omega), if_pos hk] at ho
  simp only [Bool.and_eq_true, Bool.not_eq_true'] at ho
  rw [if_neg (by rw [hj.is_no (s := ⟨#[59]⟩) (by rw [g]; decide)]; decide), if_neg (by rw [hj.is_no (s := ⟨#[123]⟩) (by rw [g]; decide)]; decide), if_neg (by rw [hj.is_no (s := ⟨#[102, 114, 101, 101]⟩) (by rw [g]; decide)]; decide), if_neg (by rw [hj.is_no (s := ⟨#[105, 102]⟩) (by rw [g]; decide)]; decide), if_pos (hj.is_yes g)]
  obtain rfl := nil_of ho.1.2
  unfold stK at hj
  rw [if_neg (by omega), if_neg (by omega), if_neg (by omega), if_neg (by omega), if_neg (by omega), if_pos hk] at hj
  obtain ⟨c1, c2⟩ := noCall_er ho.1.1.2
  unfold Pr.loop
  refine (must_bk hj rfl).th fun m hm => ?_
  refine (held_bk ho.1.1.1.2 hm).th fun m hm => ?_
  refine (block_bk (hT (by omega)) hm (hoo (by omega))).th fun m hm => ⟨m, ?_, hm⟩
  unfold Hd.er
  rw [hk, noP_er ho.1.1.1.1.1, noVal_er ho.1.1.1.1.2, c1, c2, ho.2]; simp [cnt, SL.er, Pr.noHd]
 ·rw [if_neg (by omega), if_neg (by omega), if_neg (by omega), if_neg (by omega), if_neg (by omega), if_neg (by omega), if_pos hk] at ho
  simp only [Bool.and_eq_true, Bool.not_eq_true'] at ho
  rw [if_neg (by rw [hj.is_no (s := ⟨#[59]⟩) (by rw [g]; decide)]; decide), if_pos (hj.is_yes g)]
  obtain rfl := nil_of ho.1.2
  unfold stK at hj
  rw [if_neg (by omega), if_neg (by omega), if_neg (by omega), if_neg (by omega), if_neg (by omega), if_neg (by omega)] at hj
  obtain ⟨c1, c2⟩ := noCall_er ho.1.1.2
  refine (block_bk (hT (by omega)) hj (hoo (by omega))).th fun m hm => ⟨m, ?_, hm⟩
  unfold Hd.er
  rw [hk, noP_er ho.1.1.1.1.1, noVal_er ho.1.1.1.1.2, noCond_er ho.1.1.1.2, c1, c2, ho.2]; simp [cnt, SL.er, Pr.noHd]
end
end Pn
end Go.Proofs.YtdlchhimkelinaaGreatDoor
