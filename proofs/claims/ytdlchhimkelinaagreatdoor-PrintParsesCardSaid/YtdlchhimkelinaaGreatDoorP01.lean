/-
  Plain: a text's bytes, runs of them, blanks and remarks, and the sign at a place. The walks of the small functions: letters, digits, a text's beginning, a byte's place. The walks of the loops over a text: a word's end, digits' end, what digits say. What the two tables hold when a call begins; the wa
-/
import Derived.Lib.Bytealg
import Derived.Test.YtdlchhimkelinaaGreatDoorRows
import Derived.Lib.Strings
import Derived.Lib.Slices
import Derived.Lib.Walk
import Derived.WalkKit
import Derived.WalkSpells
import Derived.WalkLawsBesides
import Derived.Deep.QuietTactic
import Derived.BigQuiet
import Derived.Lib.Hide
import Derived.WalkMore
import Derived.Deep.LoopGhost
import Derived.Laws.AppendOwnNone
import Derived.Maps.AppendAt
import Derived.OwnWalk
set_option maxHeartbeats 6400000
set_option maxRecDepth 100000
namespace Go.Proofs.YtdlchhimkelinaaGreatDoor
theorem hdn {p : Prop} (h : p) : Go.RowKit.Hid p := Go.Lib.hid h
end Go.Proofs.YtdlchhimkelinaaGreatDoor
namespace Go.Proofs.YtdlchhimkelinaaGreatDoor
namespace Tx
def ltr (c : Int) : Bool := decide ((97 ≤ c ∧ c ≤ 122) ∨ (65 ≤ c ∧ c ≤ 90) ∨ c = 95)
def dgt (c : Int) : Bool := decide (48 ≤ c ∧ c ≤ 57)
def wrd (c : Int) : Bool := ltr c || dgt c
def blk (c : Int) : Bool := decide (c = 32 ∨ c = 9 ∨ c = 10 ∨ c = 13)
def inl (c : Int) : Bool := decide (c ≠ 10)
/-- How many bytes at a list's head are such. -/
def run (p : Int → Bool) : List UInt8 → Nat
 | [] => 0
 | b :: l => if p (b.toNat : Int) then run p l + 1 else 0
theorem run_le (p : Int → Bool) (l : List UInt8) : run p l ≤ l.length := by
 induction l with
 | nil => exact Nat.le_refl _
 | cons b l ih => unfold run; split <;> simp <;> omega
/-- How many bytes of blanks and remarks stand at a list's head ('true': inside a remark). -/
def sk : Bool → List UInt8 → Nat
 | _, [] => 0
 | false, b :: l => if blk (b.toNat : Int) then sk false l + 1 else if b.toNat = 47 ∧ l.head? = some 47 then sk true l + 1 else 0
 | true, b :: l => if inl (b.toNat : Int) then sk true l + 1 else sk false l + 1
theorem sk_le : ∀ (q : Bool) (l : List UInt8), sk q l ≤ l.length
 | _, [] => by simp [sk]
 | false, b :: l => by
  have h1 := sk_le false l; have h2 := sk_le true l
  unfold sk; split
  ·simp; omega
  ·split <;> simp <;> omega
 | true, b :: l => by
  have h1 := sk_le false l; have h2 := sk_le true l
  unfold sk; split <;> simp <;> omega
theorem sk_true : ∀ (l : List UInt8), sk true l = run inl l + sk false (l.drop (run inl l))
 | [] => rfl
 | b :: l => by
  have ih := sk_true l
  by_cases h : inl (b.toNat : Int) = true
  ·simp only [sk, run, h, if_true, List.drop_succ_cons]; omega
  ·have hb : blk (b.toNat : Int) = true := by
    unfold inl at h; unfold blk; simp at h ⊢; omega
   simp only [sk, run, h, hb, if_true, Bool.false_eq_true, if_false, List.drop_zero]; omega
/-- Behind the run. -/
def wend (p : Int → Bool) (s : ByteArray) (i : Nat) : Nat := i + run p (s.data.toList.drop i)
/-- Behind blanks and remarks. -/
def skp (s : ByteArray) (i : Nat) : Nat := i + sk false (s.data.toList.drop i)
theorem len_eq (s : ByteArray) : s.data.toList.length = s.size := by rw [Array.length_toList]; rfl
theorem drop_at (s : ByteArray) (i : Nat) (h : i < s.size) : s.data.toList.drop i = s[i] :: s.data.toList.drop (i + 1) :=
 List.drop_eq_getElem_cons (by rw [len_eq]; exact h)
theorem drop_end (s : ByteArray) (i : Nat) (h : s.size ≤ i) : s.data.toList.drop i = [] :=
 List.drop_eq_nil_of_le (by rw [len_eq]; exact h)
theorem wend_in (p : Int → Bool) (s : ByteArray) (i : Nat) (h : i < s.size) (hp : p (s[i].toNat : Int) = true) : wend p s (i + 1) = wend p s i := by
 unfold wend; rw [drop_at s i h]; simp only [run, hp, if_true]; omega
theorem wend_out (p : Int → Bool) (s : ByteArray) (i : Nat) (h : i < s.size) (hp : p (s[i].toNat : Int) = false) : wend p s i = i := by
 unfold wend; rw [drop_at s i h]; simp only [run, hp, Bool.false_eq_true, if_false]; omega
theorem wend_end (p : Int → Bool) (s : ByteArray) (i : Nat) (h : s.size ≤ i) : wend p s i = i := by
 unfold wend; rw [drop_end s i h]; simp [run]
theorem wend_ge (p : Int → Bool) (s : ByteArray) (i : Nat) : i ≤ wend p s i := by unfold wend; omega
theorem wend_le (p : Int → Bool) (s : ByteArray) (i : Nat) (h : i ≤ s.size) : wend p s i ≤ s.size := by
 unfold wend
 have := run_le p (s.data.toList.drop i)
 rw [List.length_drop, len_eq] at this
 omega
theorem skp_ge (s : ByteArray) (i : Nat) : i ≤ skp s i := by unfold skp; omega
theorem skp_le (s : ByteArray) (i : Nat) (h : i ≤ s.size) : skp s i ≤ s.size := by
 unfold skp
 have := sk_le false (s.data.toList.drop i)
 rw [List.length_drop, len_eq] at this
 omega
theorem skp_end (s : ByteArray) (i : Nat) (h : s.size ≤ i) : skp s i = i := by
 unfold skp; rw [drop_end s i h]; simp [sk]
theorem skp_blank (s : ByteArray) (i : Nat) (h : i < s.size) (hb : blk (s[i].toNat : Int) = true) : skp s (i + 1) = skp s i := by
 unfold skp; rw [drop_at s i h]; simp only [sk, hb, if_true]; omega
theorem head_next (s : ByteArray) (i : Nat) : (s.data.toList.drop i).head? = some 47 ↔ ∃ h : i < s.size, s[i].toNat = 47 := by
 by_cases h : i < s.size
 ·rw [drop_at s i h]
  simp only [List.head?_cons, Option.some.injEq, h, exists_true_left]
  constructor
  ·intro e; rw [e]; rfl
  ·intro e; exact UInt8.toNat_inj.1 (by rw [e]; rfl)
 ·rw [drop_end s i (by omega)]
  simp [h]
/-- A remark runs up to the next line's end. -/
theorem skp_rem (s : ByteArray) (i : Nat) (h : i + 1 < s.size) (h0 : s[i].toNat = 47) (h1 : s[i + 1].toNat = 47) : skp s (wend inl s i) = skp s i := by
 have hi : i < s.size := by omega
 have hn : (s.data.toList.drop (i + 1)).head? = some 47 := (head_next s (i + 1)).2 ⟨h, h1⟩
 have hnb : blk (s[i].toNat : Int) = false := by rw [h0]; rfl
 have hil : inl (s[i].toNat : Int) = true := by rw [h0]; rfl
 have e1 : sk false (s.data.toList.drop i) = sk true (s.data.toList.drop i) := by
  rw [drop_at s i hi]
  simp only [sk, hnb, hil, Bool.false_eq_true, if_false, if_true]
  rw [if_pos ⟨h0, hn⟩]
 unfold skp
 rw [e1, sk_true]
 unfold wend
 rw [List.drop_drop]
 omega
theorem skp_stop (s : ByteArray) (i : Nat) (h : i < s.size) (hb : blk (s[i].toNat : Int) = false) (hr : ¬ (s[i].toNat = 47 ∧ ∃ h : i + 1 < s.size, s[i + 1].toNat = 47)) : skp s i = i := by
 unfold skp
 rw [drop_at s i h]
 have hn : ¬ (s[i].toNat = 47 ∧ (s.data.toList.drop (i + 1)).head? = some 47) := by
  rw [head_next]; exact hr
 simp only [sk, hb, Bool.false_eq_true, if_false]
 rw [if_neg hn]
 omega
/-- The words that are Keys. -/
def kw : List (List UInt8) := [[115, 116, 114, 117, 99, 116], [105, 110, 116], [118, 111, 105, 100], [110, 117, 108, 108], [110, 101, 119], [102, 114, 101, 101], [105, 102], [101, 108, 115, 101], [119, 104, 105, 108, 101], [105, 110, 112, 117, 116]]
def keyAt (k : Nat) : ByteArray := ⟨(kw.getD k []).toArray⟩
def isKey (s : ByteArray) : Bool := kw.any fun l => s.data.toList == l
theorem keyAt_list (k : Nat) : (keyAt k).data.toList = kw.getD k [] := by unfold keyAt; simp
theorem isKey_hit (s : ByteArray) (k : Nat) (hk : k < 10) (h : (s.data.toList == (keyAt k).data.toList) = true) : isKey s = true := by
 unfold isKey
 rw [List.any_eq_true]
 refine ⟨kw.getD k [], ?_, ?_⟩
 ·rw [List.getD_eq_getElem?_getD, List.getElem?_eq_getElem (by simp [kw]; omega)]
  exact List.getElem_mem _
 ·rw [keyAt_list] at h; exact h
theorem isKey_miss (s : ByteArray) (h : ∀ k, k < 10 → (s.data.toList == (keyAt k).data.toList) = false) : isKey s = false := by
 unfold isKey
 rw [List.any_eq_false]
 intro l hl
 obtain ⟨k, hk, rfl⟩ := List.getElem_of_mem hl
 have := h k hk
 rw [keyAt_list, List.getD_eq_getElem?_getD, List.getElem?_eq_getElem hk] at this
 simp only [Option.getD_some] at this
 rw [this]; simp
/-- What digits say. -/
def val (l : List UInt8) : Int := l.foldl (fun n b => 10 * n + (b.toNat - 48)) 0
/-- A Mark's bytes; nought: none. -/
def two (a b : Int) : Bool := decide ((a = 45 ∧ b = 62) ∨ (a = 61 ∧ b = 61) ∨ (a = 33 ∧ b = 61) ∨ (a = 62 ∧ b = 61))
def one (a : Int) : Bool := decide (a = 123 ∨ a = 125 ∨ a = 40 ∨ a = 41 ∨ a = 59 ∨ a = 44 ∨ a = 42 ∨ a = 61 ∨ a = 60 ∨ a = 43 ∨ a = 45 ∨ a = 63)
def mkl : List UInt8 → Nat
 | [] => 0
 | [a] => if one a.toNat then 1 else 0
 | a :: b :: _ => if two a.toNat b.toNat then 2 else if one a.toNat then 1 else 0
def mrk (s : ByteArray) (i : Nat) : Nat := mkl (s.data.toList.drop i)
theorem mrk_two (s : ByteArray) (i : Nat) (h : i + 1 < s.size) (ht : two (s[i].toNat) (s[i + 1].toNat) = true) : mrk s i = 2 := by
 unfold mrk; rw [drop_at s i (by omega), drop_at s (i + 1) h]; simp [mkl, ht]
theorem mrk_one (s : ByteArray) (i : Nat) (h : i < s.size) (hn : ∀ h : i + 1 < s.size, two (s[i].toNat) (s[i + 1].toNat) = false) : mrk s i = if one s[i].toNat then 1 else 0 := by
 unfold mrk
 rw [drop_at s i h]
 by_cases h1 : i + 1 < s.size
 ·rw [drop_at s (i + 1) h1]; simp [mkl, hn h1]
 ·rw [drop_end s (i + 1) (by omega)]; rfl
theorem mrk_le (s : ByteArray) (i : Nat) (h : i < s.size) : i + mrk s i ≤ s.size := by
 by_cases h1 : i + 1 < s.size
 ·unfold mrk; rw [drop_at s i h, drop_at s (i + 1) h1]; simp only [mkl]; split
  ·omega
  ·split <;> omega
 ·rw [mrk_one s i h (fun h' => absurd h' h1)]; split <;> omega
/-- A sign as it is answered. -/
structure Sg where
 kind : Int
 pos : Nat
 text : ByteArray
 num : Int
/-- An answer: the sign, the place, the error. -/
structure An where
 sg : Sg
 stop : Nat
 err : Int
def An.bad (k : Nat) (e : Int) : An := ⟨⟨0, k, ByteArray.empty, 0⟩, k, e⟩
def An.good (s : ByteArray) (kind : Int) (k e : Nat) (n : Int) : An := ⟨⟨kind, k, s.extract k e, n⟩, e, 0⟩
def wordA (s : ByteArray) (k : Nat) : An :=
 if 16 < wend wrd s k - k then .bad k 3 else .good s (if isKey (s.extract k (wend wrd s k)) then 3 else 1) k (wend wrd s k) 0
def numA (s : ByteArray) (k : Nat) : An :=
 if 9 < wend dgt s k - k then .bad k 3 else .good s 2 k (wend dgt s k) (val (s.extract k (wend dgt s k)).data.toList)
def markA (s : ByteArray) (k : Nat) : An :=
 if mrk s k = 0 then .bad k 4 else .good s 4 k (k + mrk s k) 0
/-- The sign that begins at k. -/
def tok (s : ByteArray) (k : Nat) : An :=
 if h : k < s.size then
  if ltr (s[k].toNat : Int) then wordA s k else if dgt (s[k].toNat : Int) then numA s k else markA s k
 else .bad k 0
/-- The sign that comes next. -/
def nx (s : ByteArray) (i : Nat) : An := tok s (skp s i)
end Tx
end Go.Proofs.YtdlchhimkelinaaGreatDoor
namespace Go.Proofs.YtdlchhimkelinaaGreatDoor
open Go.RowKit
theorem lret_bool {a b : Bool} (h : a = b) : Ending.returned (.bool a) = .returned (.bool b) := by rw [h]
theorem lret_int {k : IntKind} {a b : Int} (h : a = b) : Ending.returned (.int k a) = .returned (.int k b) := by rw [h]
theorem isLetter_any (c : Int) (w : World) :
  Calls Tryz.prog 89 #[.int .u8 c] w fun e w' => e = .returned (.bool (Tx.ltr c)) ∧ w = w' := by
 go_enter Tryz.func89, Tryz.ntmps89
 go_wp2
 all_goals
  go_ret
  exact ⟨lret_bool (by rw [Bool.eq_iff_iff]; simp [Tx.ltr]; omega), rfl⟩
theorem letter_any (c : Int) (w : World) :
  Calls Tryz.prog 126 #[.int .u8 c] w fun e w' => e = .returned (.bool (Tx.ltr c)) ∧ w = w' := by
 go_enter Tryz.func126, Tryz.ntmps126
 go_wp2
 all_goals
  go_ret
  exact ⟨lret_bool (by rw [Bool.eq_iff_iff]; simp [Tx.ltr]; omega), rfl⟩
theorem isDigit_any (c : Int) (w : World) :
  Calls Tryz.prog 91 #[.int .u8 c] w fun e w' => e = .returned (.bool (Tx.dgt c)) ∧ w = w' := by
 go_enter Tryz.func91, Tryz.ntmps91
 go_wp2
 all_goals
  go_ret
  exact ⟨lret_bool (by rw [Bool.eq_iff_iff]; simp [Tx.dgt]; omega), rfl⟩
theorem digit_any (c : Int) (w : World) :
  Calls Tryz.prog 127 #[.int .u8 c] w fun e w' => e = .returned (.bool (Tx.dgt c)) ∧ w = w' := by
 go_enter Tryz.func127, Tryz.ntmps127
 go_wp2
 all_goals
  go_ret
  exact ⟨lret_bool (by rw [Bool.eq_iff_iff]; simp [Tx.dgt]; omega), rfl⟩
theorem hasPrefix_any (s p : ByteArray) (w : World) :
  Calls Tryz.prog 119 #[.string s, .string p] w fun e w' => e = .returned (.bool (Lib.hasPrefix s.data.toList p.data.toList)) ∧ w = w' := by
 rw [← Lib.hasPrefix_of_take, ← Lib.size_eq, ← Lib.size_eq]
 go_enter Tryz.func119, Tryz.ntmps119
 go_wp2
 ·rename_i h
  go_ret
  refine ⟨?_, rfl⟩
  show Ending.returned (Value.bool ((s.extract 0 p.size).toList == p.toList)) = _
  rw [Lib.extract_toList, Lib.toList_data]
  simp [h]
 ·rename_i h
  go_ret
  refine ⟨?_, rfl⟩
  show Ending.returned (Value.bool false) = _
  simp [h]
theorem sliteIndexByte_any (s : ByteArray) (c : Int) (w : World) :
  Calls Tryz.prog 158 #[.string s, .int .u8 c] w fun e w' => e = .returned (.int .i64 (Lib.indexByte s.data.toList c.toNat.toUInt8)) ∧ w = w' := by
 go_enter Tryz.func158, Tryz.ntmps158
 go_wp2
 rw [run_callFunc_extern Tryz.func177 (by kernel_rfl) (by kernel_rfl) (by kernel_rfl) (e := Extern.BytealgIndexByte.indexByte) (by kernel_rfl), Lib.run_indexByteString]
 simp only [Result.andThen]
 rw [Oper.upon_value]
 go_wp2
 go_ret
 exact ⟨rfl, rfl⟩
theorem indexByte_any (s : ByteArray) (c : Int) (w : World) :
  Calls Tryz.prog 124 #[.string s, .int .u8 c] w fun e w' => e = .returned (.int .i64 (Lib.indexByte s.data.toList c.toNat.toUInt8)) ∧ w = w' := by
 go_enter Tryz.func124, Tryz.ntmps124
 go_wp2_with (go_at_call 158; refine (sliteIndexByte_any _ _ _).mono ?_; rintro e w' ⟨rfl, rfl⟩)
 go_ret
 exact ⟨rfl, rfl⟩
end Go.Proofs.YtdlchhimkelinaaGreatDoor
namespace Go.Proofs.YtdlchhimkelinaaGreatDoor
open Go.RowKit
theorem wordEnd_any (s : ByteArray) (i : Nat) (w : World) (hs : s.size ≤ 5000000) (hi : i ≤ s.size) :
  Calls Tryz.prog 114 #[.string s, .int .i64 i] w fun e w' => e = .returned (.int .i64 (Tx.wend Tx.wrd s i)) ∧ w = w' := by
 go_enter Tryz.func114, Tryz.ntmps114
 go_wp2
 go_loop [1] (fun v => ∃ k : Nat, k ≤ s.size ∧ v = .int .i64 k ∧ Hid (Tx.wend Tx.wrd s k = Tx.wend Tx.wrd s i)) (fun v => s.size - (intOf v).toNat)
 case atStart => exact ⟨i, hi, rfl, rfl⟩
 case round =>
  obtain ⟨k, hk, rfl, HR⟩ := hrel
  by_cases hlt : k < s.size
  ·cases hl : Tx.ltr (s[k].toNat : Int)
   ·cases hd : Tx.dgt (s[k].toNat : Int)
    ·have HE := hdn (Tx.wend_out Tx.wrd s k hlt (by unfold Tx.wrd; rw [hl, hd]; rfl))
     go_wp2_with (first | (go_at_call 89; refine (isLetter_any _ _).mono ?_; rintro e w' ⟨rfl, rfl⟩) | (go_at_call 91; refine (isDigit_any _ _).mono ?_; rintro e w' ⟨rfl, rfl⟩))
     go_ret
     exact ⟨lret_int (by rw [← HR.out, HE.out]), rfl⟩
    ·have HE := hdn (Tx.wend_in Tx.wrd s k hlt (by unfold Tx.wrd; rw [hl, hd]; rfl))
     go_wp2_with (first | (go_at_call 89; refine (isLetter_any _ _).mono ?_; rintro e w' ⟨rfl, rfl⟩) | (go_at_call 91; refine (isDigit_any _ _).mono ?_; rintro e w' ⟨rfl, rfl⟩))
     go_round
     case rel => exact ⟨k + 1, by omega, by go_num, HE.out.trans HR.out⟩
     case measure => simp [intOf]; omega
   ·have HE := hdn (Tx.wend_in Tx.wrd s k hlt (by unfold Tx.wrd; rw [hl]; rfl))
    go_wp2_with (first | (go_at_call 89; refine (isLetter_any _ _).mono ?_; rintro e w' ⟨rfl, rfl⟩) | (go_at_call 91; refine (isDigit_any _ _).mono ?_; rintro e w' ⟨rfl, rfl⟩))
    go_round
    case rel => exact ⟨k + 1, by omega, by go_num, HE.out.trans HR.out⟩
    case measure => simp [intOf]; omega
  ·have HE := hdn (Tx.wend_end Tx.wrd s k (by omega))
   go_wp2_with fail
   go_ret
   exact ⟨lret_int (by rw [← HR.out, HE.out]), rfl⟩
theorem digitsEnd_any (s : ByteArray) (i : Nat) (w : World) (hs : s.size ≤ 5000000) (hi : i ≤ s.size) :
  Calls Tryz.prog 122 #[.string s, .int .i64 i] w fun e w' => e = .returned (.int .i64 (Tx.wend Tx.dgt s i)) ∧ w = w' := by
 go_enter Tryz.func122, Tryz.ntmps122
 go_wp2
 go_loop [1] (fun v => ∃ k : Nat, k ≤ s.size ∧ v = .int .i64 k ∧ Hid (Tx.wend Tx.dgt s k = Tx.wend Tx.dgt s i)) (fun v => s.size - (intOf v).toNat)
 case atStart => exact ⟨i, hi, rfl, rfl⟩
 case round =>
  obtain ⟨k, hk, rfl, HR⟩ := hrel
  by_cases hlt : k < s.size
  ·cases hd : Tx.dgt (s[k].toNat : Int)
   ·have HE := hdn (Tx.wend_out Tx.dgt s k hlt hd)
    go_wp2_with (go_at_call 91; refine (isDigit_any _ _).mono ?_; rintro e w' ⟨rfl, rfl⟩)
    go_ret
    exact ⟨lret_int (by rw [← HR.out, HE.out]), rfl⟩
   ·have HE := hdn (Tx.wend_in Tx.dgt s k hlt hd)
    go_wp2_with (go_at_call 91; refine (isDigit_any _ _).mono ?_; rintro e w' ⟨rfl, rfl⟩)
    go_round
    case rel => exact ⟨k + 1, by omega, by go_num, HE.out.trans HR.out⟩
    case measure => simp [intOf]; omega
  ·have HE := hdn (Tx.wend_end Tx.dgt s k (by omega))
   go_wp2_with fail
   go_ret
   exact ⟨lret_int (by rw [← HR.out, HE.out]), rfl⟩
theorem val_take (s : ByteArray) (k : Nat) (h : k < s.size) : Tx.val (s.data.toList.take (k + 1)) = 10 * Tx.val (s.data.toList.take k) + (s[k].toNat - 48) := by
 rw [List.take_succ_eq_append_getElem (by rw [Tx.len_eq]; exact h)]
 unfold Tx.val
 rw [List.foldl_append]
 rfl
/-- All of a list's bytes are digits. -/
def digs (l : List UInt8) : Prop := ∀ b ∈ l, Tx.dgt (b.toNat : Int) = true
theorem digs_at {s : ByteArray} (h : digs s.data.toList) (k : Nat) (hk : k < s.size) : 48 ≤ s[k].toNat ∧ s[k].toNat ≤ 57 := by
 have := h s[k] (by
  have : s[k] = s.data.toList[k]'(by rw [Tx.len_eq]; exact hk) := by simp; rfl
  rw [this]; exact List.getElem_mem _)
 unfold Tx.dgt at this
 simp at this
 omega
theorem val_bd (s : ByteArray) (h : digs s.data.toList) : ∀ k, k ≤ s.size → 0 ≤ Tx.val (s.data.toList.take k) ∧ Tx.val (s.data.toList.take k) < 10 ^ k
 | 0, _ => by simp [Tx.val]
 | k + 1, hk => by
  have ih := val_bd s h k (by omega)
  have hd := digs_at h k (by omega)
  rw [val_take s k (by omega)]
  have : (10 : Int) ^ (k + 1) = 10 * 10 ^ k := by rw [Int.pow_succ]; omega
  omega
theorem val_small (s : ByteArray) (h : digs s.data.toList) (h9 : s.size ≤ 9) (k : Nat) (hk : k ≤ s.size) : 0 ≤ Tx.val (s.data.toList.take k) ∧ Tx.val (s.data.toList.take k) < 1000000000 := by
 have h1 := val_bd s h k hk
 have h2 : (10 : Int) ^ k ≤ 10 ^ 9 := by
  have : (10 : Nat) ^ k ≤ 10 ^ 9 := Nat.pow_le_pow_right (by decide) (by omega)
  have := Int.ofNat_le.2 this
  simpa using this
 have h3 : (10 : Int) ^ 9 = 1000000000 := by decide
 omega
theorem lvalue_any (s : ByteArray) (w : World) (hd : digs s.data.toList) (h9 : s.size ≤ 9) :
  Calls Tryz.prog 123 #[.string s] w fun e w' => e = .returned (.int .i64 (Tx.val s.data.toList)) ∧ w = w' := by
 have HD := hdn hd
 clear hd
 go_enter Tryz.func123, Tryz.ntmps123
 go_wp2
 go_loop [3, 7] (fun n i => ∃ k : Nat, k ≤ s.size ∧ i = .int .i64 k ∧ n = .int .i64 (Tx.val (s.data.toList.take k))) (fun _ i => s.size - (intOf i).toNat)
 case atStart => exact ⟨0, Nat.zero_le _, rfl, rfl⟩
 case round =>
  obtain ⟨k, hk, rfl, rfl⟩ := hrel
  by_cases hlt : k < s.size
  ·have hb := val_small s HD.out h9 k hk
   have hb0 := hb.1
   have hb1 := hb.2
   have hc := digs_at HD.out k hlt
   have hc0 := hc.1
   have hc1 := hc.2
   have HE := hdn (val_take s k hlt)
   clear hb hc
   go_wp2_with fail
   go_round
   case rel => exact ⟨k + 1, by omega, by go_num, by rw [HE.out]⟩
   case measure => simp [intOf]; omega
  ·go_wp2_with fail
   go_ret
   exact ⟨lret_int (by rw [List.take_of_length_le (by rw [Tx.len_eq]; omega)]), rfl⟩
end Go.Proofs.YtdlchhimkelinaaGreatDoor
namespace Go.Proofs.YtdlchhimkelinaaGreatDoor
open Go.RowKit
/-- The Marks of two bytes. -/
def Tx.pw : List (List UInt8) := [[45, 62], [61, 61], [33, 61], [62, 61]]
def Tx.prAt (k : Nat) : ByteArray := ⟨(Tx.pw.getD k []).toArray⟩
/-- The tables lie as the program's text lays them. -/
structure Gl (w : World) : Prop where
 key : ∀ k, k < 10 → w.cell? ⟨2, k, none⟩ = some (.string (Tx.keyAt k))
 pair : ∀ k, k < 4 → w.cell? ⟨1, k, none⟩ = some (.string (Tx.prAt k))
 two : 3 ≤ w.heap.size
theorem Gl.below {w w' : World} {B : Nat} (h : Gl w) (hb : Below B w w') (h2 : 3 ≤ B) : Gl w' :=
 ⟨fun k hk => (hb.cell (p := ⟨2, k, none⟩) (by show 2 < B; omega)).trans (h.key k hk), fun k hk => (hb.cell (p := ⟨1, k, none⟩) (by show 1 < B; omega)).trans (h.pair k hk), Nat.le_trans h.two hb.size⟩
theorem keys_index : ∀ k : Nat, k < 10 → ∀ w : World, (Instr.index 189 (.agg #[.string (Tx.keyAt 0), .string (Tx.keyAt 1), .string (Tx.keyAt 2), .string (Tx.keyAt 3), .string (Tx.keyAt 4), .string (Tx.keyAt 5), .string (Tx.keyAt 6), .string (Tx.keyAt 7), .string (Tx.keyAt 8), .string (Tx.keyAt 9)]) (.int .i64 (k : Int))).run Tryz.prog w = .ok (.string (Tx.keyAt k)) w := by
 have x0 : ∀ w : World, (Instr.index 189 (.agg #[.string (Tx.keyAt 0), .string (Tx.keyAt 1), .string (Tx.keyAt 2), .string (Tx.keyAt 3), .string (Tx.keyAt 4), .string (Tx.keyAt 5), .string (Tx.keyAt 6), .string (Tx.keyAt 7), .string (Tx.keyAt 8), .string (Tx.keyAt 9)]) (.int .i64 ((0 : Nat) : Int))).run Tryz.prog w = .ok (.string (Tx.keyAt 0)) w := fun _ => by kernel_rfl
 have x1 : ∀ w : World, (Instr.index 189 (.agg #[.string (Tx.keyAt 0), .string (Tx.keyAt 1), .string (Tx.keyAt 2), .string (Tx.keyAt 3), .string (Tx.keyAt 4), .string (Tx.keyAt 5), .string (Tx.keyAt 6), .string (Tx.keyAt 7), .string (Tx.keyAt 8), .string (Tx.keyAt 9)]) (.int .i64 ((1 : Nat) : Int))).run Tryz.prog w = .ok (.string (Tx.keyAt 1)) w := fun _ => by kernel_rfl
 have x2 : ∀ w : World, (Instr.index 189 (.agg #[.string (Tx.keyAt 0), .string (Tx.keyAt 1), .string (Tx.keyAt 2), .string (Tx.keyAt 3), .string (Tx.keyAt 4), .string (Tx.keyAt 5), .string (Tx.keyAt 6), .string (Tx.keyAt 7), .string (Tx.keyAt 8), .string (Tx.keyAt 9)]) (.int .i64 ((2 : Nat) : Int))).run Tryz.prog w = .ok (.string (Tx.keyAt 2)) w := fun _ => by kernel_rfl
 have x3 : ∀ w : World, (Instr.index 189 (.agg #[.string (Tx.keyAt 0), .string (Tx.keyAt 1), .string (Tx.keyAt 2), .string (Tx.keyAt 3), .string (Tx.keyAt 4), .string (Tx.keyAt 5), .string (Tx.keyAt 6), .string (Tx.keyAt 7), .string (Tx.keyAt 8), .string (Tx.keyAt 9)]) (.int .i64 ((3 : Nat) : Int))).run Tryz.prog w = .ok (.string (Tx.keyAt 3)) w := fun _ => by kernel_rfl
 have x4 : ∀ w : World, (Instr.index 189 (.agg #[.string (Tx.keyAt 0), .string (Tx.keyAt 1), .string (Tx.keyAt 2), .string (Tx.keyAt 3), .string (Tx.keyAt 4), .string (Tx.keyAt 5), .string (Tx.keyAt 6), .string (Tx.keyAt 7), .string (Tx.keyAt 8), .string (Tx.keyAt 9)]) (.int .i64 ((4 : Nat) : Int))).run Tryz.prog w = .ok (.string (Tx.keyAt 4)) w := fun _ => by kernel_rfl
 have x5 : ∀ w : World, (Instr.index 189 (.agg #[.string (Tx.keyAt 0), .string (Tx.keyAt 1), .string (Tx.keyAt 2), .string (Tx.keyAt 3), .string (Tx.keyAt 4), .string (Tx.keyAt 5), .string (Tx.keyAt 6), .string (Tx.keyAt 7), .string (Tx.keyAt 8), .string (Tx.keyAt 9)]) (.int .i64 ((5 : Nat) : Int))).run Tryz.prog w = .ok (.string (Tx.keyAt 5)) w := fun _ => by kernel_rfl
 have x6 : ∀ w : World, (Instr.index 189 (.agg #[.string (Tx.keyAt 0), .string (Tx.keyAt 1), .string (Tx.keyAt 2), .string (Tx.keyAt 3), .string (Tx.keyAt 4), .string (Tx.keyAt 5), .string (Tx.keyAt 6), .string (Tx.keyAt 7), .string (Tx.keyAt 8), .string (Tx.keyAt 9)]) (.int .i64 ((6 : Nat) : Int))).run Tryz.prog w = .ok (.string (Tx.keyAt 6)) w := fun _ => by kernel_rfl
 have x7 : ∀ w : World, (Instr.index 189 (.agg #[.string (Tx.keyAt 0), .string (Tx.keyAt 1), .string (Tx.keyAt 2), .string (Tx.keyAt 3), .string (Tx.keyAt 4), .string (Tx.keyAt 5), .string (Tx.keyAt 6), .string (Tx.keyAt 7), .string (Tx.keyAt 8), .string (Tx.keyAt 9)]) (.int .i64 ((7 : Nat) : Int))).run Tryz.prog w = .ok (.string (Tx.keyAt 7)) w := fun _ => by kernel_rfl
 have x8 : ∀ w : World, (Instr.index 189 (.agg #[.string (Tx.keyAt 0), .string (Tx.keyAt 1), .string (Tx.keyAt 2), .string (Tx.keyAt 3), .string (Tx.keyAt 4), .string (Tx.keyAt 5), .string (Tx.keyAt 6), .string (Tx.keyAt 7), .string (Tx.keyAt 8), .string (Tx.keyAt 9)]) (.int .i64 ((8 : Nat) : Int))).run Tryz.prog w = .ok (.string (Tx.keyAt 8)) w := fun _ => by kernel_rfl
 have x9 : ∀ w : World, (Instr.index 189 (.agg #[.string (Tx.keyAt 0), .string (Tx.keyAt 1), .string (Tx.keyAt 2), .string (Tx.keyAt 3), .string (Tx.keyAt 4), .string (Tx.keyAt 5), .string (Tx.keyAt 6), .string (Tx.keyAt 7), .string (Tx.keyAt 8), .string (Tx.keyAt 9)]) (.int .i64 ((9 : Nat) : Int))).run Tryz.prog w = .ok (.string (Tx.keyAt 9)) w := fun _ => by kernel_rfl
 intro k hk w
 rcases (show k = 0 ∨ k = 1 ∨ k = 2 ∨ k = 3 ∨ k = 4 ∨ k = 5 ∨ k = 6 ∨ k = 7 ∨ k = 8 ∨ k = 9 by omega) with rfl | rfl | rfl | rfl | rfl | rfl | rfl | rfl | rfl | rfl
 ·exact x0 w
 ·exact x1 w
 ·exact x2 w
 ·exact x3 w
 ·exact x4 w
 ·exact x5 w
 ·exact x6 w
 ·exact x7 w
 ·exact x8 w
 ·exact x9 w
theorem beq_swap (a b : List UInt8) : (a == b) = (b == a) := by rw [Bool.eq_iff_iff, beq_iff_eq, beq_iff_eq]; exact eq_comm
theorem isKeyLex_any (s : ByteArray) (w : World) (hg : Gl w) :
  Calls Tryz.prog 115 #[.string s] w fun e w' => e = .returned (.bool (Tx.isKey s)) ∧ w = w' := by
 have c0 := hg.key 0 (by decide)
 have c1 := hg.key 1 (by decide)
 have c2 := hg.key 2 (by decide)
 have c3 := hg.key 3 (by decide)
 have c4 := hg.key 4 (by decide)
 have c5 := hg.key 5 (by decide)
 have c6 := hg.key 6 (by decide)
 have c7 := hg.key 7 (by decide)
 have c8 := hg.key 8 (by decide)
 have c9 := hg.key 9 (by decide)
 go_enter Tryz.func115, Tryz.ntmps115
 go_wp2
 clear c0 c1 c2 c3 c4 c5 c6 c7 c8 c9
 go_loop [6] (fun i => ∃ k : Nat, k ≤ 10 ∧ i = .int .i64 k ∧ Hid (∀ j, j < k → (s.data.toList == (Tx.keyAt j).data.toList) = false)) (fun i => 10 - (intOf i).toNat)
 case atStart => exact ⟨0, Nat.zero_le _, rfl, hdn (fun j hj => absurd hj (by omega))⟩
 case round =>
  obtain ⟨k, hk, rfl, HR⟩ := hrel
  by_cases hlt : k < 10
  ·have hx := keys_index k hlt
   cases he : (s.toList == (Tx.keyAt k).toList)
   ·have HE : (s.data.toList == (Tx.keyAt k).data.toList) = false := by rw [← Lib.toList_data, ← Lib.toList_data]; exact he
    replace HE := hdn HE
    go_wp2
    go_round
    case rel => exact ⟨k + 1, by omega, by go_num, hdn (fun j hj => by
     rcases Nat.lt_or_ge j k with h | h
     ·exact HR.out j h
     ·obtain rfl : j = k := by omega
      exact HE.out)⟩
    case measure => simp [intOf]; omega
   ·have HE : (s.data.toList == (Tx.keyAt k).data.toList) = true := by rw [← Lib.toList_data, ← Lib.toList_data]; exact he
    replace HE := hdn HE
    go_wp2
    go_ret
    exact ⟨lret_bool (Tx.isKey_hit s k hlt HE.out).symm, rfl⟩
  ·go_wp2
   go_ret
   exact ⟨lret_bool (Tx.isKey_miss s (fun j hj => HR.out j (by omega))).symm, rfl⟩
theorem isKeyRef_any (s : ByteArray) (w : World) :
  Calls Tryz.prog 128 #[.string s] w fun e w' => e = .returned (.bool (Tx.isKey s)) ∧ Below w.heap.size w w' := by
 go_enter Tryz.func128, Tryz.ntmps128
 go_wp2
 go_loopw [4] (fun i wr => ∃ k : Nat, k ≤ 10 ∧ i = .int .i64 k ∧ Hid (∀ j, j < 10 → wr.cell? ⟨w.heap.size, j, none⟩ = some (.string (Tx.keyAt j))) ∧ Hid (Below w.heap.size w wr) ∧ Hid (∀ j, j < k → (s.data.toList == (Tx.keyAt j).data.toList) = false)) (fun i _ => 10 - (Lib.intOf i).toNat)
 case atStart =>
  refine ⟨0, Nat.zero_le _, rfl, hdn ?_, hdn ((Below.refl _ _).alloc (Nat.le_refl _) _), hdn (fun j hj => absurd hj (by omega))⟩
  intro k hk
  rcases (show k = 0 ∨ k = 1 ∨ k = 2 ∨ k = 3 ∨ k = 4 ∨ k = 5 ∨ k = 6 ∨ k = 7 ∨ k = 8 ∨ k = 9 by omega) with rfl | rfl | rfl | rfl | rfl | rfl | rfl | rfl | rfl | rfl <;> (rw [World.cell?_alloc_new]; rfl)
 case round =>
  obtain ⟨k, hk, rfl, HC, HB, HR⟩ := hrel
  by_cases hlt : k < 10
  ·have hx := HC.out k hlt
   cases he : (s.toList == (Tx.keyAt k).toList)
   ·have HE : (s.data.toList == (Tx.keyAt k).data.toList) = false := by rw [← Lib.toList_data, ← Lib.toList_data]; exact he
    replace HE := hdn HE
    have he' : ((Tx.keyAt k).toList == s.toList) = false := by rw [beq_swap]; exact he
    clear he
    go_wp2
    go_roundw
    case rel => exact ⟨k + 1, by omega, by go_num, HC, HB, hdn (fun j hj => by
     rcases Nat.lt_or_ge j k with h | h
     ·exact HR.out j h
     ·obtain rfl : j = k := by omega
      exact HE.out)⟩
    case measure => simp [Lib.intOf]; omega
   ·have HE : (s.data.toList == (Tx.keyAt k).data.toList) = true := by rw [← Lib.toList_data, ← Lib.toList_data]; exact he
    replace HE := hdn HE
    have he' : ((Tx.keyAt k).toList == s.toList) = true := by rw [beq_swap]; exact he
    clear he
    go_wp2
    go_ret
    exact ⟨lret_bool (Tx.isKey_hit s k hlt HE.out).symm, HB.out⟩
  ·go_wp2
   go_ret
   exact ⟨lret_bool (Tx.isKey_miss s (fun j hj => HR.out j (by omega))).symm, HB.out⟩
end Go.Proofs.YtdlchhimkelinaaGreatDoor
namespace Go.Proofs.YtdlchhimkelinaaGreatDoor
open Go.RowKit
theorem from_list (s : ByteArray) (k : Nat) : (s.extract k s.size).data.toList = s.data.toList.drop k := by
 rw [← Lib.toList_data, Lib.extract_toList, ← Tx.len_eq]
 exact List.take_of_length_le (by simp)
theorem part_list (s : ByteArray) (a b : Nat) : (s.extract a b).data.toList = (s.data.toList.drop a).take (b - a) := by
 rw [← Lib.toList_data, Lib.extract_toList]
theorem pre2 (s : ByteArray) (k : Nat) (a b : UInt8) : Lib.hasPrefix (s.extract k s.size).data.toList [a, b] = true ↔ ∃ h : k + 1 < s.size, s[k] = a ∧ s[k + 1] = b := by
 rw [from_list]
 unfold Lib.hasPrefix
 by_cases h : k < s.size
 ·rw [Tx.drop_at s k h]
  by_cases h1 : k + 1 < s.size
  ·rw [Tx.drop_at s (k + 1) h1]
   simp only [List.isPrefixOf, Bool.and_true, Bool.and_eq_true, beq_iff_eq, h1, exists_true_left]
   exact ⟨fun ⟨x, y⟩ => ⟨x.symm, y.symm⟩, fun ⟨x, y⟩ => ⟨x.symm, y.symm⟩⟩
  ·rw [Tx.drop_end s (k + 1) (by omega)]
   simp [List.isPrefixOf, h1]
 ·rw [Tx.drop_end s k (by omega)]
  simp [List.isPrefixOf]; omega
theorem index_run (l : List UInt8) : Lib.indexByte l 10 = if Tx.run Tx.inl l < l.length then (Tx.run Tx.inl l : Int) else -1 := by
 induction l with
 | nil => rfl
 | cons b l ih =>
  unfold Lib.indexByte Tx.run
  by_cases h : b = 10
  ·subst h; simp [Tx.inl]
  ·have hb : Tx.inl (b.toNat : Int) = true := by
    unfold Tx.inl
    simp only [ne_eq, decide_not, Bool.not_eq_true', decide_eq_false_iff_not]
    intro e
    apply h
    exact UInt8.toNat_inj.1 (by show b.toNat = 10; omega)
   have hb' : (b == 10) = false := by simpa using h
   rw [hb', hb, ih]
   simp only [Bool.false_eq_true, if_false, if_true, List.length_cons]
   by_cases h2 : Tx.run Tx.inl l < l.length
   ·rw [if_pos h2, if_neg (by simp), if_pos (show Tx.run Tx.inl l + 1 < l.length + 1 by omega)]; simp
   ·rw [if_neg h2, if_neg (show ¬ Tx.run Tx.inl l + 1 < l.length + 1 by omega)]; rfl
theorem index_line (s : ByteArray) (i : Nat) (hi : i ≤ s.size) : Lib.indexByte (s.extract i s.size).data.toList 10 = if Tx.wend Tx.inl s i < s.size then ((Tx.wend Tx.inl s i : Int) - i) else -1 := by
 rw [from_list, index_run, List.length_drop, Tx.len_eq]
 unfold Tx.wend
 by_cases h : Tx.run Tx.inl (s.data.toList.drop i) < s.size - i
 ·rw [if_pos h, if_pos (by omega)]; omega
 ·rw [if_neg h, if_neg (by omega)]
/-- Where the next line's end stands, from i on; below nought: nowhere. -/
def lineI (s : ByteArray) (i : Nat) : Int := Lib.indexByte (s.extract i s.size).data.toList 10
/-- Does p stand at k? -/
def preB (s : ByteArray) (k : Nat) (p : ByteArray) : Bool := Lib.hasPrefix (s.extract k s.size).data.toList p.data.toList
theorem indexFrom_any (s : ByteArray) (i : Nat) (w : World) :
  Calls Tryz.prog 124 #[.string (s.extract i s.size), .int .u8 10] w fun e w' => e = .returned (.int .i64 (lineI s i)) ∧ w = w' := indexByte_any _ _ w
theorem prefixFrom_any (s : ByteArray) (k : Nat) (p : ByteArray) (w : World) :
  Calls Tryz.prog 119 #[.string (s.extract k s.size), .string p] w fun e w' => e = .returned (.bool (preB s k p)) ∧ w = w' := hasPrefix_any _ _ w
theorem lineEnd_any (s : ByteArray) (i : Nat) (w : World) (hs : s.size ≤ 5000000) (hi : i ≤ s.size) :
  Calls Tryz.prog 120 #[.string s, .int .i64 i] w fun e w' => e = .returned (.int .i64 (Tx.wend Tx.inl s i)) ∧ w = w' := by
 have hx : lineI s i = _ := index_line s i hi
 have hle := Tx.wend_le Tx.inl s i hi
 have hge := Tx.wend_ge Tx.inl s i
 by_cases h : Tx.wend Tx.inl s i < s.size
 ·rw [if_pos h] at hx
  have h0 : 0 ≤ lineI s i := by omega
  have h1 : lineI s i ≤ 5000000 := by omega
  have HX := hdn hx
  have HH := hdn h
  clear hx h hle hge
  go_enter Tryz.func120, Tryz.ntmps120
  go_wp2_with (go_at_call 124; refine (indexFrom_any _ _ _).mono ?_; rintro e w' ⟨rfl, rfl⟩)
  go_ret
  exact ⟨lret_int (by have := HX.out; omega), rfl⟩
 ·rw [if_neg h] at hx
  have h0 : ¬ 0 ≤ lineI s i := by omega
  have HX := hdn hx
  have HH := hdn h
  clear hx h
  have HL := hdn hle
  clear hle hge
  go_enter Tryz.func120, Tryz.ntmps120
  go_wp2_with (go_at_call 124; refine (indexFrom_any _ _ _).mono ?_; rintro e w' ⟨rfl, rfl⟩)
  go_ret
  exact ⟨lret_int (by have := HH.out; have := HL.out; omega), rfl⟩
theorem rem_yes (s : ByteArray) (k : Nat) (h : preB s k ⟨#[47, 47]⟩ = true) : ∃ h : k + 1 < s.size, s[k].toNat = 47 ∧ s[k + 1].toNat = 47 := by
 obtain ⟨h1, a, b⟩ := (pre2 s k 47 47).1 h
 exact ⟨h1, by rw [a]; rfl, by rw [b]; rfl⟩
theorem rem_no (s : ByteArray) (k : Nat) (hk : k < s.size) (h : preB s k ⟨#[47, 47]⟩ = false) : ¬ (s[k].toNat = 47 ∧ ∃ h : k + 1 < s.size, s[k + 1].toNat = 47) := by
 rintro ⟨a, h1, b⟩
 have := (pre2 s k 47 47).2 ⟨h1, UInt8.toNat_inj.1 a, UInt8.toNat_inj.1 b⟩
 unfold preB at h
 rw [show (ByteArray.mk #[47, 47]).data.toList = [47, 47] from rfl, this] at h
 cases h
/-- A byte's case: a blank, a stroke, another. -/
theorem byte_case (c : Int) : (Tx.blk c = true ∧ ((c == 32) = true ∨ ((c == 32) = false ∧ (c == 9) = true) ∨ ((c == 32) = false ∧ (c == 9) = false ∧ (c == 10) = true) ∨ ((c == 32) = false ∧ (c == 9) = false ∧ (c == 10) = false ∧ (c == 13) = true)))
  ∨ (Tx.blk c = false ∧ (c == 32) = false ∧ (c == 9) = false ∧ (c == 10) = false ∧ (c == 13) = false ∧ ((c == 47) = true ∨ (c == 47) = false)) := by
 unfold Tx.blk; simp; omega
theorem skip_any (s : ByteArray) (i : Nat) (w : World) (hs : s.size ≤ 5000000) (hi : i ≤ s.size) :
  Calls Tryz.prog 87 #[.string s, .int .i64 i] w fun e w' => e = .returned (.int .i64 (Tx.skp s i)) ∧ w = w' := by
 go_enter Tryz.func87, Tryz.ntmps87
 go_wp2
 go_step3
 go_wp2
 go_step3
 go_wp2
 go_loop [1] (fun v => ∃ k : Nat, k ≤ s.size ∧ v = .int .i64 k ∧ Hid (Tx.skp s k = Tx.skp s i)) (fun v => s.size - (intOf v).toNat)
 case atStart => exact ⟨i, hi, rfl, rfl⟩
 case round =>
  obtain ⟨k, hk, rfl, HR⟩ := hrel
  by_cases hlt : k < s.size
  ·rcases byte_case (s[k].toNat : Int) with ⟨hb, hc⟩ | ⟨hb, h1, h2, h3, h4, hc⟩
   ·have HE := hdn (Tx.skp_blank s k hlt hb)
    clear hb
    rcases hc with h1 | ⟨h1, h2⟩ | ⟨h1, h2, h3⟩ | ⟨h1, h2, h3, h4⟩
    all_goals
     go_wp2_with fail
     go_round
     case rel => exact ⟨k + 1, by omega, by go_num, HE.out.trans HR.out⟩
     case measure => simp [intOf]; omega
   ·rcases hc with h5 | h5
    ·cases hp : preB s k ⟨#[47, 47]⟩
     ·have HE := hdn (Tx.skp_stop s k hlt hb (rem_no s k hlt hp))
      clear hb
      go_wp2_with (go_at_call 119; refine (prefixFrom_any _ _ _ _).mono ?_; rintro e w' ⟨rfl, rfl⟩)
      (first | go_ret | (rw [Exit.noGoto_ret]; go_ret))
      exact ⟨lret_int (by rw [← HR.out, HE.out]), rfl⟩
     ·obtain ⟨h6, a, b⟩ := rem_yes s k hp
      have HE := hdn (Tx.skp_rem s k h6 a b)
      have hge : k + 1 ≤ Tx.wend Tx.inl s k := by
       rw [← Tx.wend_in Tx.inl s k hlt (by rw [a]; rfl)]; exact Tx.wend_ge _ _ _
      have hle := Tx.wend_le Tx.inl s k hk
      clear hb a b h6
      go_wp2_with (first | (go_at_call 119; refine (prefixFrom_any _ _ _ _).mono ?_; rintro e w' ⟨rfl, rfl⟩) | (go_at_call 120; refine (lineEnd_any _ _ _ hs (by omega)).mono ?_; rintro e w' ⟨rfl, rfl⟩))
      go_round
      case rel => exact ⟨_, hle, rfl, HE.out.trans HR.out⟩
      case measure => simp [intOf]; omega
    ·have HE := hdn (Tx.skp_stop s k hlt hb (by rintro ⟨a, _⟩; rw [a] at h5; simp at h5))
     clear hb
     go_wp2_with fail
     (first | go_ret | (rw [Exit.noGoto_ret]; go_ret))
     exact ⟨lret_int (by rw [← HR.out, HE.out]), rfl⟩
  ·have HE := hdn (Tx.skp_end s k (by omega))
   go_wp2_with fail
   (first | go_ret | (rw [Exit.noGoto_ret]; go_ret))
   exact ⟨lret_int (by rw [← HR.out, HE.out]), rfl⟩
end Go.Proofs.YtdlchhimkelinaaGreatDoor
namespace Go.Proofs.YtdlchhimkelinaaGreatDoor
open Go.RowKit
end Go.Proofs.YtdlchhimkelinaaGreatDoor
namespace Go.Proofs.YtdlchhimkelinaaGreatDoor
open Go.RowKit
theorem right_any (kd : Int) (s : ByteArray) (a b : Nat) (w : World) (hab : a ≤ b) (hb : b ≤ s.size) :
  Calls Tryz.prog 88 #[.int .i64 kd, .string s, .int .i64 a, .int .i64 b] w fun e w' =>
   e = .returned (.tuple #[.agg #[.int .i64 kd, .int .i64 a, .string (s.extract a b), .int .i64 0], .int .i64 b, .int .i64 0]) ∧ Below w.heap.size w w' := by
 go_enter Tryz.func88, Tryz.ntmps88
 go_wp2
 exact bodyPost_ret (v := .tuple #[.agg #[.int .i64 kd, .int .i64 a, .string (s.extract a b), .int .i64 0], .int .i64 b, .int .i64 0]) (by simp [results, Tryz.results88, go_sem]) rfl ⟨rfl, (Below.refl _ _).alloc (Nat.le_refl _) _⟩
theorem wrong_any (a : Int) (er : Int) (w : World) :
  Calls Tryz.prog 121 #[.int .i64 a, .int .i64 er] w fun e w' =>
   e = .returned (.tuple #[.agg #[.int .i64 0, .int .i64 a, .string ByteArray.empty, .int .i64 0], .int .i64 a, .int .i64 er]) ∧ Below w.heap.size w w' := by
 go_enter Tryz.func121, Tryz.ntmps121
 go_wp2
 exact bodyPost_ret (v := .tuple #[.agg #[.int .i64 0, .int .i64 a, .string ByteArray.empty, .int .i64 0], .int .i64 a, .int .i64 er]) (by simp [results, Tryz.results121, go_sem]; rfl) rfl ⟨rfl, (Below.refl _ _).alloc (Nat.le_refl _) _⟩
theorem bcell {W w1 : World} (hb : Below W.heap.size W w1) : (∀ b o, b < W.heap.size → w1.cell? ⟨b, o, none⟩ = W.cell? ⟨b, o, none⟩) ∧ (∀ b o, b < W.heap.size → w1.frozen? ⟨b, o, none⟩ = W.frozen? ⟨b, o, none⟩) :=
 ⟨fun b o h => hb.cell (p := ⟨b, o, none⟩) h, fun b o h => hb.frozen (p := ⟨b, o, none⟩) h⟩
theorem below4 {w w1 : World} {o : Obj} (hb : Below (w.alloc o).heap.size (w.alloc o) w1) (x0 x1 x2 x3 : Value) :
  Below w.heap.size w ((((w1.setCell ⟨w.heap.size, 0, none⟩ x0).setCell ⟨w.heap.size, 1, none⟩ x1).setCell ⟨w.heap.size, 2, none⟩ x2).setCell ⟨w.heap.size, 3, none⟩ x3) :=
 (((((((Below.refl _ _).alloc (Nat.le_refl _) _).trans (hb.mono (by simp))).setCell (Nat.le_refl _) _).setCell (Nat.le_refl _) _).setCell (Nat.le_refl _) _).setCell (Nat.le_refl _) _)
theorem Gl.alloc {w : World} (h : Gl w) (o : Obj) : Gl (w.alloc o) := h.below ((Below.refl w.heap.size w).alloc (Nat.le_refl _) o) h.two
theorem word_any (s : ByteArray) (i : Nat) (w : World) (hs : s.size ≤ 5000000) (hi : i ≤ s.size) (hg : Gl w) :
  Calls Tryz.prog 90 #[.string s, .int .i64 i] w fun e w' =>
   e = .returned (.tuple #[.agg #[.int .i64 (Tx.wordA s i).sg.kind, .int .i64 (Tx.wordA s i).sg.pos, .string (Tx.wordA s i).sg.text, .int .i64 (Tx.wordA s i).sg.num], .int .i64 (Tx.wordA s i).stop, .int .i64 (Tx.wordA s i).err]) ∧ Below w.heap.size w w' := by
 have hge := Tx.wend_ge Tx.wrd s i
 have hle := Tx.wend_le Tx.wrd s i hi
 by_cases h16 : 16 < Tx.wend Tx.wrd s i - i
 ·rw [show Tx.wordA s i = Tx.An.bad i 3 by unfold Tx.wordA; rw [if_pos h16]]
  unfold Tx.An.bad
  go_enter Tryz.func90, Tryz.ntmps90
  go_wp2_with fail
  refine (wordEnd_any _ _ _ hs hi).mono ?_; rintro e w' ⟨rfl, rfl⟩
  go_wp2_with fail
  refine (wrong_any _ _ _).mono ?_; rintro e w1 ⟨rfl, hb⟩
  obtain ⟨hc, hf⟩ := bcell hb
  have hz : w.heap.size < w1.heap.size := by have := hb.size; simp at this; omega
  have HB := hdn hb
  clear hb
  go_wp2_with fail
  exact bodyPost_ret (v := .tuple #[.agg #[.int .i64 0, .int .i64 (i : Nat), .string ByteArray.empty, .int .i64 0], .int .i64 (i : Nat), .int .i64 3]) (by simp [results, Tryz.results90, go_sem, hc]) rfl ⟨rfl, below4 HB.out _ _ _ _⟩
 ·have h16' : ¬ (Tx.wend Tx.wrd s i : Int) - i > 16 := by omega
  clear h16
  have H16 := hdn h16'
  cases hk : Tx.isKey (s.extract i (Tx.wend Tx.wrd s i))
  ·rw [show Tx.wordA s i = Tx.An.good s 1 i (Tx.wend Tx.wrd s i) 0 by unfold Tx.wordA; rw [if_neg (by omega), hk]; rfl]
   unfold Tx.An.good
   go_enter Tryz.func90, Tryz.ntmps90
   go_wp2_with fail
   refine (wordEnd_any _ _ _ hs hi).mono ?_; rintro e w' ⟨rfl, rfl⟩
   go_wp2_with fail
   refine (isKeyLex_any _ _ (hg.alloc _)).mono ?_; rintro e w' ⟨rfl, rfl⟩
   go_wp2_with fail
   refine (right_any _ _ _ _ _ hge hle).mono ?_; rintro e w1 ⟨rfl, hb⟩
   obtain ⟨hc, hf⟩ := bcell hb
   have hz : w.heap.size < w1.heap.size := by have := hb.size; simp at this; omega
   have HB := hdn hb
   clear hb
   go_wp2_with fail
   exact bodyPost_ret (v := .tuple #[.agg #[.int .i64 1, .int .i64 (i : Nat), .string (s.extract i (Tx.wend Tx.wrd s i)), .int .i64 0], .int .i64 (Tx.wend Tx.wrd s i : Nat), .int .i64 0]) (by simp [results, Tryz.results90, go_sem, hc]) rfl ⟨rfl, below4 HB.out _ _ _ _⟩
  ·rw [show Tx.wordA s i = Tx.An.good s 3 i (Tx.wend Tx.wrd s i) 0 by unfold Tx.wordA; rw [if_neg (by omega), hk]; rfl]
   unfold Tx.An.good
   go_enter Tryz.func90, Tryz.ntmps90
   go_wp2_with fail
   refine (wordEnd_any _ _ _ hs hi).mono ?_; rintro e w' ⟨rfl, rfl⟩
   go_wp2_with fail
   refine (isKeyLex_any _ _ (hg.alloc _)).mono ?_; rintro e w' ⟨rfl, rfl⟩
   go_wp2_with fail
   refine (right_any _ _ _ _ _ hge hle).mono ?_; rintro e w1 ⟨rfl, hb⟩
   obtain ⟨hc, hf⟩ := bcell hb
   have hz : w.heap.size < w1.heap.size := by have := hb.size; simp at this; omega
   have HB := hdn hb
   clear hb
   go_wp2_with fail
   exact bodyPost_ret (v := .tuple #[.agg #[.int .i64 3, .int .i64 (i : Nat), .string (s.extract i (Tx.wend Tx.wrd s i)), .int .i64 0], .int .i64 (Tx.wend Tx.wrd s i : Nat), .int .i64 0]) (by simp [results, Tryz.results90, go_sem, hc]) rfl ⟨rfl, below4 HB.out _ _ _ _⟩
end Go.Proofs.YtdlchhimkelinaaGreatDoor
namespace Go.Proofs.YtdlchhimkelinaaGreatDoor
open Go.RowKit
theorem run_take (p : Int → Bool) : ∀ l : List UInt8, ∀ b ∈ l.take (Tx.run p l), p (b.toNat : Int) = true
 | [], b, h => by simp at h
 | a :: l, b, h => by
  by_cases ha : p (a.toNat : Int) = true
  ·simp only [Tx.run, ha, if_true, List.take_succ_cons, List.mem_cons] at h
   rcases h with rfl | h
   ·exact ha
   ·exact run_take p l b h
  ·simp only [Tx.run, ha, Bool.false_eq_true, if_false, List.take_zero, List.not_mem_nil] at h
theorem wend_part (p : Int → Bool) (s : ByteArray) (i : Nat) : (s.extract i (Tx.wend p s i)).data.toList = (s.data.toList.drop i).take (Tx.run p (s.data.toList.drop i)) := by
 rw [part_list]; unfold Tx.wend; rw [show i + Tx.run p (s.data.toList.drop i) - i = Tx.run p (s.data.toList.drop i) by omega]
theorem digs_part (s : ByteArray) (i : Nat) : digs (s.extract i (Tx.wend Tx.dgt s i)).data.toList := by
 rw [wend_part]; exact run_take Tx.dgt _
theorem part_size (s : ByteArray) (a b : Nat) (hb : b ≤ s.size) : (s.extract a b).size = b - a := by
 rw [ByteArray.size_extract]; omega
theorem numValue_any (s : ByteArray) (i : Nat) (w : World) (hi : i ≤ s.size) (h9 : ¬ 9 < Tx.wend Tx.dgt s i - i) :
  Calls Tryz.prog 123 #[.string (s.extract i (Tx.wend Tx.dgt s i))] w fun e w' => e = .returned (.int .i64 (Tx.val (s.extract i (Tx.wend Tx.dgt s i)).data.toList)) ∧ w = w' :=
 lvalue_any _ _ (digs_part s i) (by rw [part_size _ _ _ (Tx.wend_le _ s i hi)]; omega)
theorem number_any (s : ByteArray) (i : Nat) (w : World) (hs : s.size ≤ 5000000) (hi : i ≤ s.size) :
  Calls Tryz.prog 92 #[.string s, .int .i64 i] w fun e w' =>
   e = .returned (.tuple #[.agg #[.int .i64 (Tx.numA s i).sg.kind, .int .i64 (Tx.numA s i).sg.pos, .string (Tx.numA s i).sg.text, .int .i64 (Tx.numA s i).sg.num], .int .i64 (Tx.numA s i).stop, .int .i64 (Tx.numA s i).err]) ∧ Below w.heap.size w w' := by
 have hge := Tx.wend_ge Tx.dgt s i
 have hle := Tx.wend_le Tx.dgt s i hi
 by_cases h9 : 9 < Tx.wend Tx.dgt s i - i
 ·rw [show Tx.numA s i = Tx.An.bad i 3 by unfold Tx.numA; rw [if_pos h9]]
  unfold Tx.An.bad
  go_enter Tryz.func92, Tryz.ntmps92
  go_wp2_with fail
  refine (digitsEnd_any _ _ _ hs hi).mono ?_; rintro e w' ⟨rfl, rfl⟩
  go_wp2_with fail
  refine (wrong_any _ _ _).mono ?_; rintro e w1 ⟨rfl, hb⟩
  obtain ⟨hc, hf⟩ := bcell hb
  have hz : w.heap.size < w1.heap.size := by have := hb.size; simp at this; omega
  have HB := hdn hb
  clear hb
  go_wp2_with fail
  exact bodyPost_ret (v := .tuple #[.agg #[.int .i64 0, .int .i64 (i : Nat), .string ByteArray.empty, .int .i64 0], .int .i64 (i : Nat), .int .i64 3]) (by simp [results, Tryz.results92, go_sem, hc]) rfl ⟨rfl, below4 HB.out _ _ _ _⟩
 ·have H9 := hdn h9
  have h9' : ¬ (Tx.wend Tx.dgt s i : Int) - i > 9 := by omega
  rw [show Tx.numA s i = Tx.An.good s 2 i (Tx.wend Tx.dgt s i) (Tx.val (s.extract i (Tx.wend Tx.dgt s i)).data.toList) by unfold Tx.numA; rw [if_neg h9]]
  unfold Tx.An.good
  clear h9
  generalize hv : Tx.val (s.extract i (Tx.wend Tx.dgt s i)).data.toList = v
  have hval : ∀ w : World, Calls Tryz.prog 123 #[.string (s.extract i (Tx.wend Tx.dgt s i))] w fun e w' => e = .returned (.int .i64 v) ∧ w = w' := by
   intro w; rw [← hv]; exact numValue_any s i w hi H9.out
  clear hv
  have HV := hdn hval
  clear hval
  go_enter Tryz.func92, Tryz.ntmps92
  go_wp2_with fail
  refine (digitsEnd_any _ _ _ hs hi).mono ?_; rintro e w' ⟨rfl, rfl⟩
  go_wp2_with fail
  refine (right_any _ _ _ _ _ hge hle).mono ?_; rintro e w1 ⟨rfl, hb⟩
  obtain ⟨hc, hf⟩ := bcell hb
  have hz : w.heap.size < w1.heap.size := by have := hb.size; simp at this; omega
  have HB := hdn hb
  clear hb
  go_wp2_with fail
  refine (HV.out _).mono ?_; rintro e w' ⟨rfl, rfl⟩
  go_wp2_with fail
  exact bodyPost_ret (v := .tuple #[.agg #[.int .i64 2, .int .i64 (i : Nat), .string (s.extract i (Tx.wend Tx.dgt s i)), .int .i64 v], .int .i64 (Tx.wend Tx.dgt s i : Nat), .int .i64 0]) (by simp [results, Tryz.results92, go_sem, hc, hz]) rfl ⟨rfl, (below4 HB.out _ _ _ _).alloc (by simp; omega) _⟩
end Go.Proofs.YtdlchhimkelinaaGreatDoor
namespace Go.Proofs.YtdlchhimkelinaaGreatDoor
open Go.RowKit
theorem prAt_list (k : Nat) : (Tx.prAt k).data.toList = Tx.pw.getD k [] := by unfold Tx.prAt; simp
theorem prAt_size (k : Nat) (hk : k < 4) : (Tx.prAt k).size = 2 := by
 match k, hk with
 | 0, _ => rfl
 | 1, _ => rfl
 | 2, _ => rfl
 | 3, _ => rfl
theorem preB_pair (s : ByteArray) (i k : Nat) (a b : UInt8) (h : Tx.pw.getD k [] = [a, b]) : preB s i (Tx.prAt k) = true ↔ ∃ h : i + 1 < s.size, s[i] = a ∧ s[i + 1] = b := by
 unfold preB; rw [prAt_list, h]; exact pre2 s i a b
theorem u8_of (x : UInt8) (n : Nat) (hn : n < 256) (h : (x.toNat : Int) = n) : x = UInt8.ofNat n := by
 apply UInt8.toNat_inj.1; simp; omega
theorem pairs_two (s : ByteArray) (i : Nat) : (∃ k, k < 4 ∧ preB s i (Tx.prAt k) = true) ↔ ∃ h : i + 1 < s.size, Tx.two s[i].toNat s[i + 1].toNat = true := by
 constructor
 ·rintro ⟨k, hk, h⟩
  rcases (show k = 0 ∨ k = 1 ∨ k = 2 ∨ k = 3 by omega) with rfl | rfl | rfl | rfl
  ·obtain ⟨h1, a, b⟩ := (preB_pair s i 0 45 62 rfl).1 h; exact ⟨h1, by rw [a, b]; rfl⟩
  ·obtain ⟨h1, a, b⟩ := (preB_pair s i 1 61 61 rfl).1 h; exact ⟨h1, by rw [a, b]; rfl⟩
  ·obtain ⟨h1, a, b⟩ := (preB_pair s i 2 33 61 rfl).1 h; exact ⟨h1, by rw [a, b]; rfl⟩
  ·obtain ⟨h1, a, b⟩ := (preB_pair s i 3 62 61 rfl).1 h; exact ⟨h1, by rw [a, b]; rfl⟩
 ·rintro ⟨h1, h⟩
  unfold Tx.two at h
  rw [decide_eq_true_iff] at h
  rcases h with ⟨a, b⟩ | ⟨a, b⟩ | ⟨a, b⟩ | ⟨a, b⟩
  ·exact ⟨0, by omega, (preB_pair s i 0 45 62 rfl).2 ⟨h1, u8_of _ 45 (by omega) a, u8_of _ 62 (by omega) b⟩⟩
  ·exact ⟨1, by omega, (preB_pair s i 1 61 61 rfl).2 ⟨h1, u8_of _ 61 (by omega) a, u8_of _ 61 (by omega) b⟩⟩
  ·exact ⟨2, by omega, (preB_pair s i 2 33 61 rfl).2 ⟨h1, u8_of _ 33 (by omega) a, u8_of _ 61 (by omega) b⟩⟩
  ·exact ⟨3, by omega, (preB_pair s i 3 62 61 rfl).2 ⟨h1, u8_of _ 62 (by omega) a, u8_of _ 61 (by omega) b⟩⟩
theorem pair_hit (s : ByteArray) (i k : Nat) (hk : k < 4) (h : preB s i (Tx.prAt k) = true) : Tx.mrk s i = 2 ∧ i + 2 ≤ s.size := by
 obtain ⟨h1, h2⟩ := (pairs_two s i).1 ⟨k, hk, h⟩
 exact ⟨Tx.mrk_two s i h1 h2, by omega⟩
theorem pair_miss (s : ByteArray) (i : Nat) (hi : i < s.size) (h : ∀ k, k < 4 → preB s i (Tx.prAt k) = false) : Tx.mrk s i = if Tx.one s[i].toNat then 1 else 0 := by
 apply Tx.mrk_one s i hi
 intro h1
 rw [Bool.eq_false_iff]
 intro h2
 obtain ⟨k, hk, h3⟩ := (pairs_two s i).2 ⟨h1, h2⟩
 rw [h k hk] at h3
 cases h3
/-- The Marks of one byte. -/
def singles : ByteArray := ⟨#[123, 125, 40, 41, 59, 44, 42, 61, 60, 43, 45, 63]⟩
theorem singles_all : ∀ n : Fin 256, decide (Lib.indexByte singles.data.toList (UInt8.ofNat n.val) < 0) = !Tx.one (n.val : Int) := by decide +kernel
theorem singles_at (x : UInt8) : decide (Lib.indexByte singles.data.toList (x.toNat : Int).toNat.toUInt8 < 0) = !Tx.one (x.toNat : Int) := by
 have h := singles_all ⟨x.toNat, x.toNat_lt⟩
 have e : (x.toNat : Int).toNat.toUInt8 = UInt8.ofNat x.toNat := rfl
 rw [e]; exact h
def singleI (c : Int) : Int := Lib.indexByte singles.data.toList c.toNat.toUInt8
theorem singles_any (c : Int) (w : World) :
  Calls Tryz.prog 124 #[.string singles, .int .u8 c] w fun e w' => e = .returned (.int .i64 (singleI c)) ∧ w = w' := indexByte_any _ _ w
theorem pairs_index : ∀ k : Nat, k < 4 → ∀ w : World, (Instr.index 179 (.agg #[.string (Tx.prAt 0), .string (Tx.prAt 1), .string (Tx.prAt 2), .string (Tx.prAt 3)]) (.int .i64 (k : Int))).run Tryz.prog w = .ok (.string (Tx.prAt k)) w := by
 have x0 : ∀ w : World, (Instr.index 179 (.agg #[.string (Tx.prAt 0), .string (Tx.prAt 1), .string (Tx.prAt 2), .string (Tx.prAt 3)]) (.int .i64 ((0 : Nat) : Int))).run Tryz.prog w = .ok (.string (Tx.prAt 0)) w := fun _ => by kernel_rfl
 have x1 : ∀ w : World, (Instr.index 179 (.agg #[.string (Tx.prAt 0), .string (Tx.prAt 1), .string (Tx.prAt 2), .string (Tx.prAt 3)]) (.int .i64 ((1 : Nat) : Int))).run Tryz.prog w = .ok (.string (Tx.prAt 1)) w := fun _ => by kernel_rfl
 have x2 : ∀ w : World, (Instr.index 179 (.agg #[.string (Tx.prAt 0), .string (Tx.prAt 1), .string (Tx.prAt 2), .string (Tx.prAt 3)]) (.int .i64 ((2 : Nat) : Int))).run Tryz.prog w = .ok (.string (Tx.prAt 2)) w := fun _ => by kernel_rfl
 have x3 : ∀ w : World, (Instr.index 179 (.agg #[.string (Tx.prAt 0), .string (Tx.prAt 1), .string (Tx.prAt 2), .string (Tx.prAt 3)]) (.int .i64 ((3 : Nat) : Int))).run Tryz.prog w = .ok (.string (Tx.prAt 3)) w := fun _ => by kernel_rfl
 intro k hk w
 rcases (show k = 0 ∨ k = 1 ∨ k = 2 ∨ k = 3 by omega) with rfl | rfl | rfl | rfl
 ·exact x0 w
 ·exact x1 w
 ·exact x2 w
 ·exact x3 w
theorem mark_any (s : ByteArray) (i : Nat) (w : World) (hs : s.size ≤ 5000000) (hi : i < s.size) (hg : Gl w) :
  Calls Tryz.prog 93 #[.string s, .int .i64 i] w fun e w' =>
   e = .returned (.tuple #[.agg #[.int .i64 (Tx.markA s i).sg.kind, .int .i64 (Tx.markA s i).sg.pos, .string (Tx.markA s i).sg.text, .int .i64 (Tx.markA s i).sg.num], .int .i64 (Tx.markA s i).stop, .int .i64 (Tx.markA s i).err]) ∧ Below w.heap.size w w' := by
 have c0 := hg.pair 0 (by decide)
 have c1 := hg.pair 1 (by decide)
 have c2 := hg.pair 2 (by decide)
 have c3 := hg.pair 3 (by decide)
 have h1 : 1 < w.heap.size := Nat.lt_of_lt_of_le (by decide) hg.two
 generalize ha : Tx.markA s i = an
 have HA := hdn ha
 clear ha
 go_enter Tryz.func93, Tryz.ntmps93
 go_wp2
 clear c0 c1 c2 c3
 go_loop [10] (fun v => ∃ k : Nat, k ≤ 4 ∧ v = .int .i64 k ∧ Hid (∀ j, j < k → preB s i (Tx.prAt j) = false)) (fun v => 4 - (intOf v).toNat)
 case atStart => exact ⟨0, Nat.zero_le _, rfl, hdn (fun j hj => absurd hj (by omega))⟩
 case round =>
  obtain ⟨k, hk, rfl, HR⟩ := hrel
  by_cases hlt : k < 4
  ·have hx := pairs_index k hlt
   cases hp : preB s i (Tx.prAt k)
   ·have HP := hdn hp
    go_wp2_with (go_at_call 119; refine (prefixFrom_any _ _ _ _).mono ?_; rintro e w' ⟨rfl, rfl⟩)
    go_round
    case rel => exact ⟨k + 1, by omega, by go_num, hdn (fun j hj => by
     rcases Nat.lt_or_ge j k with h | h
     ·exact HR.out j h
     ·obtain rfl : j = k := by omega
      exact HP.out)⟩
    case measure => simp [intOf]; omega
   ·obtain ⟨hm, h2⟩ := pair_hit s i k hlt hp
    have he : an = Tx.An.good s 4 i (i + 2) 0 := by rw [← HA.out]; unfold Tx.markA; rw [hm]; rfl
    replace he := hdn he
    clear hm
    have hz2 := prAt_size k hlt
    go_wp2_with (first | (go_at_call 119; refine (prefixFrom_any _ _ _ _).mono ?_; rintro e w' ⟨rfl, rfl⟩) | (go_at_call 88; refine (right_any 4 s i (i + 2) _ (by omega) h2).mono ?_; rintro e w1 ⟨rfl, hb⟩; obtain ⟨hc, hf⟩ := bcell hb; have hz : w.heap.size < w1.heap.size := (by have := hb.size; simp at this; omega); have HB := hdn hb; clear hb))
    replace he := he.out
    exact bodyPost_ret (v := .tuple #[.agg #[.int .i64 4, .int .i64 (i : Nat), .string (s.extract i (i + 2)), .int .i64 0], .int .i64 (i + 2 : Nat), .int .i64 0]) (by simp [results, Tryz.results93, go_sem, hc]) rfl ⟨by rw [he]; rfl, below4 HB.out _ _ _ _⟩
  ·have hm := pair_miss s i hi (fun j hj => HR.out j (by omega))
   have hq := singles_at s[i]
   cases ho : Tx.one s[i].toNat
   ·rw [ho] at hm hq
    have he : an = Tx.An.bad i 4 := by rw [← HA.out]; unfold Tx.markA; rw [hm]; rfl
    replace he := hdn he
    have hq1 : singleI (s[i].toNat : Int) < 0 := of_decide_eq_true hq
    clear hm hq ho
    go_wp2_with (first | (go_at_call 124; refine (singles_any _ _).mono ?_; rintro e w' ⟨rfl, rfl⟩) | (go_at_call 121; refine (wrong_any _ _ _).mono ?_; rintro e w1 ⟨rfl, hb⟩; obtain ⟨hc, hf⟩ := bcell hb; have hz : w.heap.size < w1.heap.size := (by have := hb.size; simp at this; omega); have HB := hdn hb; clear hb))
    replace he := he.out
    exact bodyPost_ret (v := .tuple #[.agg #[.int .i64 0, .int .i64 (i : Nat), .string ByteArray.empty, .int .i64 0], .int .i64 (i : Nat), .int .i64 4]) (by simp [results, Tryz.results93, go_sem, hc]) rfl ⟨by rw [he]; rfl, below4 HB.out _ _ _ _⟩
   ·rw [ho] at hm hq
    have he : an = Tx.An.good s 4 i (i + 1) 0 := by rw [← HA.out]; unfold Tx.markA; rw [hm]; rfl
    replace he := hdn he
    have hq1 : ¬ singleI (s[i].toNat : Int) < 0 := of_decide_eq_false hq
    clear hm hq ho
    go_wp2_with (first | (go_at_call 124; refine (singles_any _ _).mono ?_; rintro e w' ⟨rfl, rfl⟩) | (go_at_call 88; refine (right_any 4 s i (i + 1) _ (by omega) (by omega)).mono ?_; rintro e w1 ⟨rfl, hb⟩; obtain ⟨hc, hf⟩ := bcell hb; have hz : w.heap.size < w1.heap.size := (by have := hb.size; simp at this; omega); have HB := hdn hb; clear hb))
    replace he := he.out
    exact bodyPost_ret (v := .tuple #[.agg #[.int .i64 4, .int .i64 (i : Nat), .string (s.extract i (i + 1)), .int .i64 0], .int .i64 (i + 1 : Nat), .int .i64 0]) (by simp [results, Tryz.results93, go_sem, hc]) rfl ⟨by rw [he]; rfl, below4 HB.out _ _ _ _⟩
end Go.Proofs.YtdlchhimkelinaaGreatDoor
namespace Go.Proofs.YtdlchhimkelinaaGreatDoor
open Go.RowKit
end Go.Proofs.YtdlchhimkelinaaGreatDoor
namespace Go.Proofs.YtdlchhimkelinaaGreatDoor
open Go.RowKit
theorem Tx.empty_of (s : ByteArray) (h : s.size = 0) : s = ByteArray.empty := ByteArray.size_eq_zero_iff.1 h
/-- A place held from nought to the text's end. -/
def held (s : ByteArray) (i : Int) : Nat := if i < 0 then 0 else if s.size < i then s.size else i.toNat
theorem held_le (s : ByteArray) (i : Int) : held s i ≤ s.size := by unfold held; split; omega; split <;> omega
theorem held_of (s : ByteArray) (k : Nat) (h : k ≤ s.size) : held s k = k := by unfold held; rw [if_neg (by omega), if_neg (by omega)]; rfl
theorem min_max (s : ByteArray) (i : Int) : min (max i 0) (s.size : Int) = (held s i : Nat) := by unfold held; split; omega; split <;> omega
theorem skipHeld_any (s : ByteArray) (i : Int) (w : World) (hs : s.size ≤ 5000000) :
  Calls Tryz.prog 87 #[.string s, .int .i64 (min (max i 0) (s.size : Int))] w fun e w' => e = .returned (.int .i64 (Tx.skp s (held s i))) ∧ w = w' := by
 rw [min_max]; exact skip_any s _ w hs (held_le s i)
theorem cut_none (s : ByteArray) (k : Nat) : s.extract k k = ByteArray.empty := by
 apply Tx.empty_of; rw [ByteArray.size_extract]; omega
theorem tok_end (s : ByteArray) (k : Nat) (h : ¬ k < s.size) : Tx.tok s k = Tx.An.bad k 0 := by unfold Tx.tok; rw [dif_neg h]
theorem tok_word (s : ByteArray) (k : Nat) (h : k < s.size) (hl : Tx.ltr (s[k].toNat : Int) = true) : Tx.tok s k = Tx.wordA s k := by unfold Tx.tok; rw [dif_pos h, hl]; rfl
theorem tok_num (s : ByteArray) (k : Nat) (h : k < s.size) (hl : Tx.ltr (s[k].toNat : Int) = false) (hd : Tx.dgt (s[k].toNat : Int) = true) : Tx.tok s k = Tx.numA s k := by unfold Tx.tok; rw [dif_pos h, hl, hd]; rfl
theorem tok_mark (s : ByteArray) (k : Nat) (h : k < s.size) (hl : Tx.ltr (s[k].toNat : Int) = false) (hd : Tx.dgt (s[k].toNat : Int) = false) : Tx.tok s k = Tx.markA s k := by unfold Tx.tok; rw [dif_pos h, hl, hd]; rfl
theorem next_any (s : ByteArray) (i : Int) (w : World) (hs : s.size ≤ 5000000) (hg : Gl w) :
  Calls Tryz.prog 48 #[.string s, .int .i64 i] w fun e w' =>
   e = .returned (.tuple #[.agg #[.int .i64 (Tx.nx s (held s i)).sg.kind, .int .i64 (Tx.nx s (held s i)).sg.pos, .string (Tx.nx s (held s i)).sg.text, .int .i64 (Tx.nx s (held s i)).sg.num], .int .i64 (Tx.nx s (held s i)).stop, .int .i64 (Tx.nx s (held s i)).err]) ∧ Below w.heap.size w w' := by
 have hn : Tx.nx s (held s i) = Tx.tok s (Tx.skp s (held s i)) := rfl
 rw [hn]
 clear hn
 have hle := Tx.skp_le s (held s i) (held_le s i)
 have hskip := fun w => skipHeld_any s i w hs
 generalize Tx.skp s (held s i) = k at hle hskip ⊢
 have HS := hdn hskip
 clear hskip
 by_cases hlt : k < s.size
 ·have hz : ((k : Int) == (s.size : Int)) = false := by rw [Bool.eq_false_iff]; intro e; rw [beq_iff_eq] at e; omega
  cases hl : Tx.ltr (s[k].toNat : Int)
  ·cases hd : Tx.dgt (s[k].toNat : Int)
   ·rw [tok_mark s k hlt hl hd]
    go_enter Tryz.func48, Tryz.ntmps48
    go_wp2_with (first | (go_at_call 87; refine (HS.out _).mono ?_; rintro e w' ⟨rfl, rfl⟩) | (go_at_call 89; refine (isLetter_any _ _).mono ?_; rintro e w' ⟨rfl, rfl⟩) | (go_at_call 91; refine (isDigit_any _ _).mono ?_; rintro e w' ⟨rfl, rfl⟩) | (go_at_call 93; refine (mark_any s k _ hs hlt (hg.alloc _)).mono ?_; rintro e w1 ⟨rfl, hb⟩; obtain ⟨hc, hf⟩ := bcell hb; have hz : w.heap.size < w1.heap.size := (by have := hb.size; simp at this; omega); have HB := hdn hb; clear hb))
    exact bodyPost_ret (v := .tuple #[.agg #[.int .i64 (Tx.markA s k).sg.kind, .int .i64 (Tx.markA s k).sg.pos, .string (Tx.markA s k).sg.text, .int .i64 (Tx.markA s k).sg.num], .int .i64 (Tx.markA s k).stop, .int .i64 (Tx.markA s k).err]) (by simp [results, Tryz.results48, go_sem, hc]) rfl ⟨rfl, below4 HB.out _ _ _ _⟩
   ·rw [tok_num s k hlt hl hd]
    go_enter Tryz.func48, Tryz.ntmps48
    go_wp2_with (first | (go_at_call 87; refine (HS.out _).mono ?_; rintro e w' ⟨rfl, rfl⟩) | (go_at_call 89; refine (isLetter_any _ _).mono ?_; rintro e w' ⟨rfl, rfl⟩) | (go_at_call 91; refine (isDigit_any _ _).mono ?_; rintro e w' ⟨rfl, rfl⟩) | (go_at_call 92; refine (number_any s k _ hs hle).mono ?_; rintro e w1 ⟨rfl, hb⟩; obtain ⟨hc, hf⟩ := bcell hb; have hz : w.heap.size < w1.heap.size := (by have := hb.size; simp at this; omega); have HB := hdn hb; clear hb))
    exact bodyPost_ret (v := .tuple #[.agg #[.int .i64 (Tx.numA s k).sg.kind, .int .i64 (Tx.numA s k).sg.pos, .string (Tx.numA s k).sg.text, .int .i64 (Tx.numA s k).sg.num], .int .i64 (Tx.numA s k).stop, .int .i64 (Tx.numA s k).err]) (by simp [results, Tryz.results48, go_sem, hc]) rfl ⟨rfl, below4 HB.out _ _ _ _⟩
  ·rw [tok_word s k hlt hl]
   go_enter Tryz.func48, Tryz.ntmps48
   go_wp2_with (first | (go_at_call 87; refine (HS.out _).mono ?_; rintro e w' ⟨rfl, rfl⟩) | (go_at_call 89; refine (isLetter_any _ _).mono ?_; rintro e w' ⟨rfl, rfl⟩) | (go_at_call 90; refine (word_any s k _ hs hle (hg.alloc _)).mono ?_; rintro e w1 ⟨rfl, hb⟩; obtain ⟨hc, hf⟩ := bcell hb; have hz : w.heap.size < w1.heap.size := (by have := hb.size; simp at this; omega); have HB := hdn hb; clear hb))
   exact bodyPost_ret (v := .tuple #[.agg #[.int .i64 (Tx.wordA s k).sg.kind, .int .i64 (Tx.wordA s k).sg.pos, .string (Tx.wordA s k).sg.text, .int .i64 (Tx.wordA s k).sg.num], .int .i64 (Tx.wordA s k).stop, .int .i64 (Tx.wordA s k).err]) (by simp [results, Tryz.results48, go_sem, hc]) rfl ⟨rfl, below4 HB.out _ _ _ _⟩
 ·rw [tok_end s k hlt]
  unfold Tx.An.bad
  obtain rfl : k = s.size := by omega
  have he := hdn (cut_none s s.size)
  clear hlt hle
  go_enter Tryz.func48, Tryz.ntmps48
  go_wp2_with (first | (go_at_call 87; refine (HS.out _).mono ?_; rintro e w' ⟨rfl, rfl⟩) | (go_at_call 88; refine (right_any 0 s s.size s.size _ (Nat.le_refl _) (Nat.le_refl _)).mono ?_; rintro e w1 ⟨rfl, hb⟩; obtain ⟨hc, hf⟩ := bcell hb; have hz : w.heap.size < w1.heap.size := (by have := hb.size; simp at this; omega); have HB := hdn hb; clear hb))
  exact bodyPost_ret (v := .tuple #[.agg #[.int .i64 0, .int .i64 (s.size : Nat), .string (s.extract s.size s.size), .int .i64 0], .int .i64 (s.size : Nat), .int .i64 0]) (by simp [results, Tryz.results48, go_sem, hc]) rfl ⟨by rw [he.out], below4 HB.out _ _ _ _⟩
end Go.Proofs.YtdlchhimkelinaaGreatDoor
namespace Go.Proofs.YtdlchhimkelinaaGreatDoor
open Go.RowKit
def Blk (w : World) (g : Nat) (t : TypeId) (cs : Array Value) : Prop := w.heap[g]? = some (.cells cs t (0, 0))
section
variable {w w' : World} {g : Nat} {t : TypeId} {cs : Array Value}
theorem Blk.lt (h : Blk w g t cs) : g < w.heap.size := by
 rcases Nat.lt_or_ge g w.heap.size with hlt | hge
 ·exact hlt
 ·unfold Blk at h; rw [Array.getElem?_eq_none hge] at h; cases h
theorem Blk.cell (h : Blk w g t cs) (i : Nat) : w.cell? ⟨g, i, none⟩ = cs[i]? := cell_of_row w g i cs t (0, 0) h
theorem Blk.frozen (h : Blk w g t cs) (i : Nat) : w.frozen? ⟨g, i, none⟩ = false := by
 unfold Blk at h
 simp [World.frozen?, h]
theorem Blk.new (w : World) (t : TypeId) (cs : Array Value) : Blk (w.alloc (.cells cs t)) w.heap.size t cs := heap_alloc_new w _
theorem Blk.drewN (h : Blk w g t cs) (n : Nat) : Blk (w.drewN n) g t cs := h
theorem Blk.alloc (h : Blk w g t cs) (o : Obj) : Blk (w.alloc o) g t cs := (Below.heap_alloc w o g h.lt).trans h
theorem Blk.set_ (h : Blk w g t cs) (i : Nat) (u : Value) : Blk (w.setCell ⟨g, i, none⟩ u) g t (cs.setIfInBounds i u) := by
 unfold Blk at h ⊢
 simp [World.setCell, Array.getElem?_modify, h]
theorem Blk.far (h : Blk w g t cs) {p : Addr} (hp : g ≠ p.block) (u : Value) : Blk (w.setCell p u) g t cs := (Below.heap_setCell w p u g hp).trans h
theorem Blk.below {B : Nat} (h : Blk w g t cs) (hb : Below B w w') (hg : g < B) : Blk w' g t cs := (hb.block g hg).trans h
end
end Go.Proofs.YtdlchhimkelinaaGreatDoor
namespace Go.Proofs.YtdlchhimkelinaaGreatDoor
namespace Tx
theorem wend_more (p : Int → Bool) (s : ByteArray) (k : Nat) (h : k < s.size) (hp : p (s[k].toNat : Int) = true) : k + 1 ≤ wend p s k := by
 rw [← wend_in p s k h hp]; exact wend_ge p s (k + 1)
theorem tok_stop_le (s : ByteArray) (k : Nat) (hk : k ≤ s.size) : (tok s k).stop ≤ s.size := by
 unfold tok
 split
 ·rename_i h
  split
  ·unfold wordA; split
   ·exact hk
   ·exact wend_le wrd s k hk
  ·split
   ·unfold numA; split
    ·exact hk
    ·exact wend_le dgt s k hk
   ·unfold markA; split
    ·exact hk
    ·exact mrk_le s k h
 ·exact hk
theorem tok_adv (s : ByteArray) (k : Nat) (he : (tok s k).err = 0) (hn : (tok s k).sg.kind ≠ 0) : k < (tok s k).stop := by
 unfold tok at he hn ⊢
 split at hn
 ·rename_i h
  rw [dif_pos h] at he ⊢
  split at hn
  ·rename_i hl
   rw [if_pos hl] at he ⊢
   unfold wordA at he ⊢
   split at he
   ·exact absurd (show (3 : Int) = 0 from he) (by decide)
   ·rename_i h16
    rw [if_neg h16]
    exact wend_more wrd s k h (by unfold wrd; rw [hl]; rfl)
  ·rename_i hl
   rw [if_neg hl] at he ⊢
   split at hn
   ·rename_i hd
    rw [if_pos hd] at he ⊢
    unfold numA at he ⊢
    split at he
    ·exact absurd (show (3 : Int) = 0 from he) (by decide)
    ·rename_i h9
     rw [if_neg h9]
     exact wend_more dgt s k h hd
   ·rename_i hd
    rw [if_neg hd] at he ⊢
    unfold markA at he ⊢
    split at he
    ·exact absurd (show (4 : Int) = 0 from he) (by decide)
    ·rename_i hm
     rw [if_neg hm]
     show k < k + mrk s k
     omega
 ·exact absurd rfl hn
theorem nx_stop_le (s : ByteArray) (i : Nat) (hi : i ≤ s.size) : (nx s i).stop ≤ s.size := tok_stop_le s _ (skp_le s i hi)
theorem nx_adv (s : ByteArray) (i : Nat) (he : (nx s i).err = 0) (hn : (nx s i).sg.kind ≠ 0) : i < (nx s i).stop :=
 Nat.lt_of_le_of_lt (skp_ge s i) (tok_adv s _ he hn)
/-- All signs from i on, behind those that were read. -/
def go : Nat → ByteArray → Nat → List Sg → List Sg × Nat × Int
 | 0, _, _, acc => (acc, 0, 0)
 | f + 1, s, i, acc => if (nx s i).err = 0 then (if (nx s i).sg.kind = 0 then (acc ++ [(nx s i).sg], 0, 0) else go f s (nx s i).stop (acc ++ [(nx s i).sg])) else ([], (nx s i).stop, (nx s i).err)
def alls (s : ByteArray) : List Sg × Nat × Int := if 65536 < s.size then ([], 0, 3) else go (s.size + 1) s 0 []
/-- A sign's cells. -/
def cells (g : Sg) : List Value := [.int .i64 g.kind, .int .i64 g.pos, .string g.text, .int .i64 g.num]
theorem cells_snoc (l : List Sg) (a : Sg) : (l ++ [a]).flatMap cells = l.flatMap cells ++ cells a := by
 rw [List.flatMap_append]; simp
theorem cells_at (l : List Sg) : ∀ (k : Nat) (hk : k < l.length) (j : Nat), j < 4 → (l.flatMap cells)[k * 4 + j]? = (cells l[k])[j]? := by
 induction l with
 | nil => intro k hk; simp at hk
 | cons a l ih =>
  intro k hk j hj
  rw [List.flatMap_cons]
  have h4 : (cells a).length = 4 := rfl
  match k with
  | 0 => rw [List.getElem?_append_left (by omega)]; simp
  | k + 1 =>
   rw [List.getElem?_append_right (by omega), h4, show (k + 1) * 4 + j - 4 = k * 4 + j by omega, ih k (by simpa using hk) j hj]
   simp
end Tx
end Go.Proofs.YtdlchhimkelinaaGreatDoor
namespace Go.Proofs.YtdlchhimkelinaaGreatDoor
open Go.RowKit
def AllPost (T : TypeId) (s : ByteArray) (w : World) (e : Ending) (w' : World) : Prop :=
 ∃ v, e = .returned (.tuple #[v, .int .i64 (Tx.alls s).2.1, .int .i64 (Tx.alls s).2.2]) ∧ w'.ownsRow w.heap.size T 4 v (Tx.alls s).1.length ((Tx.alls s).1.flatMap Tx.cells) ∧ Below w.heap.size w w'
theorem info32 : (Tryz.prog.info? 106).map (fun i => (i.zero, i.size, i.bytes)) = some (some (.agg #[.int .i64 0, .int .i64 0, .string ByteArray.empty, .int .i64 0]), 4, 40) := by kernel_rfl
theorem own_below {w w' : World} {B : Nat} {e : TypeId} {k : Nat} {v : Value} {n : Nat} {xs : List Value} (h : w.ownsRow B e k v n xs) (hb : Below w.heap.size w w') : w'.ownsRow B e k v n xs :=
 h.kept (w' := w') (row := none) ⟨hb.os, hb.tape, hb.output, hb.size, fun i hi _ => hb.block i hi⟩ (by cases v.ownBlock <;> simp)
theorem sign_new (w : World) (o : Obj) (a : Tx.Sg) (T : TypeId) : ∀ j u, (Tx.cells a)[j]? = some u →
  ((w.alloc o).alloc (.cells #[.int .i64 a.kind, .int .i64 a.pos, .string a.text, .int .i64 a.num] T)).cell? ((⟨w.heap.size + 1, 0, none⟩ : Addr).add j) = some u := by
 intro j u hj
 have h := Blk.new (w.alloc o) T #[.int .i64 a.kind, .int .i64 a.pos, .string a.text, .int .i64 a.num]
 rw [World.size_alloc] at h
 rw [show (⟨w.heap.size + 1, 0, none⟩ : Addr).add j = ⟨w.heap.size + 1, j, none⟩ by simp [Addr.add]; intro h; exact h.symm, h.cell j]
 rw [← hj]; simp [Tx.cells]
theorem sign_one (a : Tx.Sg) : ∀ u ∈ Tx.cells a, u.oneCell' = true := by
 intro u hu
 simp only [Tx.cells, List.mem_cons, List.not_mem_nil, or_false] at hu
 rcases hu with rfl | rfl | rfl | rfl <;> rfl
theorem sign_kept {w w3 : World} {v : Value} {a : Tx.Sg} {T : TypeId} {o : Obj} (h : ((w.alloc (.cells #[.int .i64 a.kind, .int .i64 a.pos, .string a.text, .int .i64 a.num] T)).alloc o).grownBy w3 v.ownBlock) (hn : ∀ k, v.ownBlock = some k → k < w.heap.size) :
  w3.cell? ⟨w.heap.size, 0, none⟩ = some (.int .i64 a.kind) := by
 have hB := (Blk.new w T #[.int .i64 a.kind, .int .i64 a.pos, .string a.text, .int .i64 a.num]).alloc o
 have h3 : Blk w3 w.heap.size T #[.int .i64 a.kind, .int .i64 a.pos, .string a.text, .int .i64 a.num] :=
  (h.block w.heap.size (by simp; omega) (fun e => by have := hn _ e.symm; omega)).trans hB
 exact h3.cell 0
theorem lexAll_any (s : ByteArray) (w : World) (hs : s.size ≤ 5000000) (hg : Gl w) :
  Calls Tryz.prog 56 #[.string s] w (AllPost 106 s w) := by
 by_cases hl : 65536 < s.size
 ·have HE : Hid (Tx.alls s = ([], 0, 3)) := hdn (by unfold Tx.alls; rw [if_pos hl])
  go_enter Tryz.func56, Tryz.ntmps56
  go_wp2_with fail
  refine bodyPost_ret (results_tmp3 rfl _ _ _) rfl ⟨.slice none 0 0, ?_, ?_, Below.refl _ _⟩
  ·rw [HE.out]; rfl
  ·rw [HE.out]; exact World.ownsRow_nil _ _ _ _
 ·obtain ⟨i0, hi0, hz0, hz1, hz2⟩ := info_parts info32
  have HI := hdn hi0; have HZ0 := hdn hz0; have HZ1 := hdn hz1; have HZ2 := hdn hz2
  clear hi0 hz0 hz1 hz2
  have HA : Hid (Tx.alls s = Tx.go (s.size + 1) s 0 []) := hdn (by unfold Tx.alls; rw [if_neg hl])
  go_enter Tryz.func56, Tryz.ntmps56
  go_wp2_with fail
  clear hl
  go_loopw [5, 6] (fun v i wr => ∃ (at_ f : Nat) (acc : List Tx.Sg), i = .int .i64 at_ ∧ at_ ≤ s.size ∧ s.size < at_ + f ∧ Hid (acc.length ≤ at_) ∧ Hid (Tx.go (s.size + 1) s 0 [] = Tx.go f s at_ acc) ∧ Hid (wr.ownsRow w.heap.size 106 4 v acc.length (acc.flatMap Tx.cells)) ∧ Hid (Below w.heap.size w wr)) (fun _ i _ => s.size - (Lib.intOf i).toNat)
  case atStart => exact ⟨0, s.size + 1, [], rfl, Nat.zero_le _, by omega, hdn (Nat.le_refl _), hdn rfl, hdn (World.ownsRow_nil _ _ _ _), hdn (Below.refl _ _)⟩
  case round =>
   obtain ⟨at_, f, acc, rfl, hat, hf, HL, HR, HO, HB⟩ := hrel
   have hnx := next_any s at_ wr hs (hg.below HB.out hg.two)
   have HST := hdn (Tx.nx_stop_le s at_ hat)
   have HAD := hdn (Tx.nx_adv s at_)
   have HGO : Hid (Tx.go f s at_ acc = if (Tx.nx s at_).err = 0 then (if (Tx.nx s at_).sg.kind = 0 then (acc ++ [(Tx.nx s at_).sg], 0, 0) else Tx.go (f - 1) s (Tx.nx s at_).stop (acc ++ [(Tx.nx s at_).sg])) else ([], (Tx.nx s at_).stop, (Tx.nx s at_).err)) := hdn (by
    obtain ⟨f, rfl⟩ : ∃ g, f = g + 1 := ⟨f - 1, by omega⟩
    rfl)
   rw [held_of s at_ hat] at hnx
   generalize Tx.nx s at_ = a at hnx HST HAD HGO
   have HN := hdn hnx
   clear hnx
   go_wp2_with fail
   refine (HN.out).mono ?_; rintro e w1 ⟨rfl, hb⟩
   have HB1 := hdn hb
   clear hb
   have hz : w.heap.size ≤ w1.heap.size := Nat.le_trans HB.out.size HB1.out.size
   by_cases he : a.err = 0
   ·have he' : (a.err != 0) = false := by rw [he]; rfl
    have HE := hdn he
    clear he
    have HO1 := hdn (own_below HO.out HB1.out)
    have HNE : Hid (∀ k, u5.ownBlock = some k → k < w1.heap.size) := hdn (fun k hk => Nat.lt_of_lt_of_le (HO.out.lt k hk).2 HB1.out.size)
    cases hk0 : (a.sg.kind == 0)
    ·have hkne : a.sg.kind ≠ 0 := by intro e; rw [e] at hk0; cases hk0
     have hadv := HAD.out HE.out hkne
     have hstl := HST.out
     clear hkne
     go_wp2_with (at_builtin; refine wpList_append_own _ rfl (.tmp 24) (.tmp 26) 116 rfl w.heap.size 106 i0 (.agg #[.int .i64 0, .int .i64 0, .string ByteArray.empty, .int .i64 0]) 4 40 Tryz.underlying116 HI.out HZ0.out HZ1.out HZ2.out rfl (by decide) _ acc.length (acc.flatMap Tx.cells) rfl ((HO1.out.alloc _).alloc _) ⟨w1.heap.size + 1, 0, none⟩ 1 1 (Tx.cells a.sg) rfl rfl (sign_new _ _ _ _) (sign_one _) (by have := HL.out; unfold maxLen; omega) (by have := HL.out; omega) (by simp; omega) ?_; intro v' w3 hown' hgrow3 hnil3; have HO3 := hdn hown'; have hcc : w3.cell? ⟨w1.heap.size, 0, none⟩ = some (.int .i64 a.sg.kind) := sign_kept hgrow3 HNE.out; have HB3 : Hid (Below w.heap.size w w3) := hdn ((((HB.out.trans (HB1.out.mono HB.out.size)).alloc hz _).alloc (by simp; omega) _).grown hgrow3 (by simp; omega) (fun q hq => (HO.out.lt q hq).1)); clear hown' hgrow3 hnil3)
     have HCC := hdn hcc
     go_roundw
     case rel =>
      refine ⟨a.stop, f - 1, acc ++ [a.sg], rfl, hstl, by omega, hdn (by have := HL.out; simp; omega), hdn ?_, hdn ?_, hdn ?_⟩
      ·rw [HR.out, HGO.out, if_pos HE.out, if_neg (by intro e; rw [e] at hk0; cases hk0)]
      ·rw [Tx.cells_snoc, List.length_append]; exact HO3.out
      ·exact HB3.out
     case measure => simp [Lib.intOf]; omega
    ·go_wp2_with (at_builtin; refine wpList_append_own _ rfl (.tmp 24) (.tmp 26) 116 rfl w.heap.size 106 i0 (.agg #[.int .i64 0, .int .i64 0, .string ByteArray.empty, .int .i64 0]) 4 40 Tryz.underlying116 HI.out HZ0.out HZ1.out HZ2.out rfl (by decide) _ acc.length (acc.flatMap Tx.cells) rfl ((HO1.out.alloc _).alloc _) ⟨w1.heap.size + 1, 0, none⟩ 1 1 (Tx.cells a.sg) rfl rfl (sign_new _ _ _ _) (sign_one _) (by have := HL.out; unfold maxLen; omega) (by have := HL.out; omega) (by simp; omega) ?_; intro v' w3 hown' hgrow3 hnil3; have HO3 := hdn hown'; have hcc : w3.cell? ⟨w1.heap.size, 0, none⟩ = some (.int .i64 a.sg.kind) := sign_kept hgrow3 HNE.out; have HB3 : Hid (Below w.heap.size w w3) := hdn ((((HB.out.trans (HB1.out.mono HB.out.size)).alloc hz _).alloc (by simp; omega) _).grown hgrow3 (by simp; omega) (fun q hq => (HO.out.lt q hq).1)); clear hown' hgrow3 hnil3)
     refine bodyPost_ret (results_tmp3 rfl _ _ _) rfl ⟨v', ?_, ?_, HB3.out⟩
     ·rw [HA.out, HR.out, HGO.out, if_pos HE.out, if_pos (by rw [beq_iff_eq] at hk0; exact hk0)]; rfl
     ·rw [HA.out, HR.out, HGO.out, if_pos HE.out, if_pos (by rw [beq_iff_eq] at hk0; exact hk0)]
      show World.ownsRow _ _ _ _ _ (acc ++ [a.sg]).length ((acc ++ [a.sg]).flatMap Tx.cells)
      rw [Tx.cells_snoc, List.length_append]; exact HO3.out
   ·have he' : (a.err != 0) = true := by rw [bne_iff_ne]; exact he
    have HE := hdn he
    clear he
    go_wp2_with fail
    refine bodyPost_ret (results_tmp3 rfl _ _ _) rfl ⟨.slice none 0 0, ?_, ?_, ?_⟩
    ·rw [HA.out, HR.out, HGO.out, if_neg HE.out]; rfl
    ·rw [HA.out, HR.out, HGO.out, if_neg HE.out]; exact World.ownsRow_nil _ _ _ _
    ·exact (HB.out.trans (HB1.out.mono HB.out.size)).alloc (Nat.le_trans HB.out.size HB1.out.size) _
end Go.Proofs.YtdlchhimkelinaaGreatDoor
