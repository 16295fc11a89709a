/-
  DERIVED. Plain: a text's bytes, runs of them, blanks and remarks, and the sign at a place.
-/
import Derived.Lib.Bytealg
namespace Go.Proofs.YtlpnkllhpienhaaDoor
namespace Tx

def ltr (c : Int) : Bool := decide ((97 ≤ c ∧ c ≤ 122) ∨ (65 ≤ c ∧ c ≤ 90) ∨ c = 95)
def dgt (c : Int) : Bool := decide (48 ≤ c ∧ c ≤ 57)
def wrd (c : Int) : Bool := ltr c || dgt c
def blk (c : Int) : Bool := decide (c = 32 ∨ c = 9 ∨ c = 10 ∨ c = 13)
def inl (c : Int) : Bool := decide (c ≠ 10)

/-- How many bytes at a list's head are such. -/
def run (p : Int → Bool) : List UInt8 → Nat
  | [] => 0
  | b :: l => if p (b.toNat : Int) then run p l + 1 else 0

theorem run_le (p : Int → Bool) (l : List UInt8) : run p l ≤ l.length := by
  induction l with
  | nil => exact Nat.le_refl _
  | cons b l ih => unfold run; split <;> simp <;> omega

/-- How many bytes of blanks and remarks stand at a list's head ('true': inside a remark). -/
def sk : Bool → List UInt8 → Nat
  | _, [] => 0
  | false, b :: l => if blk (b.toNat : Int) then sk false l + 1 else if b.toNat = 47 ∧ l.head? = some 47 then sk true l + 1 else 0
  | true, b :: l => if inl (b.toNat : Int) then sk true l + 1 else sk false l + 1

theorem sk_le : ∀ (q : Bool) (l : List UInt8), sk q l ≤ l.length
  | _, [] => by simp [sk]
  | false, b :: l => by
    have h1 := sk_le false l; have h2 := sk_le true l
    unfold sk; split
    · simp; omega
    · split <;> simp <;> omega
  | true, b :: l => by
    have h1 := sk_le false l; have h2 := sk_le true l
    unfold sk; split <;> simp <;> omega

theorem sk_true : ∀ (l : List UInt8), sk true l = run inl l + sk false (l.drop (run inl l))
  | [] => rfl
  | b :: l => by
    have ih := sk_true l
    by_cases h : inl (b.toNat : Int) = true
    · simp only [sk, run, h, if_true, List.drop_succ_cons]; omega
    · have hb : blk (b.toNat : Int) = true := by
        unfold inl at h; unfold blk; simp at h ⊢; omega
      simp only [sk, run, h, hb, if_true, Bool.false_eq_true, if_false, List.drop_zero]; omega

/-- Behind the run. -/
def wend (p : Int → Bool) (s : ByteArray) (i : Nat) : Nat := i + run p (s.data.toList.drop i)
/-- Behind blanks and remarks. -/
def skp (s : ByteArray) (i : Nat) : Nat := i + sk false (s.data.toList.drop i)

theorem len_eq (s : ByteArray) : s.data.toList.length = s.size := by rw [Array.length_toList]; rfl
theorem drop_at (s : ByteArray) (i : Nat) (h : i < s.size) : s.data.toList.drop i = s[i] :: s.data.toList.drop (i + 1) :=
  List.drop_eq_getElem_cons (by rw [len_eq]; exact h)
theorem drop_end (s : ByteArray) (i : Nat) (h : s.size ≤ i) : s.data.toList.drop i = [] :=
  List.drop_eq_nil_of_le (by rw [len_eq]; exact h)

theorem wend_in (p : Int → Bool) (s : ByteArray) (i : Nat) (h : i < s.size) (hp : p (s[i].toNat : Int) = true) : wend p s (i + 1) = wend p s i := by
  unfold wend; rw [drop_at s i h]; simp only [run, hp, if_true]; omega
theorem wend_out (p : Int → Bool) (s : ByteArray) (i : Nat) (h : i < s.size) (hp : p (s[i].toNat : Int) = false) : wend p s i = i := by
  unfold wend; rw [drop_at s i h]; simp only [run, hp, Bool.false_eq_true, if_false]; omega
theorem wend_end (p : Int → Bool) (s : ByteArray) (i : Nat) (h : s.size ≤ i) : wend p s i = i := by
  unfold wend; rw [drop_end s i h]; simp [run]
theorem wend_ge (p : Int → Bool) (s : ByteArray) (i : Nat) : i ≤ wend p s i := by unfold wend; omega
theorem wend_le (p : Int → Bool) (s : ByteArray) (i : Nat) (h : i ≤ s.size) : wend p s i ≤ s.size := by
  unfold wend
  have := run_le p (s.data.toList.drop i)
  rw [List.length_drop, len_eq] at this
  omega

theorem skp_ge (s : ByteArray) (i : Nat) : i ≤ skp s i := by unfold skp; omega
theorem skp_le (s : ByteArray) (i : Nat) (h : i ≤ s.size) : skp s i ≤ s.size := by
  unfold skp
  have := sk_le false (s.data.toList.drop i)
  rw [List.length_drop, len_eq] at this
  omega
theorem skp_end (s : ByteArray) (i : Nat) (h : s.size ≤ i) : skp s i = i := by
  unfold skp; rw [drop_end s i h]; simp [sk]
theorem skp_blank (s : ByteArray) (i : Nat) (h : i < s.size) (hb : blk (s[i].toNat : Int) = true) : skp s (i + 1) = skp s i := by
  unfold skp; rw [drop_at s i h]; simp only [sk, hb, if_true]; omega
theorem head_next (s : ByteArray) (i : Nat) : (s.data.toList.drop i).head? = some 47 ↔ ∃ h : i < s.size, s[i].toNat = 47 := by
  by_cases h : i < s.size
  · rw [drop_at s i h]
    simp only [List.head?_cons, Option.some.injEq, h, exists_true_left]
    constructor
    · intro e; rw [e]; rfl
    · intro e; exact UInt8.toNat_inj.1 (by rw [e]; rfl)
  · rw [drop_end s i (by omega)]
    simp [h]
/-- A remark runs up to the next line's end. -/
theorem skp_rem (s : ByteArray) (i : Nat) (h : i + 1 < s.size) (h0 : s[i].toNat = 47) (h1 : s[i + 1].toNat = 47) : skp s (wend inl s i) = skp s i := by
  have hi : i < s.size := by omega
  have hn : (s.data.toList.drop (i + 1)).head? = some 47 := (head_next s (i + 1)).2 ⟨h, h1⟩
  have hnb : blk (s[i].toNat : Int) = false := by rw [h0]; rfl
  have hil : inl (s[i].toNat : Int) = true := by rw [h0]; rfl
  have e1 : sk false (s.data.toList.drop i) = sk true (s.data.toList.drop i) := by
    rw [drop_at s i hi]
    simp only [sk, hnb, hil, Bool.false_eq_true, if_false, if_true]
    rw [if_pos ⟨h0, hn⟩]
  unfold skp
  rw [e1, sk_true]
  unfold wend
  rw [List.drop_drop]
  omega
theorem skp_stop (s : ByteArray) (i : Nat) (h : i < s.size) (hb : blk (s[i].toNat : Int) = false) (hr : ¬ (s[i].toNat = 47 ∧ ∃ h : i + 1 < s.size, s[i + 1].toNat = 47)) : skp s i = i := by
  unfold skp
  rw [drop_at s i h]
  have hn : ¬ (s[i].toNat = 47 ∧ (s.data.toList.drop (i + 1)).head? = some 47) := by
    rw [head_next]; exact hr
  simp only [sk, hb, Bool.false_eq_true, if_false]
  rw [if_neg hn]
  omega

/-- The words that are Keys. -/
def kw : List (List UInt8) := [[115, 116, 114, 117, 99, 116], [105, 110, 116], [118, 111, 105, 100], [110, 117, 108, 108], [110, 101, 119], [102, 114, 101, 101], [105, 102], [101, 108, 115, 101], [119, 104, 105, 108, 101], [105, 110, 112, 117, 116]]
def keyAt (k : Nat) : ByteArray := ⟨(kw.getD k []).toArray⟩
def isKey (s : ByteArray) : Bool := kw.any fun l => s.data.toList == l
theorem keyAt_list (k : Nat) : (keyAt k).data.toList = kw.getD k [] := by unfold keyAt; simp
theorem isKey_hit (s : ByteArray) (k : Nat) (hk : k < 10) (h : (s.data.toList == (keyAt k).data.toList) = true) : isKey s = true := by
  unfold isKey
  rw [List.any_eq_true]
  refine ⟨kw.getD k [], ?_, ?_⟩
  · rw [List.getD_eq_getElem?_getD, List.getElem?_eq_getElem (by simp [kw]; omega)]
    exact List.getElem_mem _
  · rw [keyAt_list] at h; exact h
theorem isKey_miss (s : ByteArray) (h : ∀ k, k < 10 → (s.data.toList == (keyAt k).data.toList) = false) : isKey s = false := by
  unfold isKey
  rw [List.any_eq_false]
  intro l hl
  obtain ⟨k, hk, rfl⟩ := List.getElem_of_mem hl
  have := h k hk
  rw [keyAt_list, List.getD_eq_getElem?_getD, List.getElem?_eq_getElem hk] at this
  simp only [Option.getD_some] at this
  rw [this]; simp

/-- What digits say. -/
def val (l : List UInt8) : Int := l.foldl (fun n b => 10 * n + (b.toNat - 48)) 0

/-- A Mark's bytes; nought: none. -/
def two (a b : Int) : Bool := decide ((a = 45 ∧ b = 62) ∨ (a = 61 ∧ b = 61) ∨ (a = 33 ∧ b = 61) ∨ (a = 62 ∧ b = 61))
def one (a : Int) : Bool := decide (a = 123 ∨ a = 125 ∨ a = 40 ∨ a = 41 ∨ a = 59 ∨ a = 44 ∨ a = 42 ∨ a = 61 ∨ a = 60 ∨ a = 43 ∨ a = 45 ∨ a = 63)
def mkl : List UInt8 → Nat
  | [] => 0
  | [a] => if one a.toNat then 1 else 0
  | a :: b :: _ => if two a.toNat b.toNat then 2 else if one a.toNat then 1 else 0
def mrk (s : ByteArray) (i : Nat) : Nat := mkl (s.data.toList.drop i)
theorem mrk_two (s : ByteArray) (i : Nat) (h : i + 1 < s.size) (ht : two (s[i].toNat) (s[i + 1].toNat) = true) : mrk s i = 2 := by
  unfold mrk; rw [drop_at s i (by omega), drop_at s (i + 1) h]; simp [mkl, ht]
theorem mrk_one (s : ByteArray) (i : Nat) (h : i < s.size) (hn : ∀ h : i + 1 < s.size, two (s[i].toNat) (s[i + 1].toNat) = false) : mrk s i = if one s[i].toNat then 1 else 0 := by
  unfold mrk
  rw [drop_at s i h]
  by_cases h1 : i + 1 < s.size
  · rw [drop_at s (i + 1) h1]; simp [mkl, hn h1]
  · rw [drop_end s (i + 1) (by omega)]; rfl
theorem mrk_le (s : ByteArray) (i : Nat) (h : i < s.size) : i + mrk s i ≤ s.size := by
  by_cases h1 : i + 1 < s.size
  · unfold mrk; rw [drop_at s i h, drop_at s (i + 1) h1]; simp only [mkl]; split
    · omega
    · split <;> omega
  · rw [mrk_one s i h (fun h' => absurd h' h1)]; split <;> omega

/-- A sign as it is answered. -/
structure Sg where
  kind : Int
  pos : Nat
  text : ByteArray
  num : Int
/-- An answer: the sign, the place, the error. -/
structure An where
  sg : Sg
  stop : Nat
  err : Int
def An.bad (k : Nat) (e : Int) : An := ⟨⟨0, k, ByteArray.empty, 0⟩, k, e⟩
def An.good (s : ByteArray) (kind : Int) (k e : Nat) (n : Int) : An := ⟨⟨kind, k, s.extract k e, n⟩, e, 0⟩
def wordA (s : ByteArray) (k : Nat) : An :=
  if 16 < wend wrd s k - k then .bad k 3 else .good s (if isKey (s.extract k (wend wrd s k)) then 3 else 1) k (wend wrd s k) 0
def numA (s : ByteArray) (k : Nat) : An :=
  if 9 < wend dgt s k - k then .bad k 3 else .good s 2 k (wend dgt s k) (val (s.extract k (wend dgt s k)).data.toList)
def markA (s : ByteArray) (k : Nat) : An :=
  if mrk s k = 0 then .bad k 4 else .good s 4 k (k + mrk s k) 0
/-- The sign that begins at k. -/
def tok (s : ByteArray) (k : Nat) : An :=
  if h : k < s.size then
    if ltr (s[k].toNat : Int) then wordA s k else if dgt (s[k].toNat : Int) then numA s k else markA s k
  else .bad k 0
/-- The sign that comes next. -/
def nx (s : ByteArray) (i : Nat) : An := tok s (skp s i)

end Tx
end Go.Proofs.YtlpnkllhpienhaaDoor
