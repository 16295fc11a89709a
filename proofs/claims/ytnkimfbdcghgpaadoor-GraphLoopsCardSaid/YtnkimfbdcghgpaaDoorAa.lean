/-
  DERIVED. Actions, plainly (no program in this text): what may be, the text of an action, and what is read from a text.
-/
import Derived.Lib.AtoiTie
import Derived.Lib.ItoaNum
import Derived.Lib.ItoaLen
import Derived.Lib.IndexMore
namespace Go.Proofs.YtnkimfbdcghgpaaDoor
namespace Ac
open Go

structure Opd where
  v : Int
  n : Int
  deriving DecidableEq
structure Acn where
  kind : Int
  x : Int
  y : Int
  f : Int
  t : Int
  pl : Int
  op : Int
  l : Opd
  r : Opd
  sense : Bool
  deriving DecidableEq

def Opd.zero : Opd := ⟨0, 0⟩
def Acn.zero : Acn := ⟨0, 0, 0, 0, 0, 0, 0, ⟨0, 0⟩, ⟨0, 0⟩, false⟩

def within (n lo hi : Int) : Bool := decide (lo ≤ n) && decide (n ≤ hi)
def opTk (o : Opd) : Bool × Opd := if o.v = -1 then (within o.n 0 999999999, ⟨0, 0⟩) else (within o.v 0 23 && decide (o.n = 0), ⟨0, o.n⟩)

/-- What each kind has, in the order of its text. -/
def formOf : Nat → List Nat
  | 0 => [8, 0, 0, 0, 0]
  | 1 => [1, 8, 0, 0, 0]
  | 2 => [1, 2, 8, 0, 0]
  | 3 => [1, 2, 6, 8, 0]
  | 4 => [1, 6, 8, 0, 0]
  | 5 => [1, 6, 2, 8, 0]
  | 6 => [1, 7, 8, 0, 0]
  | 7 => [1, 8, 0, 0, 0]
  | 8 => [3, 4, 13, 8, 0]
  | 9 => [13, 8, 0, 0, 0]
  | 10 => [5, 8, 0, 0, 0]
  | 11 => [5, 9, 11, 8, 0]
  | 12 => [9, 12, 10, 13, 8]
  | _ => []

def numOf (p : Nat) (a : Acn) : Int :=
  match p with
  | 1 => a.x
  | 3 => a.x
  | 5 => a.x
  | 2 => a.y
  | 4 => a.y
  | 6 => a.f
  | 7 => a.t
  | _ => a.pl
def setNum (p : Nat) (a : Acn) (n : Int) : Acn :=
  match p with
  | 1 => { a with x := n }
  | 3 => { a with x := n }
  | 5 => { a with x := n }
  | 2 => { a with y := n }
  | 4 => { a with y := n }
  | 6 => { a with f := n }
  | 7 => { a with t := n }
  | _ => { a with pl := n }
def loOf (p : Nat) : Int :=
  match p with
  | 3 => -1
  | 4 => -1
  | _ => 0
def hiOf (p : Nat) : Int :=
  match p with
  | 0 => 0
  | 1 => 23
  | 2 => 23
  | 3 => 23
  | 4 => 23
  | 5 => 23
  | 6 => 7
  | 7 => 7
  | _ => 65536
/-- The letter ahead of a number. -/
def sgOf (p : Nat) : UInt8 :=
  match p with
  | 5 => 105
  | 6 => 102
  | 7 => 115
  | 8 => 64
  | _ => 112

/-- A part is taken out: was it as it may be, and what is left. -/
def tk (p : Nat) (a : Acn) : Bool × Acn :=
  match p with
  | 0 => (true, a)
  | 9 => ((opTk a.l).1, { a with l := (opTk a.l).2 })
  | 10 => ((opTk a.r).1, { a with r := (opTk a.r).2 })
  | 11 => if within a.op 0 2 then (if a.op = 0 then (true, { a with op := 0 }) else ((opTk a.r).1, { a with op := 0, r := (opTk a.r).2 })) else (false, { a with op := 0 })
  | 12 => (within a.op 0 1, { a with op := 0 })
  | 13 => (true, { a with sense := false })
  | p => (within (numOf p a) (loOf p) (hiOf p), setNum p a 0)

def goR : List Nat → Acn → Bool
  | [], r => decide (r = Acn.zero)
  | p :: ps, r => (tk p r).1 && goR ps (tk p r).2
def rights (a : Acn) : Bool := decide (0 ≤ a.kind) && decide (a.kind < 13) && goR (formOf a.kind.toNat) { a with kind := 0 }

def wordOf : Nat → List UInt8
  | 0 => [115, 107, 105, 112]
  | 1 => [110, 117, 108, 108]
  | 2 => [99, 111, 112, 121]
  | 3 => [108, 111, 97, 100]
  | 4 => [99, 117, 116]
  | 5 => [108, 105, 110, 107]
  | 6 => [110, 101, 119]
  | 7 => [102, 114, 101, 101]
  | 8 => [115, 97, 109, 101]
  | 9 => [112, 105, 99, 107]
  | 10 => [116, 97, 107, 101]
  | 11 => [112, 117, 116]
  | 12 => [116, 101, 115, 116]
  | _ => []
def nullW : List UInt8 := [110, 117, 108, 108]
def yesW : List UInt8 := [121, 101, 115]
def noW : List UInt8 := [110, 111]
def sumOf : Int → List UInt8
  | 0 => []
  | 1 => [43]
  | _ => [45]
def ordOf : Int → List UInt8
  | 0 => [61, 61]
  | _ => [60]
def opT (o : Opd) : List UInt8 := if o.v < 0 then Lib.itoa o.n else 105 :: Lib.itoa o.v
def numT (p : Nat) (n : Int) : List UInt8 := if n < 0 then nullW else sgOf p :: Lib.itoa n
/-- The words of a part, a blank ahead of each. -/
def txt (p : Nat) (a : Acn) : List UInt8 :=
  match p with
  | 0 => []
  | 9 => 32 :: opT a.l
  | 10 => 32 :: opT a.r
  | 11 => if a.op = 0 then [] else 32 :: (sumOf a.op ++ 32 :: opT a.r)
  | 12 => 32 :: ordOf a.op
  | 13 => 32 :: (if a.sense then yesW else noW)
  | p => 32 :: numT p (numOf p a)
def txts : List Nat → Acn → List UInt8
  | [], _ => []
  | p :: ps, a => txt p a ++ txts ps a
def text (a : Acn) : List UInt8 := if rights a then wordOf a.kind.toNat ++ txts (formOf a.kind.toNat) a else []

/-- What stands ahead of the first blank, and behind it. -/
def cutAt : List UInt8 → List UInt8 × List UInt8
  | [] => ([], [])
  | c :: r => if c = 32 then ([], r) else (c :: (cutAt r).1, (cutAt r).2)
def atoiN (l : List UInt8) : Int :=
  match Lib.atoiAll l with
  | .ok v => v
  | .range => Lib.atoiSat l
  | _ => 0
def numberOf (w : List UInt8) : Int := if w = [] ∨ w = nullW then -1 else atoiN (w.drop 1)
def operandOf (w : List UInt8) : Opd := if w.head? = some 105 then ⟨numberOf w, 0⟩ else ⟨-1, atoiN w⟩
/-- A part is read: what is left of the text, and the action so far. -/
def rd (p : Nat) (s : List UInt8 × Acn) : List UInt8 × Acn :=
  match p with
  | 0 => s
  | 9 => ((cutAt s.1).2, { s.2 with l := operandOf (cutAt s.1).1 })
  | 10 => ((cutAt s.1).2, { s.2 with r := operandOf (cutAt s.1).1 })
  | 11 =>
    if s.1.head? = some 43 then ((cutAt (cutAt s.1).2).2, { s.2 with op := 1, r := operandOf (cutAt (cutAt s.1).2).1 })
    else if s.1.head? = some 45 then ((cutAt (cutAt s.1).2).2, { s.2 with op := 2, r := operandOf (cutAt (cutAt s.1).2).1 })
    else (s.1, { s.2 with op := 0 })
  | 12 => ((cutAt s.1).2, if (cutAt s.1).1 = [60] then { s.2 with op := 1 } else s.2)
  | 13 => ((cutAt s.1).2, { s.2 with sense := decide ((cutAt s.1).1 = yesW) })
  | p => ((cutAt s.1).2, setNum p s.2 (numberOf (cutAt s.1).1))
def rds : List Nat → List UInt8 × Acn → List UInt8 × Acn
  | [], s => s
  | p :: ps, s => rds ps (rd p s)
def kindGo (w : List UInt8) : Nat → Nat → Option Nat
  | 0, _ => none
  | n + 1, k => if wordOf k = w then some k else kindGo w n (k + 1)
def kindOf (w : List UInt8) : Option Nat := kindGo w 13 0
def guess (k : Nat) (s : List UInt8) : Acn := (rds (formOf k) ((cutAt s).2, { Acn.zero with kind := k })).2
def parse (s : List UInt8) : Option Acn :=
  match kindOf (cutAt s).1 with
  | none => none
  | some k => if text (guess k s) = s then some (guess k s) else none
def branch (a : Acn) : Bool := decide (a.kind = 8 ∨ a.kind = 9 ∨ a.kind = 12)
def needs (a : Acn) : Bool := decide (a.kind = 6 ∨ a.kind = 9 ∨ a.kind = 10)
def not (a : Acn) : Acn := if branch a then { a with sense := !a.sense } else a

/-! ### What follows -/
theorem not_not (a : Acn) : not (not a) = a := by
  unfold not
  by_cases h : branch a = true
  · have : branch { a with sense := !a.sense } = true := h
    rw [if_pos h, if_pos this]; simp
  · rw [if_neg h, if_neg h]

def nb (w : List UInt8) : Prop := ∀ c ∈ w, c ≠ 32
theorem nb_nil : nb [] := fun _ h => by cases h
theorem nb_cons {c : UInt8} {w : List UInt8} (h : c ≠ 32) (hw : nb w) : nb (c :: w) := by
  intro d hd
  rcases List.mem_cons.1 hd with rfl | hd
  · exact h
  · exact hw d hd
theorem cutAt_at {w : List UInt8} (r : List UInt8) (h : nb w) : cutAt (w ++ 32 :: r) = (w, r) := by
  induction w with
  | nil => simp [cutAt]
  | cons c w ih =>
    have h1 := ih (fun d hd => h d (List.mem_cons_of_mem _ hd))
    have h2 : c ≠ 32 := h c (List.mem_cons_self ..)
    simp [cutAt, h1, h2]
theorem cutAt_end {w : List UInt8} (h : nb w) : cutAt w = (w, []) := by
  induction w with
  | nil => simp [cutAt]
  | cons c w ih =>
    have h1 := ih (fun d hd => h d (List.mem_cons_of_mem _ hd))
    have h2 : c ≠ 32 := h c (List.mem_cons_self ..)
    simp [cutAt, h1, h2]

theorem digit_nat {k : Nat} (h : k < 10) : (UInt8.ofNat (48 + k)).toNat = 48 + k := by
  rw [UInt8.toNat_ofNat']; omega
theorem dec_digits : ∀ (u : Nat), ∀ c ∈ Lib.decDigits u, 48 ≤ c.toNat ∧ c.toNat ≤ 57 := by
  intro u
  induction u using Nat.strongRecOn with
  | _ u ih =>
    intro c hc
    rw [Lib.decDigits] at hc
    split at hc
    · rename_i h
      rw [List.mem_singleton] at hc
      subst hc
      rw [digit_nat h]; omega
    · rename_i h
      rcases List.mem_append.1 hc with hc | hc
      · exact ih (u / 10) (by omega) c hc
      · rw [List.mem_singleton] at hc
        subst hc
        rw [digit_nat (by omega)]; omega
theorem dec_ne (u : Nat) : Lib.decDigits u ≠ [] := by
  rw [Lib.decDigits]; split <;> simp
theorem decFrom_append : ∀ (l r : List UInt8) (acc : Nat), Lib.decFrom acc (l ++ r) = (Lib.decFrom acc l).bind fun n => Lib.decFrom n r
  | [], _, _ => rfl
  | c :: l, r, acc => by
    simp only [List.cons_append, Lib.decFrom]
    cases Lib.digitVal c with
    | none => rfl
    | some d => exact decFrom_append l r _
theorem decFrom_dec : ∀ (u : Nat), Lib.decFrom 0 (Lib.decDigits u) = some u := by
  intro u
  induction u using Nat.strongRecOn with
  | _ u ih =>
    have hv : ∀ k, k < 10 → Lib.digitVal (UInt8.ofNat (48 + k)) = some k := by
      intro k hk
      unfold Lib.digitVal
      rw [digit_nat hk, if_pos (by omega)]
      congr 1; omega
    rw [Lib.decDigits]
    split
    · rename_i h
      simp only [Lib.decFrom, hv u h]
      congr 1; omega
    · rename_i h
      rw [decFrom_append, ih (u / 10) (by omega)]
      simp only [Option.bind_some, Lib.decFrom, hv (u % 10) (by omega)]
      congr 1; omega
theorem dec_len (u : Nat) (h : u ≤ 999999999) : (Lib.decDigits u).length ≤ 18 := by
  rw [Lib.decDigits_length]
  by_cases h0 : u < 10
  · rw [Lib.nDigits_small h0]; omega
  by_cases h1 : u < 10 ^ 9
  · have : ∀ k, ∀ u, u < 10 ^ (k + 1) → Lib.nDigits u ≤ k + 1 := by
      intro k
      induction k with
      | zero => intro u hu; rw [Lib.nDigits_small (by simpa using hu)]; omega
      | succ k ih =>
        intro u hu
        by_cases hb : u < 10
        · rw [Lib.nDigits_small hb]; omega
        · rw [Lib.nDigits_big hb]
          have := ih (u / 10) (by rw [Nat.pow_succ] at hu; omega)
          omega
    have := this 8 u h1
    omega
  · omega
theorem itoa_of {n : Int} (h : 0 ≤ n) : Lib.itoa n = Lib.decDigits n.toNat := by unfold Lib.itoa; rw [if_neg (by omega)]
theorem atoiN_itoa {n : Int} (h : 0 ≤ n) (hn : n ≤ 999999999) : atoiN (Lib.itoa n) = n := by
  rw [itoa_of h]
  have hl := dec_len n.toNat (by omega)
  unfold atoiN
  rw [Lib.atoiAll_short _ hl]
  have hd := dec_digits n.toNat
  have hf := decFrom_dec n.toNat
  cases e : Lib.decDigits n.toNat with
  | nil => exact absurd e (dec_ne _)
  | cons c r =>
    rw [e] at hd hf
    have hc := hd c (List.mem_cons_self ..)
    have h45 : (c == 45) = false := by
      rw [beq_eq_false_iff_ne]; rintro rfl; exact absurd hc.1 (by decide)
    have h43 : (c == 43) = false := by
      rw [beq_eq_false_iff_ne]; rintro rfl; exact absurd hc.1 (by decide)
    simp only [Lib.atoi, h45, h43, Lib.decNat, List.isEmpty_cons, Bool.false_eq_true, if_false, hf, Option.map, Lib.NumEnd.ofOption]
    omega
theorem itoa_nb {n : Int} (h : 0 ≤ n) : nb (Lib.itoa n) := by
  rw [itoa_of h]
  intro c hc e
  have := dec_digits _ c hc
  rw [e] at this
  exact absurd this.1 (by decide)
theorem itoa_head {n : Int} (h : 0 ≤ n) {c : UInt8} (hc : c.toNat < 48 ∨ 57 < c.toNat) : (Lib.itoa n).head? ≠ some c := by
  rw [itoa_of h]
  intro e
  have := dec_digits _ c (List.mem_of_mem_head? (by rw [e]; rfl))
  omega
theorem null_nb : nb nullW := by intro c hc; simp [nullW] at hc; rcases hc with rfl | rfl | rfl <;> decide
theorem yes_nb : nb yesW := by intro c hc; simp [yesW] at hc; rcases hc with rfl | rfl | rfl <;> decide
theorem no_nb : nb noW := by intro c hc; simp [noW] at hc; rcases hc with rfl | rfl <;> decide
theorem sg_ne (p : Nat) : sgOf p ≠ 32 := by unfold sgOf; split <;> decide
theorem sg_null (p : Nat) : sgOf p ≠ 110 := by unfold sgOf; split <;> decide
theorem numT_nb (p : Nat) (n : Int) : nb (numT p n) := by
  unfold numT
  split
  · exact null_nb
  · exact nb_cons (sg_ne p) (itoa_nb (by omega))
theorem numberOf_numT (p : Nat) {n : Int} (h : -1 ≤ n) (hn : n ≤ 999999999) : numberOf (numT p n) = n := by
  unfold numT
  split
  · unfold numberOf; rw [if_pos (Or.inr rfl)]; omega
  · unfold numberOf
    rw [if_neg (by rintro (e | e) <;> injection e; rename_i e _; exact absurd e (sg_null p))]
    exact atoiN_itoa (by omega) hn
def opOk (o : Opd) : Bool := (opTk o).1 && decide ((opTk o).2 = ⟨0, 0⟩)
theorem opOk_cases {o : Opd} (h : opOk o = true) : (o.v = -1 ∧ 0 ≤ o.n ∧ o.n ≤ 999999999) ∨ (0 ≤ o.v ∧ o.v ≤ 23 ∧ o.n = 0) := by
  unfold opOk opTk within at h
  split at h
  · rename_i e; left; simp at h; exact ⟨e, h.1, h.2⟩
  · right; simp at h; exact ⟨h.1.1, h.1.2, h.2⟩
theorem opT_nb {o : Opd} (h : opOk o = true) : nb (opT o) := by
  unfold opT
  rcases opOk_cases h with ⟨h1, h2, _⟩ | ⟨h1, _⟩
  · rw [if_pos (by omega)]; exact itoa_nb h2
  · rw [if_neg (by omega)]; exact nb_cons (by decide) (itoa_nb h1)
theorem operandOf_opT {o : Opd} (h : opOk o = true) : operandOf (opT o) = o := by
  rcases opOk_cases h with ⟨h1, h2, h3⟩ | ⟨h1, h2, h3⟩
  · have e : opT o = Lib.itoa o.n := by unfold opT; rw [if_pos (by omega)]
    unfold operandOf
    rw [e, if_neg (itoa_head h2 (by decide)), atoiN_itoa h2 h3, ← h1]
  · have e : opT o = 105 :: Lib.itoa o.v := by unfold opT; rw [if_neg (by omega)]
    unfold operandOf
    rw [e, if_pos (show (105 :: Lib.itoa o.v).head? = some 105 from rfl)]
    unfold numberOf
    rw [if_neg (by rintro (e | e) <;> injection e; rename_i e _; exact absurd e (by decide))]
    show (⟨atoiN (Lib.itoa o.v), 0⟩ : Opd) = o
    rw [atoiN_itoa h1 (by omega), ← h3]
end Ac
end Go.Proofs.YtnkimfbdcghgpaaDoor
