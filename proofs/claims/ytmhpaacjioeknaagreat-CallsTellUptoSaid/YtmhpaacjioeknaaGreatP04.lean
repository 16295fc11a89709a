/-
  Plain: how a printed text is read: piece by piece, its signs. Plain: what is printed of a tree, and its signs: paths, values, conditions, declarations. Plain: what is printed of a tree, and its signs: statements and programs. Plain: over the signs of what was printed, the parser makes the tree again
-/
import Derived.Test.YtmhpaacjioeknaaGreatP03
import Derived.Test.YtmhpaacjioeknaaGreatP02
set_option maxHeartbeats 6400000
set_option maxRecDepth 100000
namespace Go.Proofs.YtmhpaacjioeknaaGreat
namespace Tx
/-- From place j on these signs are read; behind them is place k. -/
inductive Reads (t : ByteArray) : Nat → Nat → List (Int × List UInt8 × Int) → Prop
 | nil (j : Nat) : Reads t j j []
 | blank {j k : Nat} {ts : List (Int × List UInt8 × Int)} : nx t j = nx t (j + 1) → Reads t (j + 1) k ts → Reads t j k ts
 | cons {j k : Nat} {g : Int × List UInt8 × Int} {ts : List (Int × List UInt8 × Int)} : (nx t j).err = 0 → (nx t j).sg.kind ≠ 0 → key (nx t j).sg = g → Reads t (nx t j).stop k ts → Reads t j k (g :: ts)
theorem Reads.trans {t : ByteArray} {i j k : Nat} {ts us : List (Int × List UInt8 × Int)} (h : Reads t i j ts) (g : Reads t j k us) : Reads t i k (ts ++ us) := by
 induction h with
 | nil j => exact g
 | blank e _ ih => exact .blank e (ih g)
 | cons e0 ek eg _ ih => exact .cons e0 ek eg (ih g)
theorem Reads.chain {t : ByteArray} {j k : Nat} {ts : List (Int × List UInt8 × Int)} (h : Reads t j k ts) (h0 : (nx t k).err = 0) (hk : (nx t k).sg.kind = 0) : ∃ m, Chain t j m ∧ m.map key = ts ++ [key (nx t k).sg] := by
 induction h with
 | nil j => exact ⟨[(nx t j).sg], ⟨h0, rfl, .inl ⟨hk, rfl⟩⟩, rfl⟩
 | blank e _ ih =>
  obtain ⟨m, c, e1⟩ := ih h0 hk
  refine ⟨m, ?_, e1⟩
  cases m with
  | nil => exact c.elim
  | cons b m =>
   obtain ⟨q0, q1, q2⟩ := c
   exact ⟨by rw [e]; exact q0, by rw [e]; exact q1, by rw [e]; exact q2⟩
 | cons e0 ek eg _ ih =>
  obtain ⟨m, c, e1⟩ := ih h0 hk
  exact ⟨_ :: m, ⟨e0, rfl, .inr ⟨ek, c⟩⟩, by simp only [List.map_cons, eg, e1, List.cons_append]⟩
/-- Such bytes, something of this kind behind them, are read as these signs. -/
def Lx (a : List UInt8) (ts : List (Int × List UInt8 × Int)) (C : List UInt8 → Prop) : Prop :=
 ∀ (t : ByteArray) (j : Nat) (r : List UInt8), C r → t.data.toList.drop j = a ++ r → ∃ k, Reads t j k ts ∧ t.data.toList.drop k = r
def Any (_ : List UInt8) : Prop := True
theorem Lx.nil : Lx [] [] Any := fun _ j _ _ h => ⟨j, .nil j, h⟩
theorem Lx.append {a b : List UInt8} {ts us : List (Int × List UInt8 × Int)} {C D : List UInt8 → Prop} (h : Lx a ts C) (g : Lx b us D) (hc : ∀ r, D r → C (b ++ r)) : Lx (a ++ b) (ts ++ us) D := by
 intro t j r hr ht
 rw [List.append_assoc] at ht
 obtain ⟨k, h1, h2⟩ := h t j (b ++ r) (hc r hr) ht
 obtain ⟨m, g1, g2⟩ := g t k r hr h2
 exact ⟨m, h1.trans g1, g2⟩
theorem Lx.blank (b : UInt8) (hb : blk (b.toNat : Int) = true) : Lx [b] [] Any := by
 intro t j r _ ht
 obtain ⟨e1, e2, _⟩ := nx_blank t j b hb r ht
 exact ⟨j + 1, .blank e1 (.nil _), e2⟩
theorem Lx.tok {a : List UInt8} {kd num : Int} {C : List UInt8 → Prop} (hk : kd ≠ 0) (h : ∀ r, C r → tokL (a ++ r) = ⟨kd, a.length, num, 0⟩ ∧ sk false (a ++ r) = 0) : Lx a [(kd, a, num)] C := by
 intro t j r hr ht
 obtain ⟨h1, h2⟩ := h r hr
 have hs : skp t j = j := by unfold skp; rw [ht, h2]; rfl
 have hn := nx_list t j
 rw [hs, ht, h1] at hn
 have hp := part_take t j a.length
 rw [ht, List.take_left' rfl] at hp
 refine ⟨j + a.length, .cons (by rw [hn]) (by rw [hn]; exact hk) ?_ (by rw [hn]; exact .nil _), ?_⟩
 ·rw [hn]; unfold key; rw [hp]
 ·rw [← List.drop_drop, ht, List.drop_left' rfl]
/-- No letter and no digit is ahead. -/
def Clear (r : List UInt8) : Prop := ∀ b, r.head? = some b → wrd (b.toNat : Int) = false
/-- No Mark of two bytes comes of it. -/
def NoPair (c : UInt8) (r : List UInt8) : Prop := ∀ b, r.head? = some b → two (c.toNat : Int) (b.toNat : Int) = false
theorem run_all (p : Int → Bool) : ∀ (a r : List UInt8), (∀ b ∈ a, p (b.toNat : Int) = true) → (∀ b, r.head? = some b → p (b.toNat : Int) = false) → run p (a ++ r) = a.length
 | [], [], _, _ => rfl
 | [], b :: r, _, h => by simp only [List.nil_append, run, h b rfl, Bool.false_eq_true, if_false, List.length_nil]
 | a :: l, r, h, g => by
  have := run_all p l r (fun b hb => h b (List.mem_cons_of_mem _ hb)) g
  simp only [List.cons_append, run, h a List.mem_cons_self, if_true, this, List.length_cons]
/-- A word: a letter, then letters and digits, at most sixteen. -/
def isWord (a : List UInt8) : Prop := (∃ b l, a = b :: l ∧ ltr (b.toNat : Int) = true) ∧ (∀ b ∈ a, wrd (b.toNat : Int) = true) ∧ a.length ≤ 16
theorem ltr_sk {b : UInt8} (h : wrd (b.toNat : Int) = true) (l : List UInt8) : sk false (b :: l) = 0 := by
 refine sk_zero _ _ ?_ ?_
 ·unfold wrd ltr dgt at h; unfold blk; simp at h ⊢; omega
 ·unfold wrd ltr dgt at h; simp at h; omega
theorem tokL_cons (b : UInt8) (l : List UInt8) : tokL (b :: l) = if ltr (b.toNat : Int) then (if 16 < run wrd (b :: l) then ⟨0, 0, 0, 3⟩ else ⟨if isKeyL ((b :: l).take (run wrd (b :: l))) then 3 else 1, run wrd (b :: l), 0, 0⟩) else if dgt (b.toNat : Int) then (if 9 < run dgt (b :: l) then ⟨0, 0, 0, 3⟩ else ⟨2, run dgt (b :: l), val ((b :: l).take (run dgt (b :: l))), 0⟩) else if mkl (b :: l) = 0 then ⟨0, 0, 0, 4⟩ else ⟨4, mkl (b :: l), 0, 0⟩ := rfl
theorem Lx.word {a : List UInt8} (h : isWord a) : Lx a [(if isKeyL a then 3 else 1, a, 0)] Clear := by
 obtain ⟨⟨b, l, rfl, hb⟩, hw, hl⟩ := h
 refine Lx.tok (by split <;> decide) fun r hr => ?_
 have hrun := run_all wrd (b :: l) r hw hr
 rw [List.cons_append] at hrun ⊢
 refine ⟨?_, ltr_sk (hw b List.mem_cons_self) _⟩
 rw [tokL_cons, if_pos hb, hrun, if_neg (by omega), ← List.cons_append, List.take_left' rfl]
theorem Lx.num {a : List UInt8} (h0 : a ≠ []) (hd : ∀ b ∈ a, dgt (b.toNat : Int) = true) (hl : a.length ≤ 9) : Lx a [(2, a, val a)] Clear := by
 cases a with
 | nil => exact absurd rfl h0
 | cons b l =>
  refine Lx.tok (by decide) fun r hr => ?_
  have hb := hd b List.mem_cons_self
  have hw : wrd (b.toNat : Int) = true := by unfold wrd; rw [hb, Bool.or_true]
  have hn : ltr (b.toNat : Int) = false := by unfold dgt at hb; unfold ltr; simp at hb ⊢; omega
  have hrun := run_all dgt (b :: l) r hd (fun c hc => by have := hr c hc; unfold wrd at this; simp at this; exact this.2)
  rw [List.cons_append] at hrun ⊢
  refine ⟨?_, ltr_sk hw _⟩
  rw [tokL_cons, if_neg (by rw [hn]; decide), if_pos hb, hrun, if_neg (by omega), ← List.cons_append, List.take_left' rfl]
theorem Lx.one {c : UInt8} (h : one c.toNat = true) : Lx [c] [(4, [c], 0)] (NoPair c) := by
 refine Lx.tok (by decide) fun r hr => ?_
 have h1 : ltr (c.toNat : Int) = false := by unfold Tx.one at h; unfold ltr; simp at h ⊢; omega
 have h2 : dgt (c.toNat : Int) = false := by unfold Tx.one at h; unfold dgt; simp at h ⊢; omega
 have hm : mkl ([c] ++ r) = 1 := by
  cases r with
  | nil => simp only [List.append_nil, mkl, h, if_true]
  | cons b r => simp only [List.cons_append, List.nil_append, mkl, hr b rfl, h, Bool.false_eq_true, if_false, if_true]
 refine ⟨?_, ?_⟩
 ·show tokL (c :: ([] ++ r)) = _
  rw [tokL_cons, if_neg (by rw [h1]; decide), if_neg (by rw [h2]; decide), show c :: ([] ++ r) = [c] ++ r from rfl, hm, if_neg (by decide)]; rfl
 ·refine sk_zero _ _ ?_ ?_
  ·unfold Tx.one at h; unfold blk; simp at h ⊢; omega
  ·unfold Tx.one at h; simp at h; omega
theorem Lx.two {c d : UInt8} (h : two c.toNat d.toNat = true) : Lx [c, d] [(4, [c, d], 0)] Any := by
 refine Lx.tok (by decide) fun r _ => ?_
 have h1 : ltr (c.toNat : Int) = false := by unfold Tx.two at h; unfold ltr; simp at h ⊢; omega
 have h2 : dgt (c.toNat : Int) = false := by unfold Tx.two at h; unfold dgt; simp at h ⊢; omega
 have hm : mkl ([c, d] ++ r) = 2 := by simp only [List.cons_append, mkl, h, if_true]
 refine ⟨?_, ?_⟩
 ·show tokL (c :: ([d] ++ r)) = _
  rw [tokL_cons, if_neg (by rw [h1]; decide), if_neg (by rw [h2]; decide), show c :: ([d] ++ r) = [c, d] ++ r from rfl, hm, if_neg (by decide)]; rfl
 ·refine sk_zero _ _ ?_ ?_
  ·unfold Tx.two at h; unfold blk; simp at h ⊢; omega
  ·unfold Tx.two at h; simp at h; omega
/-- A text that is read so from its head on, up to its end. -/
theorem Lx.alls {t : ByteArray} {ts : List (Int × List UInt8 × Int)} (h : Lx t.data.toList ts Any) (hz : t.size ≤ 65536) : (Tx.alls t).2.2 = 0 ∧ (Tx.alls t).1.map key = ts ++ [(0, [], 0)] := by
 obtain ⟨k, h1, h2⟩ := h t 0 [] trivial (by simp)
 have hk : t.size ≤ k := by
  have := congrArg List.length h2
  rw [List.length_drop, len_eq] at this; simp at this; omega
 have hnx : nx t k = An.bad k 0 := by unfold nx; rw [skp_end t k hk, tok_end t k (by omega)]
 obtain ⟨m, c, e⟩ := h1.chain (by rw [hnx]; rfl) (by rw [hnx]; rfl)
 have : Tx.alls t = (m, 0, 0) := by
  unfold Tx.alls
  rw [if_neg (by omega), chain_go (t.size + 1) t 0 [] m (Nat.zero_le _) (by omega) c]
  rfl
 rw [this]
 refine ⟨rfl, ?_⟩
 rw [e, hnx]; rfl
/-- Digits of a number. -/
def digits (n : Nat) : List UInt8 := if n < 10 then [UInt8.ofNat (48 + n)] else digits (n / 10) ++ [UInt8.ofNat (48 + n % 10)]
termination_by n
decreasing_by omega
theorem dig_nat (n : Nat) (h : n < 10) : (UInt8.ofNat (48 + n)).toNat = 48 + n := by rw [UInt8.toNat_ofNat']; omega
theorem val_snoc (l : List UInt8) (b : UInt8) : val (l ++ [b]) = 10 * val l + (b.toNat - 48) := by unfold val; rw [List.foldl_append]; rfl
theorem digits_ok (n : Nat) : digits n ≠ [] ∧ (∀ b ∈ digits n, dgt (b.toNat : Int) = true) ∧ val (digits n) = n := by
 induction n using Nat.strongRecOn with
 | ind n ih =>
  unfold digits
  by_cases h : n < 10
  ·rw [if_pos h]
   refine ⟨by simp, fun b hb => ?_, ?_⟩
   ·rw [List.mem_singleton.1 hb, dig_nat n h]; unfold dgt; simp; omega
   ·unfold val; simp only [List.foldl_cons, List.foldl_nil, dig_nat n h]; omega
  ·rw [if_neg h]
   obtain ⟨_, h2, h3⟩ := ih (n / 10) (by omega)
   refine ⟨by simp, fun b hb => ?_, ?_⟩
   ·rcases List.mem_append.1 hb with hb | hb
    ·exact h2 b hb
    ·rw [List.mem_singleton.1 hb, dig_nat _ (by omega)]; unfold dgt; simp; omega
   ·rw [val_snoc, h3, dig_nat _ (by omega)]; omega
theorem digits_len : ∀ (k n : Nat), n < 10 ^ k → 0 < k → (digits n).length ≤ k
 | 0, _, _, h => absurd h (by omega)
 | k + 1, n, hn, _ => by
  unfold digits
  by_cases h : n < 10
  ·rw [if_pos h]; simp
  ·rw [if_neg h, List.length_append]
   have hk : 0 < k := by
    rcases Nat.eq_zero_or_pos k with rfl | h'
    ·simp at hn; omega
    ·exact h'
   have := digits_len k (n / 10) (by rw [Nat.pow_succ] at hn; omega) hk
   simp; omega
theorem Lx.digits {n : Nat} (h : n ≤ 999999999) : Lx (digits n) [(2, Tx.digits n, (n : Int))] Clear := by
 obtain ⟨h1, h2, h3⟩ := digits_ok n
 have := Lx.num h1 h2 (digits_len 9 n (by omega) (by omega))
 rw [h3] at this; exact this
end Tx
end Go.Proofs.YtmhpaacjioeknaaGreat
namespace Go.Proofs.YtmhpaacjioeknaaGreat
namespace Pn
open Tx (Lx Clear NoPair Any)
abbrev K := Int × List UInt8 × Int
def txt (x : ByteArray) : List UInt8 := x.data.toList
def nm (x : ByteArray) : K := (1, txt x, 0)
def mk (a : List UInt8) : K := (4, a, 0)
/-- May this be a name? -/
def okN (x : ByteArray) : Bool := (match txt x with | [] => false | b :: _ => Tx.ltr (b.toNat : Int)) && (txt x).all (fun b => Tx.wrd (b.toNat : Int)) && decide ((txt x).length ≤ 16) && !Tx.isKeyL (txt x)
def okNum (n : Int) : Bool := decide (0 ≤ n) && decide (n ≤ 999999999)
def noP (w : Pth) : Bool := decide (txt w.name = []) && decide (w.hops.l = [])
def noT (t : Tm) : Bool := decide (txt t.name = []) && decide (t.n = 0)
/- What is printed of paths. -/
def okPath (w : Pth) : Bool := okN w.name && decide (w.hops.l.length ≤ 8) && w.hops.l.all fun h => okN h.name
def okTerm (t : Tm) : Bool := if txt t.name = [] then okNum t.n else okN t.name && decide (t.n = 0)
/-- May this be a value? -/
def okVal (v : Vl) : Bool :=
 if v.kind = 0 ∨ v.kind = 3 then noP v.path && noT v.left && noT v.right && decide (txt v.type = [])
 else if v.kind = 1 then noT v.left && noT v.right && decide (txt v.type = []) && okPath v.path
 else if v.kind = 2 then noP v.path && noT v.left && noT v.right && okN v.type
 else if v.kind = 4 then noP v.path && noT v.right && decide (txt v.type = []) && decide (txt v.left.name = []) && okNum v.left.n
 else if v.kind = 5 ∨ v.kind = 6 then noP v.path && decide (txt v.type = []) && okTerm v.left && okTerm v.right
 else false
def okSide (v : Vl) : Bool := okVal v && (decide (v.kind = 0) || decide (v.kind = 1) || decide (v.kind = 4))
/- Conditions. -/
def noVal (v : Vl) : Bool := decide (v.kind = 0) && okVal v
def noCond (c : Cd) : Bool := decide (c.kind = 0) && noVal c.left && noVal c.right
def okCond (c : Cd) : Bool := if c.kind = 0 then noCond c else decide (1 ≤ c.kind) && decide (c.kind ≤ 4) && okSide c.left && okSide c.right
/- Declarations. -/
def tInt : List UInt8 := [105, 110, 116]
def okDecl (d : Dc) : Bool := okN d.name && (decide (txt d.type = []) || okN d.type)
end Pn
end Go.Proofs.YtmhpaacjioeknaaGreat
namespace Go.Proofs.YtmhpaacjioeknaaGreat
namespace Pn
open Tx (Lx Clear NoPair Any)
def noCall (h : Hd) : Bool := decide (txt h.name = []) && decide (h.args.l = [])
/-- May this be a statement, for itself (t0, e0: has it no Then, no Else)? -/
def okStmt (h : Hd) (t0 e0 : Bool) : Bool :=
 if h.kind = 0 then noP h.place && noVal h.value && noCond h.cond && noCall h && t0 && e0 && !h.both
 else if h.kind = 1 then okPath h.place && okVal h.value && noCond h.cond && noCall h && t0 && e0 && !h.both
 else if h.kind = 2 then okPath h.place && noVal h.value && noCond h.cond && noCall h && t0 && e0 && !h.both
 else if h.kind = 3 then h.args.l.all okSide && noP h.place && noVal h.value && noCond h.cond && okN h.name && t0 && e0 && !h.both
 else if h.kind = 4 then noP h.place && noVal h.value && okCond h.cond && noCall h && (h.both || e0)
 else if h.kind = 5 then noP h.place && noVal h.value && okCond h.cond && noCall h && e0 && !h.both
 else if h.kind = 6 then noP h.place && noVal h.value && noCond h.cond && noCall h && e0 && !h.both
 else false
def isNil : SL → Bool
 | .nil => true
 | .cons .. => false
def okList : SL → Bool
 | .nil => true
 | .cons h _ _ t _ _ e r => okStmt h (isNil t) (isNil e) && okList t && okList e && okList r
/- Programs. -/
def okField (d : Dc) : Bool := okDecl d && !decide (txt d.type = [])
def okStruct (s : Sr) : Bool := okN s.name && s.fields.l.all okField
def okProc (p : Pc) : Bool := okN p.name && p.params.l.all okDecl && p.locals_.l.all okDecl && okList p.body
def okProg (p : Pg) : Bool := p.structs.l.all okStruct && p.globals.l.all okDecl && p.procs.l.all okProc
end Pn
end Go.Proofs.YtmhpaacjioeknaaGreat
namespace Go.Proofs.YtmhpaacjioeknaaGreat
namespace Pn
open Pr (th St Res)
def toTk (k : K) : Pr.Tk := ⟨k.1, ⟨k.2.1.toArray⟩, k.2.2⟩
/-- The signs from i on are just these. -/
def Rs (t : List Pr.Tk) (i : Nat) (ks : List K) : Prop := t.drop i = ks.map toTk
def hd : List K → List UInt8
 | [] => []
 | x :: _ => x.2.1
def kd : List K → Int
 | [] => 0
 | x :: _ => x.1
section
variable {t : List Pr.Tk}
theorem Rs.sg {i : Nat} {x : K} {r : List K} (h : Rs t i (x :: r)) : Pr.sg t i = toTk x ∧ Rs t (i + 1) r := by
 unfold Rs at h ⊢
 constructor
 ·unfold Pr.sg
  rw [List.getD_eq_getElem?_getD, ← List.head?_drop, h]; rfl
 ·rw [← List.drop_drop, h]; rfl
theorem Rs.sg_nil {i : Nat} (h : Rs t i []) : Pr.sg t i = ⟨0, ByteArray.empty, 0⟩ := by
 unfold Rs at h; unfold Pr.sg
 rw [List.getD_eq_getElem?_getD, ← List.head?_drop, h]; rfl
theorem Rs.is {i : Nat} {ks : List K} (h : Rs t i ks) (s : ByteArray) : Pr.is t i s = decide (hd ks = s.data.toList) := by
 unfold Pr.is
 rw [Lib.toList_data, Lib.toList_data]
 cases ks with
 | nil => rw [h.sg_nil]; exact Bool.beq_eq_decide_eq _ _
 | cons x r => rw [h.sg.1]; show ((x.2.1.toArray.toList == s.data.toList)) = _; exact Bool.beq_eq_decide_eq _ _
theorem Rs.is_no {i : Nat} {ks : List K} (h : Rs t i ks) {s : ByteArray} (e : hd ks ≠ s.data.toList) : Pr.is t i s = false := by rw [h.is]; exact decide_eq_false e
theorem Rs.kind {i : Nat} {ks : List K} (h : Rs t i ks) : (Pr.sg t i).kind = kd ks := by
 cases ks with
 | nil => rw [h.sg_nil]; rfl
 | cons x r => rw [h.sg.1]; rfl
/-- A part of the parser makes this, and is then where these signs are ahead. -/
def Bk (t : List Pr.Tk) {α : Type} (res : Res α) (a : α) (o b : Int) (r : List K) : Prop := ∃ i, res = .ok (a, ⟨i, o, b⟩) ∧ Rs t i r
theorem Bk.th {α β : Type} {res : Res α} {a : α} {o b o' b' : Int} {r q : List K} {f : α → St → Res β} {c : β} (h : Bk t res a o b r) (g : ∀ i, Rs t i r → Bk t (f a ⟨i, o, b⟩) c o' b' q) : Bk t (th res f) c o' b' q := by
 obtain ⟨i, rfl, hi⟩ := h
 exact g i hi
theorem Bk.ok {α : Type} {a : α} {i : Nat} {o b : Int} {r : List K} (h : Rs t i r) : Bk t (.ok (a, ⟨i, o, b⟩)) a o b r := ⟨i, rfl, h⟩
theorem nm_text (x : ByteArray) : (toTk (nm x)).text = x := by
 show (⟨(x.data.toList).toArray⟩ : ByteArray) = x
 rw [Array.toArray_toList]
theorem empty_of {x : ByteArray} (h : txt x = []) : x = ByteArray.empty := by
 have : x = ⟨(txt x).toArray⟩ := (nm_text x).symm
 rw [this, h]; rfl
end
end Pn
end Go.Proofs.YtmhpaacjioeknaaGreat
namespace Go.Proofs.YtmhpaacjioeknaaGreat
namespace Pn
open Pr (th St Res)
section
variable {t : List Pr.Tk}
theorem Rs.no {i : Nat} {x : K} {r : List K} (h : Rs t i (x :: r)) {s : ByteArray} (e : x.2.1 ≠ s.data.toList) : Pr.is t i s = false := Rs.is_no (ks := x :: r) h e
theorem Rs.len {i : Nat} {ks : List K} (h : Rs t i ks) : ks.length ≤ t.length := by
 have := congrArg List.length h
 rw [List.length_drop, List.length_map] at this; omega
theorem Rs.sums {i : Nat} {ks : List K} {o b : Int} (h : Rs t i ks) (ht : ∀ x r, ks = x :: r → hd r ≠ [43] ∧ hd r ≠ [45] ∨ x.1 ≠ 1 ∧ x.1 ≠ 2) : Pr.sums t ⟨i, o, b⟩ = false := by
 unfold Pr.sums
 cases ks with
 | nil =>
  have : (Pr.sg t i).kind = 0 := by rw [h.sg_nil]
  rw [this]; rfl
 | cons x r =>
  have hk : (Pr.sg t i).kind = x.1 := h.kind
  rw [hk]
  rcases ht x r rfl with ⟨h1, h2⟩ | ⟨h1, h2⟩
  ·rw [h.sg.2.is_no (s := ⟨#[43]⟩) h1, h.sg.2.is_no (s := ⟨#[45]⟩) h2]; simp
  ·have e1 : (x.1 == 1) = false := by rw [beq_eq_false_iff_ne]; exact h1
   have e2 : (x.1 == 2) = false := by rw [beq_eq_false_iff_ne]; exact h2
   rw [e1, e2]; rfl
/- Declarations. -/
/-- No declaration is ahead. -/
def NoDecl (r : List K) : Prop := hd r ≠ tInt ∧ (kd r ≠ 1 ∨ hd r.tail ≠ [42])
theorem Rs.declares {i : Nat} {r : List K} {o b : Int} (h : Rs t i r) (hr : NoDecl r) : Pr.declares t ⟨i, o, b⟩ = false := by
 unfold Pr.declares
 rw [h.is_no (s := ⟨#[105, 110, 116]⟩) hr.1, h.kind]
 rcases hr.2 with h2 | h2
 ·have : (kd r == 1) = false := by rw [beq_eq_false_iff_ne]; exact h2
  rw [this]; rfl
 ·cases r with
  | nil => rfl
  | cons x r => rw [h.sg.2.is_no (s := ⟨#[42]⟩) h2]; simp
end
end Pn
end Go.Proofs.YtmhpaacjioeknaaGreat
namespace Go.Proofs.YtmhpaacjioeknaaGreat
namespace Pn
open Pr (th St Res)
/-- How many statements there are. -/
def cnt : SL → Int
 | .nil => 0
 | .cons _ _ _ t _ _ e r => 1 + cnt t + cnt e + cnt r
/-- How deep blocks stand in each other. -/
def dp : SL → Int
 | .nil => 0
 | .cons h _ _ t _ _ e r => max (if 4 ≤ h.kind then 1 + max (dp t) (dp e) else 0) (dp r)
section
variable {t : List Pr.Tk}
end
end Pn
end Go.Proofs.YtmhpaacjioeknaaGreat
namespace Go.Proofs.YtmhpaacjioeknaaGreat
namespace Pn
open Pr (th St Res)
section
variable {t : List Pr.Tk}
/- Programs. -/
def cntP : List Pc → Int
 | [] => 0
 | x :: l => cnt x.body + cntP l
end
/-- Is a program as a text's is? -/
def right (p : Pg) : Bool := okProg p && p.procs.l.all (fun q => decide (dp q.body ≤ 20)) && decide (cntP p.procs.l ≤ 400)
end Pn
end Go.Proofs.YtmhpaacjioeknaaGreat
namespace Go.Proofs.YtmhpaacjioeknaaGreat
namespace Pn
open Pr (th St Res th_ok)
theorem run_take (p : Int → Bool) : ∀ (l : List UInt8), ∀ b ∈ l.take (Tx.run p l), p (b.toNat : Int) = true
 | [], b, h => by simp at h
 | a :: l, b, h => by
  by_cases ha : p (a.toNat : Int) = true
  ·simp only [Tx.run, ha, if_true, List.take_succ_cons, List.mem_cons] at h
   rcases h with rfl | h
   ·exact ha
   ·exact run_take p l b h
  ·simp only [Tx.run, ha, Bool.false_eq_true, if_false, List.take_zero, List.not_mem_nil] at h
section
variable {t : List Pr.Tk}
end
end Pn
end Go.Proofs.YtmhpaacjioeknaaGreat
namespace Go.Proofs.YtmhpaacjioeknaaGreat
open Go.RowKit Go.Sort
namespace Pa
/-- A text and the kind of its sign. -/
def KindOk (k : Int) (a : List UInt8) : Prop :=
 (k = 0 ∧ a = []) ∨ (k = 1 ∧ (∃ b r, a = b :: r ∧ Tx.ltr (b.toNat : Int) = true) ∧ Tx.isKeyL a = false) ∨ (k = 2 ∧ ∃ b r, a = b :: r ∧ Tx.ltr (b.toNat : Int) = false ∧ Tx.dgt (b.toNat : Int) = true) ∨
 (k = 3 ∧ Tx.isKeyL a = true ∧ ∃ b r, a = b :: r ∧ Tx.ltr (b.toNat : Int) = true) ∨ (k = 4 ∧ ∃ b r, a = b :: r ∧ Tx.ltr (b.toNat : Int) = false ∧ Tx.dgt (b.toNat : Int) = false)
theorem tokL_kind (D : List UInt8) : KindOk (Tx.tokL D).kind (D.take (Tx.tokL D).len) := by
 cases D with
 | nil => exact .inl ⟨rfl, rfl⟩
 | cons b l =>
  rw [Tx.tokL_cons]
  by_cases hl : Tx.ltr (b.toNat : Int) = true
  ·rw [if_pos hl]
   by_cases h16 : 16 < Tx.run Tx.wrd (b :: l)
   ·rw [if_pos h16]; exact .inl ⟨rfl, rfl⟩
   ·rw [if_neg h16]
    have hw : Tx.wrd (b.toNat : Int) = true := by unfold Tx.wrd; rw [hl]; rfl
    have hrun : Tx.run Tx.wrd (b :: l) = Tx.run Tx.wrd l + 1 := by simp only [Tx.run, hw, if_true]
    by_cases hk : Tx.isKeyL ((b :: l).take (Tx.run Tx.wrd (b :: l))) = true
    ·rw [if_pos hk]
     exact .inr (.inr (.inr (.inl ⟨rfl, hk, b, _, by rw [hrun, List.take_succ_cons], hl⟩)))
    ·rw [if_neg hk]
     exact .inr (.inl ⟨rfl, ⟨b, _, by rw [hrun, List.take_succ_cons], hl⟩, by simpa using hk⟩)
  ·rw [if_neg hl]
   have hl' : Tx.ltr (b.toNat : Int) = false := by simpa using hl
   by_cases hg : Tx.dgt (b.toNat : Int) = true
   ·rw [if_pos hg]
    by_cases h9 : 9 < Tx.run Tx.dgt (b :: l)
    ·rw [if_pos h9]; exact .inl ⟨rfl, rfl⟩
    ·rw [if_neg h9]
     have hrun : Tx.run Tx.dgt (b :: l) = Tx.run Tx.dgt l + 1 := by simp only [Tx.run, hg, if_true]
     exact .inr (.inr (.inl ⟨rfl, b, _, by rw [hrun, List.take_succ_cons], hl', hg⟩))
   ·rw [if_neg hg]
    have hg' : Tx.dgt (b.toNat : Int) = false := by simpa using hg
    split
    ·exact .inl ⟨rfl, rfl⟩
    ·rename_i h0
     refine .inr (.inr (.inr (.inr ⟨rfl, b, ?_, ?_, hl', hg'⟩)))
     ·exact l.take (Tx.mkl (b :: l) - 1)
     ·rw [show Tx.mkl (b :: l) = (Tx.mkl (b :: l) - 1) + 1 by omega, List.take_succ_cons]; rfl
theorem nx_kind (s : ByteArray) (i : Nat) : KindOk (Tx.nx s i).sg.kind (Tx.nx s i).sg.text.data.toList := by
 have h := Tx.nx_list s i
 have hp := Tx.part_take s (Tx.skp s i) (Tx.tokL (s.data.toList.drop (Tx.skp s i))).len
 have hg := tokL_kind (s.data.toList.drop (Tx.skp s i))
 rw [← hp] at hg
 rw [h]; exact hg
theorem chain_kind : ∀ (l : List Tx.Sg) (s : ByteArray) (i : Nat), Tx.Chain s i l → ∀ a ∈ l, KindOk a.kind a.text.data.toList
 | [], s, i, h => h.elim
 | b :: l, s, i, h => by
  obtain ⟨_, rfl, h1⟩ := h
  intro a ha
  rcases List.mem_cons.1 ha with rfl | ha
  ·exact nx_kind s i
  ·rcases h1 with ⟨_, rfl⟩ | ⟨_, hc⟩
   ·simp at ha
   ·exact chain_kind l s _ hc a ha
/-- The kinds of all signs hang on their texts. -/
def Gk (l : List Tx.Sg) : Prop := ∀ a ∈ l, KindOk a.kind a.text.data.toList
theorem alls_kind (s : ByteArray) (h : (Tx.alls s).2.2 = 0) : Gk (Tx.alls s).1 := chain_kind _ s 0 (Tx.alls_chain s h)
theorem key_letter {a : List UInt8} (h : Tx.isKeyL a = true) : ∃ b r, a = b :: r ∧ Tx.ltr (b.toNat : Int) = true := by
 unfold Tx.isKeyL at h
 obtain ⟨x, hx, he⟩ := List.any_eq_true.1 h
 rw [beq_iff_eq] at he
 subst he
 simp only [Tx.kw, List.mem_cons, List.not_mem_nil, or_false] at hx
 rcases hx with rfl | rfl | rfl | rfl | rfl | rfl | rfl | rfl | rfl | rfl <;> exact ⟨_, _, rfl, by rfl⟩
/-- A key, or a mark. -/
def lit (a : List UInt8) : Bool := Tx.isKeyL a || (match a with | [] => false | b :: _ => !Tx.ltr (b.toNat : Int) && !Tx.dgt (b.toNat : Int))
def litM (a : List UInt8) : Bool := match a with | [] => false | b :: _ => !Tx.ltr (b.toNat : Int) && !Tx.dgt (b.toNat : Int)
theorem kind_mark {k : Int} {a : List UInt8} (h : KindOk k a) (ha : litM a = true) : k = 4 := by
 rcases h with ⟨_, rfl⟩ | ⟨_, ⟨b, r, rfl, hb⟩, _⟩ | ⟨_, b, r, rfl, _, hb⟩ | ⟨_, _, b, r, rfl, hb⟩ | ⟨h, _⟩
 ·cases ha
 ·simp [litM, hb] at ha
 ·simp [litM, hb] at ha
 ·simp [litM, hb] at ha
 ·exact h
theorem kind_lit {k : Int} {a : List UInt8} (h : KindOk k a) (ha : lit a = true) : k = 3 ∨ k = 4 := by
 unfold lit at ha
 rw [Bool.or_eq_true] at ha
 rcases ha with hk | hm
 ·rcases h with ⟨_, rfl⟩ | ⟨_, _, hn⟩ | ⟨_, b, r, rfl, hl, hb⟩ | ⟨h, _⟩ | ⟨h, _⟩
  ·exact absurd hk (by decide)
  ·rw [hk] at hn; cases hn
  ·obtain ⟨b', r', he, hb'⟩ := key_letter hk
   injection he with he; subst he; rw [hl] at hb'; cases hb'
  ·exact .inl h
  ·exact .inr h
 ·exact .inr (kind_mark h (by unfold litM; exact hm))
end Pa
end Go.Proofs.YtmhpaacjioeknaaGreat
namespace Go.Proofs.YtmhpaacjioeknaaGreat
open Go.RowKit Go.Sort
theorem cell_grown {w w' : World} {J : Nat} {q : Addr} {v : Value} (h : w.cell? q = some v) (hg : w.grownBy w' (some J)) (hne : q.block ≠ J) : w'.cell? q = some v := by
 have hlt := World.block_lt_of_cell? w _ h
 rw [← h]
 simp only [World.cell?]
 rw [hg.block q.block hlt (by intro e; injection e with e; exact hne e)]
theorem range_grown {w w' : World} {J b o : Nat} {cs : List Value} (h : w.rangeAt b o cs) (hg : w.grownBy w' (some J)) (hne : b ≠ J) : w'.rangeAt b o cs := fun j v hv => cell_grown (h j v hv) hg hne
end Go.Proofs.YtmhpaacjioeknaaGreat
namespace Go.Proofs.YtmhpaacjioeknaaGreat
open Go.RowKit Go.Sort
/-- The reader in block rb over the signs l: k: the next one; o, b: what is open and begun; a, e: the error. -/
structure RS (w : World) (rb sb cap : Nat) (l : List Tx.Sg) (k : Nat) (o b a e : Int) : Prop where
 blk : Bk w rb 64 #[.slice (some ⟨sb, 0, none⟩) l.length cap, .int .i64 k, .int .i64 o, .int .i64 b, .int .i64 a, .int .i64 e]
 row : ∀ j x, l[j]? = some x → w.rangeAt sb (j * 4) [.int .i64 x.kind, .int .i64 x.pos, .string x.text, .int .i64 x.num]
 ne : sb ≠ rb
 pos : 0 < l.length
 len : l.length ≤ 70000
 kb : k ≤ 1000000
theorem RS.rb_lt {w : World} {rb sb cap : Nat} {l : List Tx.Sg} {k : Nat} {o b a e : Int} (h : RS w rb sb cap l k o b a e) : rb < w.heap.size := (Array.getElem?_eq_some_iff.1 h.blk).1
theorem RS.below {w w' : World} {rb sb cap : Nat} {l : List Tx.Sg} {k : Nat} {o b a e : Int} (h : RS w rb sb cap l k o b a e) (hb : Below w.heap.size w w') : RS w' rb sb cap l k o b a e :=
 ⟨h.blk.below hb h.rb_lt, fun j x hx => rangeAt_below (h.row j x hx) hb, h.ne, h.pos, h.len, h.kb⟩
theorem RS.sb_lt {w : World} {rb sb cap : Nat} {l : List Tx.Sg} {k : Nat} {o b a e : Int} (h : RS w rb sb cap l k o b a e) : sb < w.heap.size := by
 have h0 := h.row 0 (l[0]'h.pos) (List.getElem?_eq_getElem h.pos)
 have := cell_at h0 0 _ rfl
 exact World.block_lt_of_cell? w _ this
/-- The sign at a place, or the last one. -/
def rsg (l : List Tx.Sg) (k : Nat) : Tx.Sg := Pa.sg l (min k (l.length - 1))
theorem rsg_mem {l : List Tx.Sg} (k : Nat) (h : 0 < l.length) : l[min k (l.length - 1)]? = some (rsg l k) := by
 unfold rsg Pa.sg
 rw [List.getD_eq_getElem?_getD, List.getElem?_eq_getElem (by omega)]; rfl
theorem rsg_lt {l : List Tx.Sg} {k : Nat} (h : k < l.length) : rsg l k = Pa.sg l k := by unfold rsg; rw [Nat.min_eq_left (by omega)]
theorem sign_at {w : World} {sb j : Nat} {x : Tx.Sg} (h : w.rangeAt sb (j * 4) [.int .i64 x.kind, .int .i64 x.pos, .string x.text, .int .i64 x.num]) :
  w.cell? ⟨sb, j * 4, none⟩ = some (.int .i64 x.kind) ∧ w.cell? ⟨sb, j * 4 + 1, none⟩ = some (.int .i64 x.pos) ∧ w.cell? ⟨sb, j * 4 + 2, none⟩ = some (.string x.text) ∧ w.cell? ⟨sb, j * 4 + 3, none⟩ = some (.int .i64 x.num) :=
 ⟨by have := cell_at h 0 _ rfl; rwa [Nat.add_zero] at this, cell_at h 1 _ rfl, cell_at h 2 _ rfl, cell_at h 3 _ rfl⟩
theorem size72 : (Tryz.prog.info? 66).map (·.size) = some 4 := by kernel_rfl
theorem below_rp {w0 w w' : World} {g : Nat} (h : Below w0.heap.size w0 w) (hg : w.grownBy w' (some g)) (hB : w0.heap.size ≤ g) : Below w0.heap.size w0 w' :=
 ⟨hg.os.trans h.os, hg.tape.trans h.tape, hg.output.trans h.output, Nat.le_trans h.size hg.size, fun i hi => (hg.block i (Nat.lt_of_lt_of_le hi h.size) (by intro e; injection e with e; omega)).trans (h.block i hi)⟩
theorem sign_put {w : World} {A : Nat} {k p : Int} {t : ByteArray} {n : Int} {u0 u1 u2 u3 : Value} (h : Bk w A 66 #[u0, u1, u2, u3]) :
  Bk ((((w.setCell ⟨A, 0, none⟩ (.int .i64 k)).setCell ⟨A, 1, none⟩ (.int .i64 p)).setCell ⟨A, 2, none⟩ (.string t)).setCell ⟨A, 3, none⟩ (.int .i64 n)) A 66 #[.int .i64 k, .int .i64 p, .string t, .int .i64 n] ∧
  w.grownBy ((((w.setCell ⟨A, 0, none⟩ (.int .i64 k)).setCell ⟨A, 1, none⟩ (.int .i64 p)).setCell ⟨A, 2, none⟩ (.string t)).setCell ⟨A, 3, none⟩ (.int .i64 n)) (some A) :=
 ⟨(((h.set_ 0 _).set_ 1 _).set_ 2 _).set_ 3 _, grownBy_tr (grownBy_tr (grownBy_tr (grownBy_setC _ ⟨A, 0, none⟩ _) (grownBy_setC _ ⟨A, 1, none⟩ _)) (grownBy_setC _ ⟨A, 2, none⟩ _)) (grownBy_setC _ ⟨A, 3, none⟩ _)⟩
theorem now_any {rb sb cap : Nat} {l : List Tx.Sg} {k : Nat} {o b a e : Int} (w : World) (h : RS w rb sb cap l k o b a e) :
  Calls Tryz.prog 26 #[.pointer (some ⟨rb, 0, none⟩)] w fun en w' => en = .returned (.agg #[.int .i64 (rsg l k).kind, .int .i64 (rsg l k).pos, .string (rsg l k).text, .int .i64 (rsg l k).num]) ∧ Below w.heap.size w w' := by
 obtain ⟨wA, hwA⟩ : ∃ wA : World, wA = w.alloc (.cells #[.int .i64 0, .int .i64 0, .string ByteArray.empty, .int .i64 0] 66) := ⟨_, rfl⟩
 have HBA : Hid (Below w.heap.size w wA) := hdn (by rw [hwA]; exact (Below.refl _ _).alloc (Nat.le_refl _) _)
 have HKA : Hid (Bk wA w.heap.size 66 #[.int .i64 0, .int .i64 0, .string ByteArray.empty, .int .i64 0]) := hdn (by rw [hwA]; exact heap_alloc_new _ _)
 have h1 := h.below HBA.out
 have c0 : wA.drew.cell? ⟨rb, 0, none⟩ = some (.slice (some ⟨sb, 0, none⟩) l.length cap) := h1.blk.cell 0
 have c1 : wA.drew.cell? ⟨rb, 1, none⟩ = some (.int .i64 k) := h1.blk.cell 1
 obtain ⟨j, hj⟩ : ∃ j, j = min k (l.length - 1) := ⟨_, rfl⟩
 obtain ⟨s0, s1, s2, s3⟩ := sign_at (w := wA.drew) (h1.row _ _ (rsg_mem k h.pos))
 rw [← hj] at s0 s1 s2 s3
 have hl := h.len; have hp := h.pos; have hkb := h.kb
 have hmin : min (k : Int) ((l.length : Int) - 1) = (j : Int) := by omega
 have hj0 : (0 : Int) ≤ (j : Int) := Int.natCast_nonneg _
 have hj1 : (j : Int) < (l.length : Int) := by omega
 have hk0 : (0 : Int) ≤ (k : Int) := Int.natCast_nonneg _
 have hk1 : (k : Int) ≤ 1000000 := by omega
 have hl1 : (l.length : Int) ≤ 70000 := by omega
 have hl0 : (1 : Int) ≤ (l.length : Int) := by omega
 have hA0 : wA.drew.cell? ⟨w.heap.size, 0, none⟩ = some (.int .i64 0) := HKA.out.cell 0
 have hA1 : wA.drew.cell? ⟨w.heap.size, 1, none⟩ = some (.int .i64 0) := HKA.out.cell 1
 have hA2 : wA.drew.cell? ⟨w.heap.size, 2, none⟩ = some (.string ByteArray.empty) := HKA.out.cell 2
 have hA3 : wA.drew.cell? ⟨w.heap.size, 3, none⟩ = some (.int .i64 0) := HKA.out.cell 3
 have f0 : wA.drew.frozen? ⟨w.heap.size, 0, none⟩ = false := HKA.out.frozen 0
 have f1 : wA.drew.frozen? ⟨w.heap.size, 1, none⟩ = false := HKA.out.frozen 1
 have f2 : wA.drew.frozen? ⟨w.heap.size, 2, none⟩ = false := HKA.out.frozen 2
 have f3 : wA.drew.frozen? ⟨w.heap.size, 3, none⟩ = false := HKA.out.frozen 3
 have gA0 : wA.cell? ⟨w.heap.size, 0, none⟩ = some (.int .i64 0) := HKA.out.cell 0
 have g0 : wA.frozen? ⟨w.heap.size, 0, none⟩ = false := HKA.out.frozen 0
 have gA1 : wA.cell? ⟨w.heap.size, 1, none⟩ = some (.int .i64 0) := HKA.out.cell 1
 have g1 : wA.frozen? ⟨w.heap.size, 1, none⟩ = false := HKA.out.frozen 1
 have gA2 : wA.cell? ⟨w.heap.size, 2, none⟩ = some (.string ByteArray.empty) := HKA.out.cell 2
 have g2 : wA.frozen? ⟨w.heap.size, 2, none⟩ = false := HKA.out.frozen 2
 have gA3 : wA.cell? ⟨w.heap.size, 3, none⟩ = some (.int .i64 0) := HKA.out.cell 3
 have g3 : wA.frozen? ⟨w.heap.size, 3, none⟩ = false := HKA.out.frozen 3
 generalize rsg l k = x at *
 clear h h1 hj
 go_enter Tryz.func26, Tryz.ntmps26
 go_upto_region 1 with fail
 rw [show w.alloc (.cells #[.int .i64 0, .int .i64 0, .string ⟨#[]⟩, .int .i64 0] 66) = wA from hwA.symm]
 clear hwA
 obtain ⟨A, hA⟩ : ∃ A, A = w.heap.size := ⟨_, rfl⟩
 rw [← hA] at HKA hA0 hA1 hA2 hA3 f0 f1 f2 f3 gA0 gA1 gA2 gA3 g0 g1 g2 g3 ⊢
 have HA := hdn hA
 clear hA
 have hB := hdn (sign_put (k := x.kind) (p := x.pos) (t := x.text) (n := x.num) HKA.out)
 go_region
 generalize ((((wA.setCell ⟨A, 0, none⟩ (.int .i64 x.kind)).setCell ⟨A, 1, none⟩ (.int .i64 x.pos)).setCell ⟨A, 2, none⟩ (.string x.text)).setCell ⟨A, 3, none⟩ (.int .i64 x.num)) = wZ at hB ⊢
 go_wp2_with fail
 exact bodyPost_ret (results_cell_row Tryz.results26 _ _ A 66 #[.int .i64 x.kind, .int .i64 x.pos, .string x.text, .int .i64 x.num] (0, 0) _ rfl hB.out.1 Tryz.underlying66 rfl size72) rfl ⟨rfl, below_drew (below_rp HBA.out hB.out.2 (by rw [HA.out]; exact Nat.le_refl _))⟩
theorem later_any {rb sb cap : Nat} {l : List Tx.Sg} {k : Nat} {o b a e : Int} (w : World) (h : RS w rb sb cap l k o b a e) :
  Calls Tryz.prog 44 #[.pointer (some ⟨rb, 0, none⟩)] w fun en w' => en = .returned (.agg #[.int .i64 (rsg l (k + 1)).kind, .int .i64 (rsg l (k + 1)).pos, .string (rsg l (k + 1)).text, .int .i64 (rsg l (k + 1)).num]) ∧ Below w.heap.size w w' := by
 obtain ⟨wA, hwA⟩ : ∃ wA : World, wA = w.alloc (.cells #[.int .i64 0, .int .i64 0, .string ByteArray.empty, .int .i64 0] 66) := ⟨_, rfl⟩
 have HBA : Hid (Below w.heap.size w wA) := hdn (by rw [hwA]; exact (Below.refl _ _).alloc (Nat.le_refl _) _)
 have HKA : Hid (Bk wA w.heap.size 66 #[.int .i64 0, .int .i64 0, .string ByteArray.empty, .int .i64 0]) := hdn (by rw [hwA]; exact heap_alloc_new _ _)
 have h1 := h.below HBA.out
 have c0 : wA.drew.cell? ⟨rb, 0, none⟩ = some (.slice (some ⟨sb, 0, none⟩) l.length cap) := h1.blk.cell 0
 have c1 : wA.drew.cell? ⟨rb, 1, none⟩ = some (.int .i64 k) := h1.blk.cell 1
 obtain ⟨j, hj⟩ : ∃ j, j = min (k + 1) (l.length - 1) := ⟨_, rfl⟩
 obtain ⟨s0, s1, s2, s3⟩ := sign_at (w := wA.drew) (h1.row _ _ (rsg_mem (k + 1) h.pos))
 rw [← hj] at s0 s1 s2 s3
 have hl := h.len; have hp := h.pos; have hkb := h.kb
 have hmin : min ((k : Int) + 1) ((l.length : Int) - 1) = (j : Int) := by omega
 have hj0 : (0 : Int) ≤ (j : Int) := Int.natCast_nonneg _
 have hj1 : (j : Int) < (l.length : Int) := by omega
 have hk0 : (0 : Int) ≤ (k : Int) := Int.natCast_nonneg _
 have hk1 : (k : Int) ≤ 1000000 := by omega
 have hl1 : (l.length : Int) ≤ 70000 := by omega
 have hl0 : (1 : Int) ≤ (l.length : Int) := by omega
 have hA0 : wA.drew.cell? ⟨w.heap.size, 0, none⟩ = some (.int .i64 0) := HKA.out.cell 0
 have hA1 : wA.drew.cell? ⟨w.heap.size, 1, none⟩ = some (.int .i64 0) := HKA.out.cell 1
 have hA2 : wA.drew.cell? ⟨w.heap.size, 2, none⟩ = some (.string ByteArray.empty) := HKA.out.cell 2
 have hA3 : wA.drew.cell? ⟨w.heap.size, 3, none⟩ = some (.int .i64 0) := HKA.out.cell 3
 have f0 : wA.drew.frozen? ⟨w.heap.size, 0, none⟩ = false := HKA.out.frozen 0
 have f1 : wA.drew.frozen? ⟨w.heap.size, 1, none⟩ = false := HKA.out.frozen 1
 have f2 : wA.drew.frozen? ⟨w.heap.size, 2, none⟩ = false := HKA.out.frozen 2
 have f3 : wA.drew.frozen? ⟨w.heap.size, 3, none⟩ = false := HKA.out.frozen 3
 have gA0 : wA.cell? ⟨w.heap.size, 0, none⟩ = some (.int .i64 0) := HKA.out.cell 0
 have g0 : wA.frozen? ⟨w.heap.size, 0, none⟩ = false := HKA.out.frozen 0
 have gA1 : wA.cell? ⟨w.heap.size, 1, none⟩ = some (.int .i64 0) := HKA.out.cell 1
 have g1 : wA.frozen? ⟨w.heap.size, 1, none⟩ = false := HKA.out.frozen 1
 have gA2 : wA.cell? ⟨w.heap.size, 2, none⟩ = some (.string ByteArray.empty) := HKA.out.cell 2
 have g2 : wA.frozen? ⟨w.heap.size, 2, none⟩ = false := HKA.out.frozen 2
 have gA3 : wA.cell? ⟨w.heap.size, 3, none⟩ = some (.int .i64 0) := HKA.out.cell 3
 have g3 : wA.frozen? ⟨w.heap.size, 3, none⟩ = false := HKA.out.frozen 3
 generalize rsg l (k + 1) = x at *
 clear h h1 hj
 go_enter Tryz.func44, Tryz.ntmps44
 go_upto_region 1 with fail
 rw [show w.alloc (.cells #[.int .i64 0, .int .i64 0, .string ⟨#[]⟩, .int .i64 0] 66) = wA from hwA.symm]
 clear hwA
 obtain ⟨A, hA⟩ : ∃ A, A = w.heap.size := ⟨_, rfl⟩
 rw [← hA] at HKA hA0 hA1 hA2 hA3 f0 f1 f2 f3 gA0 gA1 gA2 gA3 g0 g1 g2 g3 ⊢
 have HA := hdn hA
 clear hA
 have hB := hdn (sign_put (k := x.kind) (p := x.pos) (t := x.text) (n := x.num) HKA.out)
 go_region
 generalize ((((wA.setCell ⟨A, 0, none⟩ (.int .i64 x.kind)).setCell ⟨A, 1, none⟩ (.int .i64 x.pos)).setCell ⟨A, 2, none⟩ (.string x.text)).setCell ⟨A, 3, none⟩ (.int .i64 x.num)) = wZ at hB ⊢
 go_wp2_with fail
 exact bodyPost_ret (results_cell_row Tryz.results44 _ _ A 66 #[.int .i64 x.kind, .int .i64 x.pos, .string x.text, .int .i64 x.num] (0, 0) _ rfl hB.out.1 Tryz.underlying66 rfl size72) rfl ⟨rfl, below_drew (below_rp HBA.out hB.out.2 (by rw [HA.out]; exact Nat.le_refl _))⟩
end Go.Proofs.YtmhpaacjioeknaaGreat
namespace Go.Proofs.YtmhpaacjioeknaaGreat
open Go.RowKit Go.Sort
/-- Is this text next (where nothing is wrong)? -/
def isNx (l : List Tx.Sg) (k : Nat) (s : ByteArray) : Bool := (rsg l k).text.toList == s.toList
theorem isNx_pr {l : List Tx.Sg} {k : Nat} (h : k < l.length) (s : ByteArray) : isNx l k s = Pr.is (Pa.ts l) k s := by
 unfold isNx Pr.is
 rw [rsg_lt h, ← Pa.sg_tk]; rfl
theorem rsg_kind {l : List Tx.Sg} (hk : Pa.Gk l) (k : Nat) (h : 0 < l.length) : Pa.KindOk (rsg l k).kind (rsg l k).text.data.toList := hk _ (List.mem_of_getElem? (rsg_mem k h))
theorem isNx_kind {l : List Tx.Sg} {k : Nat} {s : ByteArray} (hk : Pa.Gk l) (h : 0 < l.length) (hs : Pa.lit s.data.toList = true) (hi : isNx l k s = true) : (rsg l k).kind = 3 ∨ (rsg l k).kind = 4 := by
 unfold isNx at hi
 rw [beq_iff_eq, Lib.toList_data, Lib.toList_data] at hi
 exact Pa.kind_lit (rsg_kind hk k h) (by rw [hi]; exact hs)
theorem is_any {rb sb cap : Nat} {l : List Tx.Sg} {k : Nat} {o b a e : Int} (s : ByteArray) (w : World) (h : RS w rb sb cap l k o b a e) (hk : Pa.Gk l) (hs : Pa.lit s.data.toList = true) :
  Calls Tryz.prog 42 #[.pointer (some ⟨rb, 0, none⟩), .string s] w fun en w' => en = .returned (.bool (decide (e = 0) && isNx l k s)) ∧ Below w.heap.size w w' := by
 have CN := now_any w h
 have HKD : Hid (isNx l k s = true → (rsg l k).kind = 3 ∨ (rsg l k).kind = 4) := hdn (isNx_kind hk h.pos hs)
 obtain ⟨bo, hbo⟩ : ∃ bo, bo = isNx l k s := ⟨_, rfl⟩
 rw [← hbo] at HKD ⊢
 have HBO : Hid (((rsg l k).text.toList == s.toList) = bo) := hdn hbo.symm
 have HRS := hdn h
 clear hbo h
 generalize rsg l k = x at *
 go_enter Tryz.func42, Tryz.ntmps42
 go_upto_region 2 with (go_at_call 26; refine CN.mono ?_; rintro en w1 ⟨rfl, hb⟩; have HB1 := hdn hb; clear hb)
 have hm : Below w1.heap.size w1 (w1.alloc (.cells #[.int .i64 x.kind, .int .i64 x.pos, .string x.text, .int .i64 x.num] 66)) := (Below.refl _ _).alloc (Nat.le_refl _) _
 have HF : Hid (Bk (w1.alloc (.cells #[.int .i64 x.kind, .int .i64 x.pos, .string x.text, .int .i64 x.num] 66)) w1.heap.size 66 #[.int .i64 x.kind, .int .i64 x.pos, .string x.text, .int .i64 x.num]) := hdn (heap_alloc_new _ _)
 have HB2 := hdn (HB1.out.trans (hm.mono HB1.out.size))
 have HR2 := hdn (HRS.out.below HB2.out)
 generalize w1.alloc (.cells #[.int .i64 x.kind, .int .i64 x.pos, .string x.text, .int .i64 x.num] 66) = w2 at HF HB2 HR2 ⊢
 have c5 : w2.cell? ⟨rb, 5, none⟩ = some (.int .i64 e) := HR2.out.blk.cell 5
 have t0 : w2.cell? ⟨w1.heap.size, 0, none⟩ = some (.int .i64 x.kind) := HF.out.cell 0
 have t2 : w2.cell? ⟨w1.heap.size, 2, none⟩ = some (.string x.text) := HF.out.cell 2
 clear CN hm
 by_cases he : e = 0
 ·subst he
  have q1 := HBO.out
  cases bo with
  | false =>
   by_cases k3 : x.kind = 3
   ·go_wp2_with fail
    go_ret
    exact ⟨rfl, HB2.out⟩
   ·have k3' : (x.kind == 3) = false := by rw [beq_eq_false_iff_ne]; exact k3
    by_cases k4 : x.kind = 4
    ·go_wp2_with fail
     go_ret
     exact ⟨rfl, HB2.out⟩
    ·have k4' : (x.kind == 4) = false := by rw [beq_eq_false_iff_ne]; exact k4
     go_wp2_with fail
     go_ret
     exact ⟨rfl, HB2.out⟩
  | true =>
   rcases HKD.out rfl with k3 | k4
   ·go_wp2_with fail
    go_ret
    exact ⟨rfl, HB2.out⟩
   ·go_wp2_with fail
    go_ret
    exact ⟨rfl, HB2.out⟩
 ·have he' : (e == 0) = false := by rw [beq_eq_false_iff_ne]; exact he
  have hd : decide (e = 0) = false := decide_eq_false he
  have HDE := hdn hd
  clear he hd
  go_wp2_with fail
  go_ret
  exact ⟨ret_bool (by rw [HDE.out]; rfl), HB2.out⟩
theorem RS.go {w : World} {rb sb cap : Nat} {l : List Tx.Sg} {k : Nat} {o b a e : Int} (h : RS w rb sb cap l k o b a e) (hk : k < 1000000) : RS (w.setCell ⟨rb, 1, none⟩ (.int .i64 ((k : Int) + 1))) rb sb cap l (k + 1) o b a e :=
 ⟨by have := h.blk.set_ 1 (.int .i64 ((k : Int) + 1)); simpa using this, fun j x hx => range_grown (h.row j x hx) (grownBy_setC w ⟨rb, 1, none⟩ _) h.ne, h.ne, h.pos, h.len, by omega⟩
theorem take_yes {rb sb cap : Nat} {l : List Tx.Sg} {k : Nat} {o b a : Int} (s : ByteArray) (w : World) (h : RS w rb sb cap l k o b a 0) (hk : Pa.Gk l) (hs : Pa.lit s.data.toList = true) (hi : isNx l k s = true) (hk1 : k < 1000000) :
  Calls Tryz.prog 27 #[.pointer (some ⟨rb, 0, none⟩), .string s] w fun en w' => en = .returned (.bool true) ∧ RS w' rb sb cap l (k + 1) o b a 0 ∧ w.grownBy w' (some rb) := by
 have CI := is_any s w h hk hs
 rw [hi] at CI
 have HRS := hdn h
 have hk0 : (0 : Int) ≤ (k : Int) := Int.natCast_nonneg _
 have hk2 : (k : Int) < 1000000 := by omega
 clear h hi
 go_enter Tryz.func27, Tryz.ntmps27
 go_wp2_with (go_at_call 42; refine CI.mono ?_; rintro en w1 ⟨rfl, hb⟩; have HR1 := hdn (HRS.out.below hb); have HB1 := hdn hb; have c1 : w1.cell? ⟨rb, 1, none⟩ = some (.int .i64 k) := HR1.out.blk.cell 1; have f1 := HR1.out.blk.frozen 1; clear hb)
 go_ret
 exact ⟨rfl, HR1.out.go hk1, grownBy_above HB1.out (grownBy_setC w1 ⟨rb, 1, none⟩ _)⟩
theorem take_no {rb sb cap : Nat} {l : List Tx.Sg} {k : Nat} {o b a e : Int} (s : ByteArray) (w : World) (h : RS w rb sb cap l k o b a e) (hk : Pa.Gk l) (hs : Pa.lit s.data.toList = true) (hi : (decide (e = 0) && isNx l k s) = false) :
  Calls Tryz.prog 27 #[.pointer (some ⟨rb, 0, none⟩), .string s] w fun en w' => en = .returned (.bool false) ∧ Below w.heap.size w w' := by
 have CI := is_any s w h hk hs
 rw [hi] at CI
 clear h hi
 go_enter Tryz.func27, Tryz.ntmps27
 go_wp2_with (go_at_call 42; refine CI.mono ?_; rintro en w1 ⟨rfl, hb⟩; have HB1 := hdn hb; clear hb)
 go_ret
 exact ⟨rfl, HB1.out⟩
theorem RS.stop {w : World} {rb sb cap : Nat} {l : List Tx.Sg} {k : Nat} {o b a e : Int} (h : RS w rb sb cap l k o b a e) (p n : Int) : RS ((w.setCell ⟨rb, 4, none⟩ (.int .i64 p)).setCell ⟨rb, 5, none⟩ (.int .i64 n)) rb sb cap l k o b p n :=
 ⟨by have := (h.blk.set_ 4 (.int .i64 p)).set_ 5 (.int .i64 n); simpa using this,
 fun j x hx => range_grown (range_grown (h.row j x hx) (grownBy_setC w ⟨rb, 4, none⟩ _) h.ne) (grownBy_setC _ ⟨rb, 5, none⟩ _) h.ne, h.ne, h.pos, h.len, h.kb⟩
theorem stop_one {rb sb cap : Nat} {l : List Tx.Sg} {k : Nat} {o b a : Int} (p n : Int) (w : World) (h : RS w rb sb cap l k o b a 0) :
  Calls Tryz.prog 46 #[.pointer (some ⟨rb, 0, none⟩), .int .i64 p, .int .i64 n] w fun en w' => en = .returned (.tuple #[]) ∧ RS w' rb sb cap l k o b p n ∧ w.grownBy w' (some rb) := by
 have c5 : w.cell? ⟨rb, 5, none⟩ = some (.int .i64 0) := h.blk.cell 5
 have c4 : w.cell? ⟨rb, 4, none⟩ = some (.int .i64 a) := h.blk.cell 4
 have f4 := h.blk.frozen 4
 have f5 := h.blk.frozen 5
 have HRS := hdn h
 clear h
 go_enter Tryz.func46, Tryz.ntmps46
 go_wp2_with fail
 go_end0
 exact ⟨rfl, HRS.out.stop p n, grownBy_tr (grownBy_setC w ⟨rb, 4, none⟩ _) (grownBy_setC _ ⟨rb, 5, none⟩ _)⟩
theorem stop_err {rb sb cap : Nat} {l : List Tx.Sg} {k : Nat} {o b a e : Int} (p n : Int) (w : World) (h : RS w rb sb cap l k o b a e) (he : e ≠ 0) :
  Calls Tryz.prog 46 #[.pointer (some ⟨rb, 0, none⟩), .int .i64 p, .int .i64 n] w fun en w' => en = .returned (.tuple #[]) ∧ w = w' := by
 have c5 : w.cell? ⟨rb, 5, none⟩ = some (.int .i64 e) := h.blk.cell 5
 have he' : (e == 0) = false := by rw [beq_eq_false_iff_ne]; exact he
 clear h he
 go_enter Tryz.func46, Tryz.ntmps46
 go_wp2_with fail
 go_end0
 exact ⟨rfl, rfl⟩
end Go.Proofs.YtmhpaacjioeknaaGreat
namespace Go.Proofs.YtmhpaacjioeknaaGreat
open Go.RowKit Go.Sort
theorem field72_0 (k : Int) (b c d : Value) (w : World) : (Instr.field 66 (.agg #[.int .i64 k, b, c, d]) 0).run Tryz.prog w = .ok (.int .i64 k) w := by kernel_rfl
theorem field72_1 (k : Int) (a c d : Value) (w : World) : (Instr.field 66 (.agg #[a, .int .i64 k, c, d]) 1).run Tryz.prog w = .ok (.int .i64 k) w := by kernel_rfl
theorem field72_2 (s : ByteArray) (a b d : Value) (w : World) : (Instr.field 66 (.agg #[a, b, .string s, d]) 2).run Tryz.prog w = .ok (.string s) w := by kernel_rfl
theorem field72_3 (k : Int) (a b c : Value) (w : World) : (Instr.field 66 (.agg #[a, b, c, .int .i64 k]) 3).run Tryz.prog w = .ok (.int .i64 k) w := by kernel_rfl
attribute [local go_sem] field72_0 field72_1 field72_2 field72_3
section
variable {rb sb cap : Nat} {l : List Tx.Sg} {k : Nat} {o b a : Int}
theorem want_yes (s : ByteArray) (w : World) (h : RS w rb sb cap l k o b a 0) (hk : Pa.Gk l) (hs : Pa.lit s.data.toList = true) (hi : isNx l k s = true) (hk1 : k < 1000000) :
  Calls Tryz.prog 31 #[.pointer (some ⟨rb, 0, none⟩), .string s] w fun en w' => en = .returned (.tuple #[]) ∧ RS w' rb sb cap l (k + 1) o b a 0 ∧ w.grownBy w' (some rb) := by
 have CT := take_yes s w h hk hs hi hk1
 clear h hi
 go_enter Tryz.func31, Tryz.ntmps31
 go_wp2_with (go_at_call 27; refine CT.mono ?_; rintro en w1 ⟨rfl, h1, hg⟩; have HR1 := hdn h1; have HG1 := hdn hg; clear h1 hg)
 go_end0
 exact ⟨rfl, HR1.out, HG1.out⟩
theorem want_no (s : ByteArray) (w : World) (h : RS w rb sb cap l k o b a 0) (hk : Pa.Gk l) (hs : Pa.lit s.data.toList = true) (hi : isNx l k s = false) :
  Calls Tryz.prog 31 #[.pointer (some ⟨rb, 0, none⟩), .string s] w fun en w' => en = .returned (.tuple #[]) ∧ RS w' rb sb cap l k o b (rsg l k).pos 5 ∧ w.grownBy w' (some rb) := by
 have CT := take_no s w h hk hs (by rw [hi]; rfl)
 have HRS := hdn h
 have CN : Hid (∀ w', RS w' rb sb cap l k o b a 0 → Calls Tryz.prog 26 #[.pointer (some ⟨rb, 0, none⟩)] w' fun en w'' => en = .returned (.agg #[.int .i64 (rsg l k).kind, .int .i64 (rsg l k).pos, .string (rsg l k).text, .int .i64 (rsg l k).num]) ∧ Below w'.heap.size w' w'') := hdn (fun w' h' => now_any w' h')
 have CS : Hid (∀ w', RS w' rb sb cap l k o b a 0 → Calls Tryz.prog 46 #[.pointer (some ⟨rb, 0, none⟩), .int .i64 (rsg l k).pos, .int .i64 5] w' fun en w'' => en = .returned (.tuple #[]) ∧ RS w'' rb sb cap l k o b (rsg l k).pos 5 ∧ w'.grownBy w'' (some rb)) := hdn (fun w' h' => stop_one _ 5 w' h')
 generalize rsg l k = x at *
 clear h hi
 go_enter Tryz.func31, Tryz.ntmps31
 go_wp2_with (first | (go_at_call 27; refine CT.mono ?_; rintro en w1 ⟨rfl, hb⟩; have HR1 := hdn (HRS.out.below hb); have HB1 := hdn hb; clear hb) | (go_at_call 26; refine (CN.out _ HR1.out).mono ?_; rintro en w2 ⟨rfl, hb⟩; have HR2 := hdn (HR1.out.below hb); have HB2 := hdn (HB1.out.trans (hb.mono HB1.out.size)); clear hb) | (go_at_call 46; refine (CS.out _ HR2.out).mono ?_; rintro en w3 ⟨rfl, h3, hg⟩; have HR3 := hdn h3; have HG3 := hdn (grownBy_above HB2.out hg); clear h3 hg))
 go_end0
 exact ⟨rfl, HR3.out, HG3.out⟩
theorem want_err {e : Int} (s : ByteArray) (w : World) (h : RS w rb sb cap l k o b a e) (hk : Pa.Gk l) (hs : Pa.lit s.data.toList = true) (he : e ≠ 0) :
  Calls Tryz.prog 31 #[.pointer (some ⟨rb, 0, none⟩), .string s] w fun en w' => en = .returned (.tuple #[]) ∧ Below w.heap.size w w' := by
 have CT := take_no s w h hk hs (by rw [decide_eq_false he]; rfl)
 have HRS := hdn h
 have CN : Hid (∀ w', RS w' rb sb cap l k o b a e → Calls Tryz.prog 26 #[.pointer (some ⟨rb, 0, none⟩)] w' fun en w'' => en = .returned (.agg #[.int .i64 (rsg l k).kind, .int .i64 (rsg l k).pos, .string (rsg l k).text, .int .i64 (rsg l k).num]) ∧ Below w'.heap.size w' w'') := hdn (fun w' h' => now_any w' h')
 have CS : Hid (∀ w', RS w' rb sb cap l k o b a e → Calls Tryz.prog 46 #[.pointer (some ⟨rb, 0, none⟩), .int .i64 (rsg l k).pos, .int .i64 5] w' fun en w'' => en = .returned (.tuple #[]) ∧ w' = w'') := hdn (fun w' h' => stop_err _ 5 w' h' he)
 generalize rsg l k = x at *
 clear h he
 go_enter Tryz.func31, Tryz.ntmps31
 go_wp2_with (first | (go_at_call 27; refine CT.mono ?_; rintro en w1 ⟨rfl, hb⟩; have HR1 := hdn (HRS.out.below hb); have HB1 := hdn hb; clear hb) | (go_at_call 26; refine (CN.out _ HR1.out).mono ?_; rintro en w2 ⟨rfl, hb⟩; have HR2 := hdn (HR1.out.below hb); have HB2 := hdn (HB1.out.trans (hb.mono HB1.out.size)); clear hb) | (go_at_call 46; refine (CS.out _ HR2.out).mono ?_; rintro en w3 ⟨rfl, rfl⟩))
 go_end0
 exact ⟨rfl, HB2.out⟩
/-- What a name comes to. -/
def RName (w : World) (rb sb cap : Nat) (l : List Tx.Sg) (k : Nat) (o b a e : Int) (en : Ending) (w' : World) : Prop :=
 w.grownBy w' (some rb) ∧
 if e = 0 ∧ (rsg l k).kind = 1 then en = .returned (.tuple #[.string (rsg l k).text, .int .i64 (rsg l k).pos]) ∧ RS w' rb sb cap l (k + 1) o b a 0
 else en = .returned (.tuple #[.string ByteArray.empty, .int .i64 0]) ∧ ∃ a' e' : Int, e' ≠ 0 ∧ RS w' rb sb cap l k o b a' e'
theorem rname_any {e : Int} (w : World) (h : RS w rb sb cap l k o b a e) (hk1 : k < 1000000) :
  Calls Tryz.prog 43 #[.pointer (some ⟨rb, 0, none⟩)] w (RName w rb sb cap l k o b a e) := by
 have CN := now_any w h
 have HRS := hdn h
 have CS : Hid (∀ w', RS w' rb sb cap l k o b a 0 → Calls Tryz.prog 46 #[.pointer (some ⟨rb, 0, none⟩), .int .i64 (rsg l k).pos, .int .i64 5] w' fun en w'' => en = .returned (.tuple #[]) ∧ RS w'' rb sb cap l k o b (rsg l k).pos 5 ∧ w'.grownBy w'' (some rb)) := hdn (fun w' h' => stop_one _ 5 w' h')
 have CE : Hid (∀ w', e ≠ 0 → RS w' rb sb cap l k o b a e → Calls Tryz.prog 46 #[.pointer (some ⟨rb, 0, none⟩), .int .i64 (rsg l k).pos, .int .i64 5] w' fun en w'' => en = .returned (.tuple #[]) ∧ w' = w'') := hdn (fun w' he h' => stop_err _ 5 w' h' he)
 have hk0 : (0 : Int) ≤ (k : Int) := Int.natCast_nonneg _
 have hk2 : (k : Int) < 1000000 := by omega
 obtain ⟨Q, hQ⟩ : ∃ Q, Q = RName w rb sb cap l k o b a e := ⟨_, rfl⟩
 have HQ := hdn hQ
 rw [← hQ]
 clear hQ
 unfold RName at HQ
 generalize rsg l k = x at *
 clear h
 go_enter Tryz.func43, Tryz.ntmps43
 go_upto_region 2 with (go_at_call 26; refine CN.mono ?_; rintro en w1 ⟨rfl, hb⟩; have HB1 := hdn hb; clear hb)
 have hm : Below w1.heap.size w1 (w1.alloc (.cells #[.int .i64 x.kind, .int .i64 x.pos, .string x.text, .int .i64 x.num] 66)) := (Below.refl _ _).alloc (Nat.le_refl _) _
 have HF : Hid (Bk (w1.alloc (.cells #[.int .i64 x.kind, .int .i64 x.pos, .string x.text, .int .i64 x.num] 66)) w1.heap.size 66 #[.int .i64 x.kind, .int .i64 x.pos, .string x.text, .int .i64 x.num]) := hdn (heap_alloc_new _ _)
 have HB2 := hdn (HB1.out.trans (hm.mono HB1.out.size))
 have HR2 := hdn (HRS.out.below HB2.out)
 have HNE : Hid (w1.heap.size ≠ rb) := hdn (by have := HRS.out.rb_lt; have := HB1.out.size; omega)
 generalize w1.alloc (.cells #[.int .i64 x.kind, .int .i64 x.pos, .string x.text, .int .i64 x.num] 66) = w2 at HF HB2 HR2 ⊢
 generalize w1.heap.size = F at *
 have t0 : w2.cell? ⟨F, 0, none⟩ = some (.int .i64 x.kind) := HF.out.cell 0
 have t1 : w2.cell? ⟨F, 1, none⟩ = some (.int .i64 x.pos) := HF.out.cell 1
 clear CN hm
 by_cases k1 : x.kind = 1
 ·by_cases he : e = 0
  ·subst he
   have c5 : w2.cell? ⟨rb, 5, none⟩ = some (.int .i64 0) := HR2.out.blk.cell 5
   have c1 : w2.cell? ⟨rb, 1, none⟩ = some (.int .i64 k) := HR2.out.blk.cell 1
   have f1 := HR2.out.blk.frozen 1
   have HK1 := hdn k1
   have hg := grownBy_setC w2 ⟨rb, 1, none⟩ (.int .i64 ((k : Int) + 1))
   have HR3 := hdn (HR2.out.go hk1)
   have HF3 := hdn (HF.out.kept hg HNE.out)
   have HG3 := hdn (grownBy_above HB2.out hg)
   clear hg
   go_upto_region 7 with fail
   clear t0 t1 c5 c1 f1 k1
   generalize w2.setCell ⟨rb, 1, none⟩ (.int .i64 ((k : Int) + 1)) = w3 at HR3 HF3 HG3 ⊢
   have t2 : w3.cell? ⟨F, 2, none⟩ = some (.string x.text) := HF3.out.cell 2
   have t1 : w3.cell? ⟨F, 1, none⟩ = some (.int .i64 x.pos) := HF3.out.cell 1
   go_quiet (fail)
   have HR4 := hdn (HR3.out.below (below_drewN_ (Below.refl _ _) nq))
   have HG4 := hdn (grownBy_below HG3.out (below_drewN_ (Below.refl _ _) nq))
   generalize w3.drewN nq = w4 at HR4 HG4 ⊢
   go_wp2_with fail
   rw [HQ.out]
   refine ⟨HG4.out, ?_⟩
   rw [if_pos ⟨by first | rfl | trivial, HK1.out⟩]
   exact ⟨rfl, HR4.out⟩
  ·have c5 : w2.cell? ⟨rb, 5, none⟩ = some (.int .i64 e) := HR2.out.blk.cell 5
   have he' : (e != 0) = true := by rw [bne_iff_ne]; exact he
   have HE := hdn he
   clear he
   go_wp2_with fail
   rw [HQ.out]
   refine ⟨grownBy_of HB2.out _, ?_⟩
   rw [if_neg (fun hh => HE.out hh.1)]
   exact ⟨by first | rfl | trivial, a, e, HE.out, HR2.out⟩
 ·have k1' : (x.kind != 1) = true := by rw [bne_iff_ne]; exact k1
  have HK1 := hdn k1
  clear k1
  by_cases he : e = 0
  ·subst he
   go_upto_region 4 with (go_at_call 46; refine (CS.out _ HR2.out).mono ?_; rintro en w3 ⟨rfl, h3, hg⟩; have HR3 := hdn h3; have HG3 := hdn (grownBy_above HB2.out hg); clear h3 hg)
   have c5 : w3.cell? ⟨rb, 5, none⟩ = some (.int .i64 5) := HR3.out.blk.cell 5
   go_wp2_with fail
   rw [HQ.out]
   refine ⟨HG3.out, ?_⟩
   rw [if_neg (fun hh => HK1.out hh.2)]
   exact ⟨by first | rfl | trivial, _, 5, by decide, HR3.out⟩
  ·have HE := hdn he
   have c5 : w2.cell? ⟨rb, 5, none⟩ = some (.int .i64 e) := HR2.out.blk.cell 5
   have he' : (e != 0) = true := by rw [bne_iff_ne]; exact he
   clear he
   go_wp2_with (go_at_call 46; refine (CE.out _ HE.out HR2.out).mono ?_; rintro en w3 ⟨rfl, rfl⟩)
   rw [HQ.out]
   refine ⟨grownBy_of HB2.out _, ?_⟩
   rw [if_neg (fun hh => HE.out hh.1)]
   exact ⟨by first | rfl | trivial, a, e, HE.out, HR2.out⟩
end
end Go.Proofs.YtmhpaacjioeknaaGreat
namespace Go.Proofs.YtmhpaacjioeknaaGreat
open Go.RowKit Go.Sort
/-- The reader where something is wrong. -/
def RErr (w : World) (rb sb cap : Nat) (l : List Tx.Sg) (N : Nat) : Prop := ∃ (k : Nat) (o b a e : Int), e ≠ 0 ∧ k ≤ N ∧ RS w rb sb cap l k o b a e
/-- The reader where nothing is wrong. -/
def ROk (w : World) (rb sb cap : Nat) (l : List Tx.Sg) (u : Pr.St) : Prop := RS w rb sb cap l u.i u.o u.b 0 0 ∧ u.i < l.length
/-- What a part of the reader ends in. -/
def RO {α : Type} (K : World → Value → α → Prop) (G : Value → Prop) (w : World) (rb sb cap : Nat) (l : List Tx.Sg) (N : Nat) (r : Pr.Res α) (en : Ending) (w' : World) : Prop :=
 w.grownBy w' (some rb) ∧ ∃ v, en = .returned v ∧ match r with
 | .ok (x, u) => K w' v x ∧ ROk w' rb sb cap l u
 | .error _ => G v ∧ RErr w' rb sb cap l N
theorem RO.ok {α : Type} {K : World → Value → α → Prop} {G : Value → Prop} {w w' : World} {rb sb cap : Nat} {l : List Tx.Sg} {N : Nat} {r : Pr.Res α} {x : α} {u : Pr.St} {v : Value} (hr : r = .ok (x, u)) (hg : w.grownBy w' (some rb)) (hk : K w' v x) (h : ROk w' rb sb cap l u) : RO K G w rb sb cap l N r (.returned v) w' := by
 subst hr; exact ⟨hg, v, rfl, hk, h⟩
theorem RO.err {α : Type} {K : World → Value → α → Prop} {G : Value → Prop} {w w' : World} {rb sb cap : Nat} {l : List Tx.Sg} {N : Nat} {r : Pr.Res α} {n : Int × Nat} {v : Value} (hr : r = .error n) (hg : w.grownBy w' (some rb)) (hv : G v) (h : RErr w' rb sb cap l N) : RO K G w rb sb cap l N r (.returned v) w' := by
 subst hr; exact ⟨hg, v, rfl, hv, h⟩
theorem RErr.below {w w' : World} {rb sb cap : Nat} {l : List Tx.Sg} {N : Nat} (h : RErr w rb sb cap l N) (hb : Below w.heap.size w w') : RErr w' rb sb cap l N := by
 obtain ⟨k, o, b, a, e, he, hk, hr⟩ := h; exact ⟨k, o, b, a, e, he, hk, hr.below hb⟩
theorem ROk.below {w w' : World} {rb sb cap : Nat} {l : List Tx.Sg} {u : Pr.St} (h : ROk w rb sb cap l u) (hb : Below w.heap.size w w') : ROk w' rb sb cap l u := ⟨h.1.below hb, h.2⟩
theorem RS.far {w w' : World} {rb sb cap : Nat} {l : List Tx.Sg} {k : Nat} {o b a e : Int} {R : Nat} (h : RS w rb sb cap l k o b a e) (hg : w.grownBy w' (some R)) (h1 : R ≠ rb) (h2 : R ≠ sb) : RS w' rb sb cap l k o b a e :=
 ⟨h.blk.kept hg (fun e => h1 e.symm), fun j x hx => range_grown (h.row j x hx) hg (fun e => h2 e.symm), h.ne, h.pos, h.len, h.kb⟩
/-- What a term comes to. -/
def RTerm (w : World) (rb sb cap : Nat) (l : List Tx.Sg) (k : Nat) (o b a e : Int) (en : Ending) (w' : World) : Prop :=
 w.grownBy w' (some rb) ∧
 if e = 0 ∧ (rsg l k).kind = 2 then en = .returned (.agg #[.string ByteArray.empty, .int .i64 (rsg l k).num, .int .i64 (rsg l k).pos]) ∧ RS w' rb sb cap l (k + 1) o b a 0
 else if e = 0 ∧ (rsg l k).kind = 1 then en = .returned (.agg #[.string (rsg l k).text, .int .i64 0, .int .i64 (rsg l k).pos]) ∧ RS w' rb sb cap l (k + 1) o b a 0
 else en = .returned (.agg #[.string ByteArray.empty, .int .i64 0, .int .i64 0]) ∧ ∃ a' e' : Int, e' ≠ 0 ∧ RS w' rb sb cap l k o b a' e'
section
variable {rb sb cap : Nat} {l : List Tx.Sg} {k : Nat} {o b a : Int}
theorem rterm_any {e : Int} (w : World) (h : RS w rb sb cap l k o b a e) (hk1 : k < 1000000) :
  Calls Tryz.prog 95 #[.pointer (some ⟨rb, 0, none⟩)] w (RTerm w rb sb cap l k o b a e) := by
 obtain ⟨wA, hwA⟩ : ∃ wA : World, wA = w.alloc (.cells #[.string ByteArray.empty, .int .i64 0, .int .i64 0] 96) := ⟨_, rfl⟩
 have HBA : Hid (Below w.heap.size w wA) := hdn (by rw [hwA]; exact (Below.refl _ _).alloc (Nat.le_refl _) _)
 have HKA : Hid (Bk wA w.heap.size 96 #[.string ByteArray.empty, .int .i64 0, .int .i64 0]) := hdn (by rw [hwA]; exact heap_alloc_new _ _)
 have HRA := hdn (h.below HBA.out)
 have CN := now_any wA HRA.out
 have HNA : Hid (w.heap.size ≠ rb ∧ w.heap.size ≠ sb) := hdn ⟨by have := h.rb_lt; omega, by have := h.sb_lt; omega⟩
 have CM : Hid (∀ w', RS w' rb sb cap l k o b a e → Calls Tryz.prog 43 #[.pointer (some ⟨rb, 0, none⟩)] w' (RName w' rb sb cap l k o b a e)) := hdn (fun w' h' => rname_any w' h' hk1)
 have hk0 : (0 : Int) ≤ (k : Int) := Int.natCast_nonneg _
 have hk2 : (k : Int) < 1000000 := by omega
 obtain ⟨Q, hQ⟩ : ∃ Q, Q = RTerm w rb sb cap l k o b a e := ⟨_, rfl⟩
 have HQ := hdn hQ
 rw [← hQ]
 clear hQ h
 unfold RTerm at HQ
 unfold RName at CM
 generalize rsg l k = x at *
 go_enter Tryz.func95, Tryz.ntmps95
 go_upto_region 1 with fail
 rw [show w.alloc (.cells #[.string ⟨#[]⟩, .int .i64 0, .int .i64 0] 96) = wA from hwA.symm]
 clear hwA
 obtain ⟨A, hA⟩ : ∃ A, A = w.heap.size := ⟨_, rfl⟩
 have HA := hdn hA
 rw [← hA] at HKA HNA ⊢
 clear hA
 go_upto_region 2 with (go_at_call 26; refine CN.mono ?_; rintro en w1 ⟨rfl, hb⟩; have HB1 := hdn hb; clear hb)
 have hm : Below w1.heap.size w1 (w1.alloc (.cells #[.int .i64 x.kind, .int .i64 x.pos, .string x.text, .int .i64 x.num] 66)) := (Below.refl _ _).alloc (Nat.le_refl _) _
 have HF : Hid (Bk (w1.alloc (.cells #[.int .i64 x.kind, .int .i64 x.pos, .string x.text, .int .i64 x.num] 66)) w1.heap.size 66 #[.int .i64 x.kind, .int .i64 x.pos, .string x.text, .int .i64 x.num]) := hdn (heap_alloc_new _ _)
 have HB2 := hdn (HB1.out.trans (hm.mono HB1.out.size))
 have HR2 := hdn (HRA.out.below HB2.out)
 have HK2 := hdn (HKA.out.below HB2.out HKA.out.lt)
 have HNE : Hid (w1.heap.size ≠ rb ∧ w1.heap.size ≠ A) := hdn ⟨by have := HRA.out.rb_lt; have := HB1.out.size; omega, by have := HKA.out.lt; have := HB1.out.size; omega⟩
 have HG2 : Hid (w.grownBy (w1.alloc (.cells #[.int .i64 x.kind, .int .i64 x.pos, .string x.text, .int .i64 x.num] 66)) (some rb)) := hdn (grownBy_of (HBA.out.trans (HB2.out.mono HBA.out.size)) _)
 generalize w1.alloc (.cells #[.int .i64 x.kind, .int .i64 x.pos, .string x.text, .int .i64 x.num] 66) = w2 at HF HB2 HR2 HK2 HG2 ⊢
 generalize w1.heap.size = F at *
 have t0 : w2.cell? ⟨F, 0, none⟩ = some (.int .i64 x.kind) := HF.out.cell 0
 clear CN hm
 by_cases hc : e = 0 ∧ x.kind = 2
 ·obtain ⟨rfl, k2⟩ := hc
  have c5 : w2.cell? ⟨rb, 5, none⟩ = some (.int .i64 0) := HR2.out.blk.cell 5
  have c1 : w2.cell? ⟨rb, 1, none⟩ = some (.int .i64 k) := HR2.out.blk.cell 1
  have f1 := HR2.out.blk.frozen 1
  have HK2' := hdn k2
  have hg := grownBy_setC w2 ⟨rb, 1, none⟩ (.int .i64 ((k : Int) + 1))
  have HR3 := hdn (HR2.out.go hk1)
  have HF3 := hdn (HF.out.kept hg HNE.out.1)
  have HK3 := hdn (HK2.out.kept hg HNA.out.1)
  have HG3 := hdn (grownBy_tr HG2.out hg)
  clear hg
  go_upto_region 4 with fail
  clear t0 c5 c1 f1 k2
  generalize w2.setCell ⟨rb, 1, none⟩ (.int .i64 ((k : Int) + 1)) = w3 at HR3 HF3 HK3 HG3 ⊢
  have t3 : w3.cell? ⟨F, 3, none⟩ = some (.int .i64 x.num) := HF3.out.cell 3
  have t1 : w3.cell? ⟨F, 1, none⟩ = some (.int .i64 x.pos) := HF3.out.cell 1
  have r0 : w3.cell? ⟨A, 0, none⟩ = some (.string ByteArray.empty) := HK3.out.cell 0
  have r1 : w3.cell? ⟨A, 1, none⟩ = some (.int .i64 0) := HK3.out.cell 1
  have r2 : w3.cell? ⟨A, 2, none⟩ = some (.int .i64 0) := HK3.out.cell 2
  have f0 := HK3.out.frozen 0
  have f1 := HK3.out.frozen 1
  have f2 := HK3.out.frozen 2
  go_wp2_with fail
  clear t3 t1 r0 r1 r2 f0 f1 f2
  obtain ⟨hB, hF⟩ := term_result (n := ⟨#[]⟩) (k := x.num) (p := x.pos) HK3.out
  generalize ((w3.setCell ⟨A, 0, none⟩ (.string ⟨#[]⟩)).setCell ⟨A, 1, none⟩ (.int .i64 x.num)).setCell ⟨A, 2, none⟩ (.int .i64 x.pos) = w4 at hB hF ⊢
  have e0 := hB.cell 0
  have e1 := hB.cell 1
  have e2 := hB.cell 2
  refine bodyPost_ret (v := .agg #[.string ⟨#[]⟩, .int .i64 x.num, .int .i64 x.pos]) (by simp [results, Tryz.results95, go_sem, e0, e1, e2]) rfl ?_
  rw [HQ.out]
  refine ⟨grownBy_mine HG3.out (by rw [HA.out] at hF; exact hF), ?_⟩
  rw [if_pos ⟨by first | rfl | trivial, HK2'.out⟩]
  exact ⟨rfl, HR3.out.far hF HNA.out.1 HNA.out.2⟩
 ·have HC := hdn hc
  have hstep : Hid (e = 0 ∧ x.kind ≠ 2 ∨ e ≠ 0 ∧ x.kind = 2 ∨ e ≠ 0 ∧ x.kind ≠ 2) := hdn (by
   rcases Classical.em (e = 0) with h1 | h1
   ·exact .inl ⟨h1, fun h2 => hc ⟨h1, h2⟩⟩
   ·rcases Classical.em (x.kind = 2) with h2 | h2
    ·exact .inr (.inl ⟨h1, h2⟩)
    ·exact .inr (.inr ⟨h1, h2⟩))
  clear hc
  have c5 : w2.cell? ⟨rb, 5, none⟩ = some (.int .i64 e) := HR2.out.blk.cell 5
  have CM2 := hdn (CM.out _ HR2.out)
  clear CM
  have CM3 : Hid (Calls Tryz.prog 43 #[.pointer (some ⟨rb, 0, none⟩)] w2 fun en w3 => ∃ (n : ByteArray) (p : Int), en = .returned (.tuple #[.string n, .int .i64 p]) ∧ w2.grownBy w3 (some rb) ∧ ∀ w4, w3.grownBy w4 (some A) → Q (.returned (.agg #[.string n, .int .i64 0, .int .i64 p])) w4) := hdn (by
   refine CM2.out.mono ?_
   rintro en w3 ⟨hg, hh⟩
   have hq : ∀ w4, w3.grownBy w4 (some A) → w.grownBy w4 (some rb) := fun w4 h4 => grownBy_mine (grownBy_tr HG2.out hg) (by rw [HA.out] at h4; exact h4)
   by_cases h1 : e = 0 ∧ x.kind = 1
   ·rw [if_pos h1] at hh
    obtain ⟨he, hr⟩ := hh
    refine ⟨_, _, he, hg, fun w4 h4 => ?_⟩
    rw [HQ.out]
    refine ⟨hq w4 h4, ?_⟩
    rw [if_neg HC.out, if_pos h1]
    exact ⟨rfl, hr.far h4 HNA.out.1 HNA.out.2⟩
   ·rw [if_neg h1] at hh
    obtain ⟨he, a', e', hn, hr⟩ := hh
    refine ⟨_, _, he, hg, fun w4 h4 => ?_⟩
    rw [HQ.out]
    refine ⟨hq w4 h4, ?_⟩
    rw [if_neg HC.out, if_neg h1]
    exact ⟨rfl, a', e', hn, hr.far h4 HNA.out.1 HNA.out.2⟩)
  clear CM2
  by_cases k2 : x.kind = 2
  ·have e2' : (e == 0) = false := by
    rcases hstep.out with h | h | h
    ·exact absurd k2 h.2
    ·simpa using h.1
    ·exact absurd k2 h.2
   go_upto_region 5 with fail
   clear t0 c5 k2 e2'
   go_upto_region 6 with (go_at_call 43; refine CM3.out.mono ?_; rintro en w3 ⟨n, p, rfl, hg, hq⟩; have HK3 := hdn (HK2.out.kept hg HNA.out.1); have HQ3 := hdn hq; clear hg hq)
   have r0 : w3.cell? ⟨A, 0, none⟩ = some (.string ByteArray.empty) := HK3.out.cell 0
   have r1 : w3.cell? ⟨A, 1, none⟩ = some (.int .i64 0) := HK3.out.cell 1
   have r2 : w3.cell? ⟨A, 2, none⟩ = some (.int .i64 0) := HK3.out.cell 2
   have f0 := HK3.out.frozen 0
   have f1 := HK3.out.frozen 1
   have f2 := HK3.out.frozen 2
   go_wp2_with fail
   clear r0 r1 r2 f0 f1 f2
   obtain ⟨hB, hF⟩ := term_result (n := n) (k := 0) (p := p) HK3.out
   generalize ((w3.setCell ⟨A, 0, none⟩ (.string n)).setCell ⟨A, 1, none⟩ (.int .i64 0)).setCell ⟨A, 2, none⟩ (.int .i64 p) = w4 at hB hF ⊢
   have e0 := hB.cell 0
   have e1 := hB.cell 1
   have e2 := hB.cell 2
   exact bodyPost_ret (v := .agg #[.string n, .int .i64 0, .int .i64 p]) (by simp [results, Tryz.results95, go_sem, e0, e1, e2]) rfl (HQ3.out w4 hF)
  ·have k2' : (x.kind == 2) = false := by simpa using k2
   go_upto_region 5 with fail
   clear t0 c5 k2 k2'
   go_upto_region 6 with (go_at_call 43; refine CM3.out.mono ?_; rintro en w3 ⟨n, p, rfl, hg, hq⟩; have HK3 := hdn (HK2.out.kept hg HNA.out.1); have HQ3 := hdn hq; clear hg hq)
   have r0 : w3.cell? ⟨A, 0, none⟩ = some (.string ByteArray.empty) := HK3.out.cell 0
   have r1 : w3.cell? ⟨A, 1, none⟩ = some (.int .i64 0) := HK3.out.cell 1
   have r2 : w3.cell? ⟨A, 2, none⟩ = some (.int .i64 0) := HK3.out.cell 2
   have f0 := HK3.out.frozen 0
   have f1 := HK3.out.frozen 1
   have f2 := HK3.out.frozen 2
   go_wp2_with fail
   clear r0 r1 r2 f0 f1 f2
   obtain ⟨hB, hF⟩ := term_result (n := n) (k := 0) (p := p) HK3.out
   generalize ((w3.setCell ⟨A, 0, none⟩ (.string n)).setCell ⟨A, 1, none⟩ (.int .i64 0)).setCell ⟨A, 2, none⟩ (.int .i64 p) = w4 at hB hF ⊢
   have e0 := hB.cell 0
   have e1 := hB.cell 1
   have e2 := hB.cell 2
   exact bodyPost_ret (v := .agg #[.string n, .int .i64 0, .int .i64 p]) (by simp [results, Tryz.results95, go_sem, e0, e1, e2]) rfl (HQ3.out w4 hF)
end
end Go.Proofs.YtmhpaacjioeknaaGreat
namespace Go.Proofs.YtmhpaacjioeknaaGreat
open Go.RowKit Go.Sort
/-- What holds of the signs throughout. -/
structure RC (l : List Tx.Sg) (N : Nat) : Prop where
 kinds : Pa.Gk l
 good : Good l
 len : l.length ≤ N
 top : N ≤ 900000
/-- How the reader stands behind what came to r: where r leaves off, or at an error. -/
def RM {α : Type} (w : World) (rb sb cap : Nat) (l : List Tx.Sg) (o : Int) (N : Nat) (r : Pr.Res α) : Prop := match r with
 | .ok (_, u) => RS w rb sb cap l u.i u.o u.b 0 0 ∧ u.i < l.length ∧ u.o = o ∧ 0 ≤ u.b ∧ u.b ≤ 400
 | .error _ => ∃ (k : Nat) (b a e : Int), e ≠ 0 ∧ k ≤ N ∧ 0 ≤ b ∧ b ≤ 400 ∧ RS w rb sb cap l k o b a e
/-- What a part of the reader ends in. -/
def RP {β : Type} (K : World → Value → β → Prop) (w : World) (rb sb cap : Nat) (l : List Tx.Sg) (o : Int) (N : Nat) (r : Pr.Res β) (en : Ending) (w' : World) : Prop :=
 w.grownBy w' (some rb) ∧ ∃ v x, en = .returned v ∧ K w' v x ∧ (∀ y u, r = .ok (y, u) → x = y) ∧ RM w' rb sb cap l o N r
section
variable {α : Type} {rb sb cap : Nat} {l : List Tx.Sg} {o : Int} {N : Nat}
theorem RM.below {w w' : World} {r : Pr.Res α} (h : RM w rb sb cap l o N r) (hb : Below w.heap.size w w') : RM w' rb sb cap l o N r := by
 rcases r with n | ⟨x, u⟩
 ·obtain ⟨k, b, a, e, h1, h2, h3, h4, h5⟩ := h; exact ⟨k, b, a, e, h1, h2, h3, h4, h5.below hb⟩
 ·exact ⟨h.1.below hb, h.2⟩
theorem RM.far {w w' : World} {r : Pr.Res α} {R : Nat} (h : RM w rb sb cap l o N r) (hg : w.grownBy w' (some R)) (h1 : R ≠ rb) (h2 : R ≠ sb) : RM w' rb sb cap l o N r := by
 rcases r with n | ⟨x, u⟩
 ·obtain ⟨k, b, a, e, e1, e2, e3, e4, e5⟩ := h; exact ⟨k, b, a, e, e1, e2, e3, e4, e5.far hg h1 h2⟩
 ·exact ⟨h.1.far hg h1 h2, h.2⟩
theorem RM.rs {w : World} {r : Pr.Res α} (h : RM w rb sb cap l o N r) : ∃ (k : Nat) (b a e : Int), RS w rb sb cap l k o b a e := by
 rcases r with n | ⟨x, u⟩
 ·obtain ⟨k, b, a, e, e1, e2, e3, e4, e5⟩ := h; exact ⟨k, b, a, e, e5⟩
 ·obtain ⟨h1, h2, rfl, h3⟩ := h; exact ⟨_, _, _, _, h1⟩
theorem RM.rb_lt {w : World} {r : Pr.Res α} (h : RM w rb sb cap l o N r) : rb < w.heap.size := by obtain ⟨k, b, a, e, h⟩ := h.rs; exact h.rb_lt
theorem RM.sb_lt {w : World} {r : Pr.Res α} (h : RM w rb sb cap l o N r) : sb < w.heap.size := by obtain ⟨k, b, a, e, h⟩ := h.rs; exact h.sb_lt
/-- What it stands behind may be said otherwise. -/
theorem RM.as {β : Type} {w : World} {r : Pr.Res α} (h : RM w rb sb cap l o N r) (s : Pr.Res β) (hs : Pr.th r (fun _ u => .ok ((), u)) = Pr.th s (fun _ u => .ok ((), u)) ∨ ((∃ n, r = .error n) ∧ ∃ n, s = .error n)) : RM w rb sb cap l o N s := by
 rcases hs with hs | ⟨⟨n, rfl⟩, ⟨m, rfl⟩⟩
 ·rcases r with n | ⟨x, u⟩ <;> rcases s with m | ⟨y, v⟩
  ·exact h
  ·simp [Pr.th] at hs
  ·simp [Pr.th] at hs
  ·simp only [Pr.th, Except.ok.injEq, Prod.mk.injEq, true_and] at hs; subst hs; exact h
 ·exact h
theorem more_rsg (C : RC l N) {i : Nat} (h : i < l.length) (hk : (rsg l i).kind ≠ 0) : i + 1 < l.length := by
 have h0 := rsg_mem i (Nat.lt_of_le_of_lt (Nat.zero_le _) h)
 rw [Nat.min_eq_left (by omega)] at h0
 exact C.good.more h0 hk
/-- A name in a result. -/
def KName (_ : World) (v : Value) (x : Tx.Sg) : Prop := v = .tuple #[.string x.text, .int .i64 x.pos]
theorem name_m (C : RC l N) (w : World) (r0 : Pr.Res α) (h : RM w rb sb cap l o N r0) :
  Calls Tryz.prog 43 #[.pointer (some ⟨rb, 0, none⟩)] w (RP KName w rb sb cap l o N (Pr.th r0 fun _ u => Pa.name l u)) := by
 have hN := C.len; have hT := C.top
 rcases r0 with n | ⟨x, u⟩
 ·obtain ⟨k, b, a, e, he, hk, hb0, hb1, hs⟩ := h
  refine (rname_any w hs (by omega)).mono ?_
  rintro en w1 ⟨hg, hh⟩
  rw [if_neg (fun hc => he hc.1)] at hh
  obtain ⟨rfl, a', e', he', hs'⟩ := hh
  exact ⟨hg, _, ⟨0, 0, ByteArray.empty, 0⟩, rfl, rfl, (by intro y u hc; cases hc), k, b, a', e', he', hk, hb0, hb1, hs'⟩
 ·obtain ⟨hs, hi, rfl, hb0, hb1⟩ := h
  refine (rname_any w hs (by omega)).mono ?_
  rintro en w1 ⟨hg, hh⟩
  have hx := rsg_lt hi
  by_cases k1 : (rsg l u.i).kind = 1
  ·rw [if_pos ⟨rfl, k1⟩] at hh
   obtain ⟨rfl, hs'⟩ := hh
   have hn : Pr.th (.ok (x, u)) (fun _ u => Pa.name l u) = .ok (rsg l u.i, u.go) := by
    show Pa.name l u = _; unfold Pa.name; rw [← hx, if_pos k1]
   rw [hn]
   exact ⟨hg, _, rsg l u.i, rfl, rfl, (fun y v hc => by cases hc; rfl), hs', more_rsg C hi (by rw [k1]; decide), rfl, hb0, hb1⟩
  ·rw [if_neg (fun hc => k1 hc.2)] at hh
   obtain ⟨rfl, a', e', he', hs'⟩ := hh
   have hn : Pr.th (.ok (x, u)) (fun _ u => Pa.name l u) = .error (5, u.i) := by
    show Pa.name l u = _; unfold Pa.name; rw [← hx, if_neg k1]
   rw [hn]
   exact ⟨hg, _, ⟨0, 0, ByteArray.empty, 0⟩, rfl, rfl, (by intro y u hc; cases hc), u.i, u.b, a', e', he', by omega, hb0, hb1, hs'⟩
/-- A term in a result. -/
def QTm (_ : World) (v : Value) (x : Tm) : Prop := v = .agg x.cells.toArray
theorem term_m (C : RC l N) (w : World) (r0 : Pr.Res α) (h : RM w rb sb cap l o N r0) :
  Calls Tryz.prog 95 #[.pointer (some ⟨rb, 0, none⟩)] w (RP QTm w rb sb cap l o N (Pr.th r0 fun _ u => Pa.term l u)) := by
 have hN := C.len; have hT := C.top
 rcases r0 with n | ⟨x, u⟩
 ·obtain ⟨k, b, a, e, he, hk, hb0, hb1, hs⟩ := h
  refine (rterm_any w hs (by omega)).mono ?_
  rintro en w1 ⟨hg, hh⟩
  rw [if_neg (fun hc => he hc.1), if_neg (fun hc => he hc.1)] at hh
  obtain ⟨rfl, a', e', he', hs'⟩ := hh
  exact ⟨hg, _, ⟨ByteArray.empty, 0, 0⟩, rfl, rfl, (by intro y u hc; cases hc), k, b, a', e', he', hk, hb0, hb1, hs'⟩
 ·obtain ⟨hs, hi, rfl, hb0, hb1⟩ := h
  refine (rterm_any w hs (by omega)).mono ?_
  rintro en w1 ⟨hg, hh⟩
  have hx := rsg_lt hi
  by_cases k2 : (rsg l u.i).kind = 2
  ·rw [if_pos ⟨rfl, k2⟩] at hh
   obtain ⟨rfl, hs'⟩ := hh
   have hn : Pr.th (.ok (x, u)) (fun _ u => Pa.term l u) = .ok (⟨ByteArray.empty, (rsg l u.i).num, (rsg l u.i).pos⟩, u.go) := by
    show Pa.term l u = _; unfold Pa.term; rw [← hx, if_pos k2]
   rw [hn]
   exact ⟨hg, _, ⟨ByteArray.empty, (rsg l u.i).num, (rsg l u.i).pos⟩, rfl, rfl, (fun y v hc => by cases hc; rfl), hs', more_rsg C hi (by rw [k2]; decide), rfl, hb0, hb1⟩
  ·rw [if_neg (fun hc => k2 hc.2)] at hh
   by_cases k1 : (rsg l u.i).kind = 1
   ·rw [if_pos ⟨rfl, k1⟩] at hh
    obtain ⟨rfl, hs'⟩ := hh
    have hn : Pr.th (.ok (x, u)) (fun _ u => Pa.term l u) = .ok (⟨(rsg l u.i).text, 0, (rsg l u.i).pos⟩, u.go) := by
     show Pa.term l u = _; unfold Pa.term Pa.name; rw [← hx, if_neg k2, if_pos k1]; rfl
    rw [hn]
    exact ⟨hg, _, ⟨(rsg l u.i).text, 0, (rsg l u.i).pos⟩, rfl, rfl, (fun y v hc => by cases hc; rfl), hs', more_rsg C hi (by rw [k1]; decide), rfl, hb0, hb1⟩
   ·rw [if_neg (fun hc => k1 hc.2)] at hh
    obtain ⟨rfl, a', e', he', hs'⟩ := hh
    have hn : Pr.th (.ok (x, u)) (fun _ u => Pa.term l u) = .error (5, u.i) := by
     show Pa.term l u = _; unfold Pa.term Pa.name; rw [← hx, if_neg k2, if_neg k1]; rfl
    rw [hn]
    exact ⟨hg, _, ⟨ByteArray.empty, 0, 0⟩, rfl, rfl, (by intro y u hc; cases hc), u.i, u.b, a', e', he', by omega, hb0, hb1, hs'⟩
theorem want_m (C : RC l N) (s : ByteArray) (hs : Pa.lit s.data.toList = true) (w : World) (r0 : Pr.Res α) (h : RM w rb sb cap l o N r0) :
  Calls Tryz.prog 31 #[.pointer (some ⟨rb, 0, none⟩), .string s] w fun en w' => en = .returned (.tuple #[]) ∧ w.grownBy w' (some rb) ∧ RM w' rb sb cap l o N (Pr.th r0 fun _ u => Pr.must (Pa.ts l) s u) := by
 have hN := C.len; have hT := C.top
 rcases r0 with n | ⟨x, u⟩
 ·obtain ⟨k, b, a, e, he, hk, hb0, hb1, h5⟩ := h
  refine (want_err s w h5 C.kinds hs he).mono ?_
  rintro en w1 ⟨rfl, hb⟩
  exact ⟨rfl, grownBy_of hb _, k, b, a, e, he, hk, hb0, hb1, h5.below hb⟩
 ·obtain ⟨h5, hi, rfl, hb0, hb1⟩ := h
  rcases q : isNx l u.i s with _ | _
  ·refine (want_no s w h5 C.kinds hs q).mono ?_
   rintro en w1 ⟨rfl, h6, hg⟩
   have hn : Pr.th (.ok (x, u)) (fun _ u => Pr.must (Pa.ts l) s u) = .error (5, u.i) := by
    show Pr.must _ s u = _; unfold Pr.must; rw [← isNx_pr hi, q, if_neg (by decide)]
   rw [hn]
   exact ⟨rfl, hg, u.i, u.b, _, 5, by decide, by omega, hb0, hb1, h6⟩
  ·refine (want_yes s w h5 C.kinds hs q (by omega)).mono ?_
   rintro en w1 ⟨rfl, h6, hg⟩
   have hn : Pr.th (.ok (x, u)) (fun _ u => Pr.must (Pa.ts l) s u) = .ok (Pr.sg (Pa.ts l) u.i, u.go) := by
    show Pr.must _ s u = _; unfold Pr.must; rw [← isNx_pr hi, q, if_pos rfl]
   rw [hn]
   exact ⟨rfl, hg, h6, more_rsg C hi (by rcases isNx_kind C.kinds h5.pos hs q with hh | hh <;> rw [hh] <;> decide), rfl, hb0, hb1⟩
theorem take_m (C : RC l N) (s : ByteArray) (hs : Pa.lit s.data.toList = true) (w : World) (r0 : Pr.Res α) (h : RM w rb sb cap l o N r0) :
  Calls Tryz.prog 27 #[.pointer (some ⟨rb, 0, none⟩), .string s] w fun en w' => w.grownBy w' (some rb) ∧
   ((en = .returned (.bool true) ∧ ∃ x u, r0 = .ok (x, u) ∧ Pr.is (Pa.ts l) u.i s = true ∧ RM w' rb sb cap l o N (Except.ok (x, u.go) : Pr.Res α)) ∨
   (en = .returned (.bool false) ∧ (∀ x u, r0 = .ok (x, u) → Pr.is (Pa.ts l) u.i s = false) ∧ RM w' rb sb cap l o N r0)) := by
 have hN := C.len; have hT := C.top
 rcases r0 with n | ⟨x, u⟩
 ·obtain ⟨k, b, a, e, he, hk, hb0, hb1, h5⟩ := h
  refine (take_no s w h5 C.kinds hs (by rw [decide_eq_false he]; rfl)).mono ?_
  rintro en w1 ⟨rfl, hb⟩
  exact ⟨grownBy_of hb _, .inr ⟨rfl, (by intro y u hc; cases hc), k, b, a, e, he, hk, hb0, hb1, h5.below hb⟩⟩
 ·obtain ⟨h5, hi, rfl, hb0, hb1⟩ := h
  rcases q : isNx l u.i s with _ | _
  ·refine (take_no s w h5 C.kinds hs (by rw [q]; rfl)).mono ?_
   rintro en w1 ⟨rfl, hb⟩
   exact ⟨grownBy_of hb _, .inr ⟨rfl, (by intro y v hc; cases hc; rw [← isNx_pr hi, q]), h5.below hb, hi, rfl, hb0, hb1⟩⟩
  ·refine (take_yes s w h5 C.kinds hs q (by omega)).mono ?_
   rintro en w1 ⟨rfl, h6, hg⟩
   exact ⟨hg, .inl ⟨rfl, x, u, rfl, by rw [← isNx_pr hi, q], h6, more_rsg C hi (by rcases isNx_kind C.kinds h5.pos hs q with hh | hh <;> rw [hh] <;> decide), rfl, hb0, hb1⟩⟩
theorem is_m (C : RC l N) (s : ByteArray) (hs : Pa.lit s.data.toList = true) (w : World) (r0 : Pr.Res α) (h : RM w rb sb cap l o N r0) :
  Calls Tryz.prog 42 #[.pointer (some ⟨rb, 0, none⟩), .string s] w fun en w' => Below w.heap.size w w' ∧
   ((en = .returned (.bool true) ∧ ∃ x u, r0 = .ok (x, u) ∧ Pr.is (Pa.ts l) u.i s = true ∧ u.i + 1 < l.length) ∨
   (en = .returned (.bool false) ∧ (∀ x u, r0 = .ok (x, u) → Pr.is (Pa.ts l) u.i s = false))) := by
 rcases r0 with n | ⟨x, u⟩
 ·obtain ⟨k, b, a, e, he, hk, hb0, hb1, h5⟩ := h
  refine (is_any s w h5 C.kinds hs).mono ?_
  rintro en w1 ⟨rfl, hb⟩
  exact ⟨hb, .inr ⟨by rw [decide_eq_false he]; rfl, by intro y u hc; cases hc⟩⟩
 ·obtain ⟨h5, hi, rfl, hb0, hb1⟩ := h
  refine (is_any s w h5 C.kinds hs).mono ?_
  rintro en w1 ⟨rfl, hb⟩
  refine ⟨hb, ?_⟩
  rcases q : isNx l u.i s with _ | _
  ·exact .inr ⟨rfl, by intro y v hc; cases hc; rw [← isNx_pr hi, q]⟩
  ·exact .inl ⟨rfl, x, u, rfl, by rw [← isNx_pr hi, q], more_rsg C hi (by rcases isNx_kind C.kinds h5.pos hs q with hh | hh <;> rw [hh] <;> decide)⟩
theorem now_m (w : World) (r0 : Pr.Res α) (h : RM w rb sb cap l o N r0) :
  Calls Tryz.prog 26 #[.pointer (some ⟨rb, 0, none⟩)] w fun en w' => Below w.heap.size w w' ∧ ∃ x : Tx.Sg, en = .returned (.agg #[.int .i64 x.kind, .int .i64 x.pos, .string x.text, .int .i64 x.num]) ∧ ∀ y u, r0 = .ok (y, u) → x = Pa.sg l u.i := by
 rcases r0 with n | ⟨x, u⟩
 ·obtain ⟨k, b, a, e, he, hk, hb0, hb1, h5⟩ := h
  refine (now_any w h5).mono ?_
  rintro en w1 ⟨rfl, hb⟩
  exact ⟨hb, _, rfl, by intro y u hc; cases hc⟩
 ·obtain ⟨h5, hi, rfl, hb0, hb1⟩ := h
  refine (now_any w h5).mono ?_
  rintro en w1 ⟨rfl, hb⟩
  exact ⟨hb, _, rfl, by intro y v hc; cases hc; exact rsg_lt hi⟩
/-- An error is thrown, where none is. -/
theorem stop_m (C : RC l N) (p n : Int) (hn : n ≠ 0) (w : World) (r0 : Pr.Res α) (h : RM w rb sb cap l o N r0) :
  Calls Tryz.prog 46 #[.pointer (some ⟨rb, 0, none⟩), .int .i64 p, .int .i64 n] w fun en w' => en = .returned (.tuple #[]) ∧ w.grownBy w' (some rb) ∧ RM w' rb sb cap l o N (Except.error (n, 0) : Pr.Res α) := by
 have hN := C.len
 rcases r0 with m | ⟨x, u⟩
 ·obtain ⟨k, b, a, e, he, hk, hb0, hb1, h5⟩ := h
  refine (stop_err p n w h5 he).mono ?_
  rintro en w1 ⟨rfl, rfl⟩
  exact ⟨rfl, grownBy_of (Below.refl _ _) _, k, b, a, e, he, hk, hb0, hb1, h5⟩
 ·obtain ⟨h5, hi, rfl, hb0, hb1⟩ := h
  refine (stop_one p n w h5).mono ?_
  rintro en w1 ⟨rfl, h6, hg⟩
  exact ⟨rfl, hg, u.i, u.b, p, n, hn, by omega, hb0, hb1, h6⟩
end
end Go.Proofs.YtmhpaacjioeknaaGreat
