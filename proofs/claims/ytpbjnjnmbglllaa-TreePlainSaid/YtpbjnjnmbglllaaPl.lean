/-
  DERIVED. Plain: how deep, how many, how many loops, which names are called.
-/
import Derived.Test.YtpbjnjnmbglllaaWt
namespace Go.Proofs.Ytpbjnjnmbglllaa

theorem SL.len_nil {l : SL} : l.len = 0 ↔ l = .nil := by
  cases l with
  | nil => simp [SL.len]
  | cons => simp [SL.len]

/-- How many statements. -/
def SL.count : SL → Nat
  | .nil => 0
  | .cons _ _ _ t _ _ e r => 1 + t.count + e.count + r.count
def SL.cntFrom : SL → Int → Int
  | .nil, a => a
  | .cons _ _ _ t _ _ e r, a => r.cntFrom (a + 1 + t.cntFrom 0 + e.cntFrom 0)
theorem SL.cntFrom_eq : ∀ (l : SL) (a : Int), l.cntFrom a = a + l.count
  | .nil, a => by simp [SL.cntFrom, SL.count]
  | .cons _ _ _ t _ _ e r, a => by
    simp only [SL.cntFrom, SL.count]
    rw [SL.cntFrom_eq t, SL.cntFrom_eq e, SL.cntFrom_eq r]
    omega
theorem SL.len_le_count : ∀ (l : SL), l.len ≤ l.count
  | .nil => Nat.le_refl _
  | .cons _ _ _ t _ _ e r => by have := SL.len_le_count r; simp only [SL.len, SL.count]; omega

/-- Does a statement count as one that has a list? -/
def hold (kind : Int) (tn en : Nat) : Bool := kind == 4 || kind == 5 || kind == 6 || decide (0 < tn) || decide (0 < en)
def blk (kind : Int) : Bool := kind == 4 || kind == 5 || kind == 6
def dg (kind : Int) (tn en : Nat) (dt de a : Int) : Int := if hold kind tn en = true then max (max a (1 + dt)) (1 + de) else a
def SL.deepFrom : SL → Int → Int
  | .nil, a => a
  | .cons h _ _ t _ _ e r, a => r.deepFrom (dg h.kind t.len e.len (t.deepFrom 0) (e.deepFrom 0) a)
def SL.loopFrom : SL → Int → Int
  | .nil, a => a
  | .cons h _ _ t _ _ e r, a => r.loopFrom ((if h.kind = 5 then a + 1 else a) + t.loopFrom 0 + e.loopFrom 0)
theorem SL.deepFrom_bd : ∀ (l : SL) (a : Int), 0 ≤ a → a ≤ l.deepFrom a ∧ l.deepFrom a ≤ a + l.count
  | .nil, a, h => by simp [SL.deepFrom, SL.count]
  | .cons h tp tc t ep ec e r, a, h0 => by
    have ht := SL.deepFrom_bd t 0 (Int.le_refl _)
    have he := SL.deepFrom_bd e 0 (Int.le_refl _)
    simp only [SL.deepFrom, SL.count]
    have hd : a ≤ dg h.kind t.len e.len (t.deepFrom 0) (e.deepFrom 0) a ∧ dg h.kind t.len e.len (t.deepFrom 0) (e.deepFrom 0) a ≤ a + 1 + t.count + e.count := by unfold dg; split <;> omega
    have hr := SL.deepFrom_bd r _ (Int.le_trans h0 hd.1)
    omega
theorem SL.loopFrom_bd : ∀ (l : SL) (a : Int), 0 ≤ a → a ≤ l.loopFrom a ∧ l.loopFrom a ≤ a + l.count
  | .nil, a, h => by simp [SL.loopFrom, SL.count]
  | .cons h tp tc t ep ec e r, a, h0 => by
    have ht := SL.loopFrom_bd t 0 (Int.le_refl _)
    have he := SL.loopFrom_bd e 0 (Int.le_refl _)
    simp only [SL.loopFrom, SL.count]
    have hd : a ≤ (if h.kind = 5 then a + 1 else a) + t.loopFrom 0 + e.loopFrom 0 ∧ (if h.kind = 5 then a + 1 else a) + t.loopFrom 0 + e.loopFrom 0 ≤ a + 1 + t.count + e.count := by split <;> omega
    have hr := SL.loopFrom_bd r _ (Int.le_trans h0 hd.1)
    omega
/-- The document's steps for depth. -/
theorem dg_ref (kind : Int) (t e : SL) (a : Int) (h0 : 0 ≤ a) :
    (if (blk kind || decide (0 < e.len)) = true then max (if (blk kind || decide (0 < t.len)) = true then max a (1 + t.deepFrom 0) else a) (1 + e.deepFrom 0) else (if (blk kind || decide (0 < t.len)) = true then max a (1 + t.deepFrom 0) else a))
      = dg kind t.len e.len (t.deepFrom 0) (e.deepFrom 0) a := by
  have ht := SL.deepFrom_bd t 0 (Int.le_refl _)
  have he := SL.deepFrom_bd e 0 (Int.le_refl _)
  unfold dg hold
  rw [show (kind == 4 || kind == 5 || kind == 6) = blk kind from rfl]
  cases blk kind
  · by_cases h1 : 0 < t.len <;> by_cases h2 : 0 < e.len
    · simp [h1, h2]
    · have e0 : e = .nil := SL.len_nil.1 (by omega)
      subst e0
      simp [h1, SL.len, SL.deepFrom] at he ⊢
      omega
    · have e0 : t = .nil := SL.len_nil.1 (by omega)
      subst e0
      simp [h2, SL.len, SL.deepFrom] at ht ⊢
      omega
    · simp [h1, h2]
  · simp

/-- A weight that is small bounds how many there are. -/
theorem count_le_wtGo : ∀ (l : SL) (d n : Int), wtGo l d n ≤ 1000 → n ≤ 1000 → 0 ≤ n → (l.count : Int) - l.len + n ≤ wtGo l d n
  | .nil, d, n, h, _, _ => by simp [SL.count, SL.len, wtGo]
  | .cons h tp tc t ep ec e r, d, n, hs, hn, h0 => by
    rw [wtGo_cons, if_pos (by omega)] at hs ⊢
    have hh := hw_nonneg h
    have t0 := wt_nonneg t (d + 1)
    have e0 := wt_nonneg e (d + 1)
    have hg := (wtGo_ge r d (n + hw h + wt t (d + 1) + wt e (d + 1))).1
    have hr := count_le_wtGo r d (n + hw h + wt t (d + 1) + wt e (d + 1)) hs (by omega) (by omega)
    have key : ∀ x : SL, (wtGo x (d + 1) x.len ≤ 1000 → (x.len : Int) ≤ 1000 → (0 : Int) ≤ x.len → (x.count : Int) - x.len + x.len ≤ wtGo x (d + 1) x.len) → wt x (d + 1) ≤ 1000 → (x.count : Int) ≤ wt x (d + 1) := fun x ih hx => by
      unfold wt at hx ⊢
      split at hx
      · omega
      · rename_i hd
        rw [if_neg hd]
        have hge := (wtGo_ge x (d + 1) x.len).1
        have := ih (by omega) (by omega) (by omega)
        omega
    have ht := key t (count_le_wtGo t (d + 1) t.len) (by omega)
    have he := key e (count_le_wtGo e (d + 1) e.len) (by omega)
    simp only [SL.count, SL.len]
    omega
theorem count_small (l : SL) (h : wt l 0 ≤ 1000) : l.count ≤ 1000 := by
  unfold wt at h
  rw [if_neg (by omega)] at h
  have hge := (wtGo_ge l 0 l.len).1
  have := count_le_wtGo l 0 l.len (by omega) (by omega) (by omega)
  omega

end Go.Proofs.Ytpbjnjnmbglllaa
