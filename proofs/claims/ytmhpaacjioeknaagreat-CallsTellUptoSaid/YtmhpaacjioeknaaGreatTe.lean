/-
  DERIVED. The search as it lies in memory.
-/
import Derived.Test.YtmhpaacjioeknaaGreatTd
namespace Go.Proofs.YtmhpaacjioeknaaGreat
open Go.RowKit Go.Maps Go.Sort Go.WideMaps
namespace Tj

def ints (l : List Nat) : List Int := l.map fun (n : Nat) => (n : Int)
theorem ints_len (l : List Nat) : (ints l).length = l.length := by simp [ints]
/-- Where the parts of a search lie. -/
structure Cn where
  sb : Nat
  wb : Nat
  wc : Nat
  rg : Nat
  lg : Nat
  dg : Nat
  rc : Nat
  lc : Nat
  dc : Nat
  bw : Nat
  vs : List Value
def sl (g n c : Nat) : Value := .slice (some ⟨g, 0, none⟩) n c
def cells (c : Cn) (n : Nat) (pv ov : Value) (s : St) : Array Value := #[sl c.wb n c.wc, .int .i64 s.met, sl c.rg n c.rc, sl c.lg n c.lc, sl c.dg n c.dc, pv, ov, .int .i64 s.first]
structure SS (w0 : World) (c : Cn) (XS : List (List Int)) (w : World) (pv ov : Value) (s : St) : Prop where
  web : Rws w0 c.bw c.wb c.vs XS
  fr : Below w0.heap.size w0 w
  blk : Bk w c.sb 82 (cells c XS.length pv ov s)
  lr : s.rank.length = XS.length
  ll : s.low.length = XS.length
  ld : s.done.length = XS.length
  r : OR w w0.heap.size (sl c.rg XS.length c.rc) s.rank
  l : OR w w0.heap.size (sl c.lg XS.length c.lc) s.low
  d : OR w w0.heap.size (sl c.dg XS.length c.dc) s.done
  p : OR w w0.heap.size pv (ints s.path)
  o : OR w w0.heap.size ov (ints s.opn)
  bs : w0.heap.size ≤ c.sb
  br : w0.heap.size ≤ c.rg
  bl : w0.heap.size ≤ c.lg
  bd : w0.heap.size ≤ c.dg
  n1 : c.sb ≠ c.rg ∧ c.sb ≠ c.lg ∧ c.sb ≠ c.dg ∧ c.rg ≠ c.lg ∧ c.rg ≠ c.dg ∧ c.lg ≠ c.dg
  np : pv.ownBlock ≠ some c.sb ∧ pv.ownBlock ≠ some c.rg ∧ pv.ownBlock ≠ some c.lg ∧ pv.ownBlock ≠ some c.dg
  no : ov.ownBlock ≠ some c.sb ∧ ov.ownBlock ≠ some c.rg ∧ ov.ownBlock ≠ some c.lg ∧ ov.ownBlock ≠ some c.dg
  po : ∀ q, pv.ownBlock = some q → ov.ownBlock ≠ some q
theorem own_sl (g n c : Nat) : (sl g n c).ownBlock = some g := rfl
theorem OR.kp {w w' : World} {B k : Nat} {v : Value} {xs : List Int} (h : OR w B v xs) (hg : w.grownBy w' (some k)) (hne : v.ownBlock ≠ some k) : OR w' B v xs := World.ownsRow.kept h hg (.inr hne)
theorem SS.frame {w0 w w' : World} {c : Cn} {XS : List (List Int)} {pv ov : Value} {s : St} (h : SS w0 c XS w pv ov s) {k : Nat} (hg : w.grownBy w' (some k)) (hk : w0.heap.size ≤ k) : Below w0.heap.size w0 w' :=
  h.fr.trans ⟨hg.os, hg.tape, hg.output, hg.size, fun i hi => hg.block i (Nat.lt_of_lt_of_le hi h.fr.size) (fun e => by injection e with e; omega)⟩
theorem or_put {w : World} {B g n c : Nat} {xs : List Int} (h : OR w B (sl g n c) xs) (hn : xs.length = n) (j : Nat) (u : Int) : OR (w.setCell ⟨g, j, none⟩ (.int .i64 u)) B (sl g n c) (xs.set j u) := by
  subst hn
  exact OR.put h j u
theorem SS.drew {w0 w : World} {c : Cn} {XS : List (List Int)} {pv ov : Value} {s : St} (h : SS w0 c XS w pv ov s) : SS w0 c XS w.drew pv ov s :=
  ⟨h.web, below_drew h.fr, h.blk, h.lr, h.ll, h.ld, h.r, h.l, h.d, h.p, h.o, h.bs, h.br, h.bl, h.bd, h.n1, h.np, h.no, h.po⟩
theorem SS.setR {w0 w : World} {c : Cn} {XS : List (List Int)} {pv ov : Value} {s : St} (h : SS w0 c XS w pv ov s) (v : Nat) (u : Int) : SS w0 c XS (w.setCell ⟨c.rg, v, none⟩ (.int .i64 u)) pv ov { s with rank := s.rank.set v u } := by
  have g := grownBy_setC w ⟨c.rg, v, none⟩ (.int .i64 u)
  exact ⟨h.web, h.frame g h.br, h.blk.far h.n1.1 _, by rw [List.length_set]; exact h.lr, h.ll, h.ld, or_put h.r h.lr v u, OR.kp h.l g (by rw [own_sl]; exact fun e => h.n1.2.2.2.1 (by injection e with e; exact e.symm)), OR.kp h.d g (by rw [own_sl]; exact fun e => h.n1.2.2.2.2.1 (by injection e with e; exact e.symm)),
    OR.kp h.p g h.np.2.1, OR.kp h.o g h.no.2.1, h.bs, h.br, h.bl, h.bd, h.n1, h.np, h.no, h.po⟩
theorem SS.setL {w0 w : World} {c : Cn} {XS : List (List Int)} {pv ov : Value} {s : St} (h : SS w0 c XS w pv ov s) (v : Nat) (u : Int) : SS w0 c XS (w.setCell ⟨c.lg, v, none⟩ (.int .i64 u)) pv ov { s with low := s.low.set v u } := by
  have g := grownBy_setC w ⟨c.lg, v, none⟩ (.int .i64 u)
  exact ⟨h.web, h.frame g h.bl, h.blk.far h.n1.2.1 _, h.lr, by rw [List.length_set]; exact h.ll, h.ld, OR.kp h.r g (by rw [own_sl]; exact fun e => h.n1.2.2.2.1 (by injection e)), or_put h.l h.ll v u, OR.kp h.d g (by rw [own_sl]; exact fun e => h.n1.2.2.2.2.2 (by injection e with e; exact e.symm)),
    OR.kp h.p g h.np.2.2.1, OR.kp h.o g h.no.2.2.1, h.bs, h.br, h.bl, h.bd, h.n1, h.np, h.no, h.po⟩
theorem SS.setD {w0 w : World} {c : Cn} {XS : List (List Int)} {pv ov : Value} {s : St} (h : SS w0 c XS w pv ov s) (v : Nat) (u : Int) : SS w0 c XS (w.setCell ⟨c.dg, v, none⟩ (.int .i64 u)) pv ov { s with done := s.done.set v u } := by
  have g := grownBy_setC w ⟨c.dg, v, none⟩ (.int .i64 u)
  exact ⟨h.web, h.frame g h.bd, h.blk.far h.n1.2.2.1 _, h.lr, h.ll, by rw [List.length_set]; exact h.ld, OR.kp h.r g (by rw [own_sl]; exact fun e => h.n1.2.2.2.2.1 (by injection e)), OR.kp h.l g (by rw [own_sl]; exact fun e => h.n1.2.2.2.2.2 (by injection e)), or_put h.d h.ld v u,
    OR.kp h.p g h.np.2.2.2, OR.kp h.o g h.no.2.2.2, h.bs, h.br, h.bl, h.bd, h.n1, h.np, h.no, h.po⟩
/-- A cell of the block itself: the rows stand. -/
theorem SS.setS {w0 w : World} {c : Cn} {XS : List (List Int)} {pv ov : Value} {s : St} (h : SS w0 c XS w pv ov s) (i : Nat) (u : Value) (pv' ov' : Value) (s' : St) (hr : s'.rank = s.rank) (hl : s'.low = s.low) (hd : s'.done = s.done)
    (hb : (cells c XS.length pv ov s).setIfInBounds i u = cells c XS.length pv' ov' s') (hp : ∀ w', w.grownBy w' (some c.sb) → OR w' w0.heap.size pv' (ints s'.path)) (ho : ∀ w', w.grownBy w' (some c.sb) → OR w' w0.heap.size ov' (ints s'.opn)) (ep : pv'.ownBlock = pv.ownBlock) (eo : ov'.ownBlock = ov.ownBlock) :
    SS w0 c XS (w.setCell ⟨c.sb, i, none⟩ u) pv' ov' s' := by
  have g := grownBy_setC w ⟨c.sb, i, none⟩ u
  refine ⟨h.web, h.frame g h.bs, by rw [← hb]; exact h.blk.set_ i u, by rw [hr]; exact h.lr, by rw [hl]; exact h.ll, by rw [hd]; exact h.ld, ?_, ?_, ?_, hp _ g, ho _ g, h.bs, h.br, h.bl, h.bd, h.n1, by rw [ep]; exact h.np, by rw [eo]; exact h.no, by rw [ep, eo]; exact h.po⟩
  · rw [hr]; exact OR.kp h.r g (by rw [own_sl]; exact fun e => h.n1.1 (by injection e with e; exact e.symm))
  · rw [hl]; exact OR.kp h.l g (by rw [own_sl]; exact fun e => h.n1.2.1 (by injection e with e; exact e.symm))
  · rw [hd]; exact OR.kp h.d g (by rw [own_sl]; exact fun e => h.n1.2.2.1 (by injection e with e; exact e.symm))
theorem SS.setMet {w0 w : World} {c : Cn} {XS : List (List Int)} {pv ov : Value} {s : St} (h : SS w0 c XS w pv ov s) (m : Nat) : SS w0 c XS (w.setCell ⟨c.sb, 1, none⟩ (.int .i64 m)) pv ov { s with met := m } :=
  h.setS 1 _ pv ov _ rfl rfl rfl rfl (fun _ g => OR.kp h.p g h.np.1) (fun _ g => OR.kp h.o g h.no.1) rfl rfl
theorem SS.setFirst {w0 w : World} {c : Cn} {XS : List (List Int)} {pv ov : Value} {s : St} (h : SS w0 c XS w pv ov s) (m : Nat) : SS w0 c XS (w.setCell ⟨c.sb, 7, none⟩ (.int .i64 m)) pv ov { s with first := m } :=
  h.setS 7 _ pv ov _ rfl rfl rfl rfl (fun _ g => OR.kp h.p g h.np.1) (fun _ g => OR.kp h.o g h.no.1) rfl rfl
theorem ints_take (l : List Nat) (n : Nat) : (ints l).take n = ints (l.take n) := by simp [ints, List.map_take]
/-- The path's or the open ones' row is shortened. -/
theorem SS.cutP {w0 w : World} {c : Cn} {XS : List (List Int)} {ov : Value} {s : St} {g pc : Nat} (h : SS w0 c XS w (sl g s.path.length pc) ov s) (n : Nat) (hn : n ≤ s.path.length) : SS w0 c XS (w.setCell ⟨c.sb, 5, none⟩ (sl g n pc)) (sl g n pc) ov { s with path := s.path.take n } := by
  have hp : OR w w0.heap.size (.slice (some ⟨g, 0, none⟩) (ints s.path).length pc) (ints s.path) := by rw [ints_len]; exact h.p
  have ht := hp.take n (by rw [ints_len]; exact hn)
  rw [ints_take] at ht
  exact h.setS 5 _ (sl g n pc) ov _ rfl rfl rfl rfl (fun _ gg => OR.kp ht gg h.np.1) (fun _ gg => OR.kp h.o gg h.no.1) rfl rfl
theorem SS.cutO {w0 w : World} {c : Cn} {XS : List (List Int)} {pv : Value} {s : St} {g oc : Nat} (h : SS w0 c XS w pv (sl g s.opn.length oc) s) (n : Nat) (hn : n ≤ s.opn.length) : SS w0 c XS (w.setCell ⟨c.sb, 6, none⟩ (sl g n oc)) pv (sl g n oc) { s with opn := s.opn.take n } := by
  have hp : OR w w0.heap.size (.slice (some ⟨g, 0, none⟩) (ints s.opn).length oc) (ints s.opn) := by rw [ints_len]; exact h.o
  have ht := hp.take n (by rw [ints_len]; exact hn)
  rw [ints_take] at ht
  exact h.setS 6 _ pv (sl g n oc) _ rfl rfl rfl rfl (fun _ gg => OR.kp h.p gg h.np.1) (fun _ gg => OR.kp ht gg h.no.1) rfl rfl
/-- The row of v is another one now, elsewhere or grown; the block has not been told yet. -/
theorem SS.rowP {w0 w w' : World} {c : Cn} {XS : List (List Int)} {pv ov pv' : Value} {s : St} {x : Nat} (h : SS w0 c XS w pv ov s) (ho : OR w' w0.heap.size pv' (ints s.path ++ [(x : Int)])) (hg : w.grownBy w' pv.ownBlock) (ht : RowTo w pv pv') :
    SS w0 c XS (w'.setCell ⟨c.sb, 5, none⟩ pv') pv' ov { s with path := s.path ++ [x] } := by
  have hb : ∀ k, k < w.heap.size → w0.heap.size ≤ k → pv.ownBlock ≠ some k → pv'.ownBlock ≠ some k := by
    intro k hk _ hne
    rcases ht with e | ⟨q, hq, e⟩
    · rw [e]; exact hne
    · rw [e]; intro e2; injection e2 with e2; omega
  have hgl := fun {v : Value} {xs : List Int} (h1 : OR w w0.heap.size v xs) (hne : ∀ q, pv.ownBlock = some q → v.ownBlock ≠ some q) => (show OR w' w0.heap.size v xs from World.ownsRow.kept h1 hg (by
    cases e : pv.ownBlock with
    | none =>
      cases e2 : v.ownBlock with
      | none => exact .inl rfl
      | some q => exact .inr (by simp)
    | some q => exact .inr (hne q e)))
  have lts := h.blk.lt
  have ltr := (h.r.lt c.rg rfl).2
  have ltl := (h.l.lt c.lg rfl).2
  have ltd := (h.d.lt c.dg rfl).2
  have hblk : Bk w' c.sb 82 (cells c XS.length pv ov s) := h.blk.grown hg (fun q hq e => h.np.1 (by rw [hq, e]))
  have g2 := grownBy_setC w' ⟨c.sb, 5, none⟩ pv'
  have hfr : Below w0.heap.size w0 w' := h.fr.trans ⟨hg.os, hg.tape, hg.output, hg.size, fun i hi => hg.block i (Nat.lt_of_lt_of_le hi h.fr.size) (fun e => by
    have := (h.p.lt i e.symm).1; omega)⟩
  have np' : pv'.ownBlock ≠ some c.sb ∧ pv'.ownBlock ≠ some c.rg ∧ pv'.ownBlock ≠ some c.lg ∧ pv'.ownBlock ≠ some c.dg := ⟨hb _ lts h.bs h.np.1, hb _ ltr h.br h.np.2.1, hb _ ltl h.bl h.np.2.2.1, hb _ ltd h.bd h.np.2.2.2⟩
  refine ⟨h.web, hfr.trans ⟨g2.os, g2.tape, g2.output, g2.size, fun i hi => g2.block i (Nat.lt_of_lt_of_le hi hfr.size) (fun e => by
    have e2 : c.sb = i := by injection e with e3; exact e3.symm
    have := h.bs; omega)⟩, hblk.set_ 5 _, h.lr, h.ll, h.ld, ?_, ?_, ?_, ?_, ?_, h.bs, h.br, h.bl, h.bd, h.n1, np', h.no, ?_⟩
  · exact OR.kp (hgl h.r (fun q e e2 => h.np.2.1 (by rw [e, ← e2]; rfl))) g2 (by rw [own_sl]; exact fun e => h.n1.1 (by injection e with e; exact e.symm))
  · exact OR.kp (hgl h.l (fun q e e2 => h.np.2.2.1 (by rw [e, ← e2]; rfl))) g2 (by rw [own_sl]; exact fun e => h.n1.2.1 (by injection e with e; exact e.symm))
  · exact OR.kp (hgl h.d (fun q e e2 => h.np.2.2.2 (by rw [e, ← e2]; rfl))) g2 (by rw [own_sl]; exact fun e => h.n1.2.2.1 (by injection e with e; exact e.symm))
  · have : ints (s.path ++ [x]) = ints s.path ++ [(x : Int)] := by simp [ints]
    show OR _ _ pv' (ints (s.path ++ [x]))
    rw [this]
    exact OR.kp ho g2 np'.1
  · exact OR.kp (hgl h.o (fun q e => h.po q e)) g2 h.no.1
  · intro q hq hoq
    rcases ht with e | ⟨k, hk, e⟩
    · rw [e] at hq; exact h.po q hq hoq
    · rw [e] at hq; injection hq with hq
      have := (h.o.lt q hoq).2; omega
/-- The same, for the open ones' row. -/
theorem SS.rowO {w0 w w' : World} {c : Cn} {XS : List (List Int)} {pv ov ov' : Value} {s : St} {x : Nat} (h : SS w0 c XS w pv ov s) (ho : OR w' w0.heap.size ov' (ints s.opn ++ [(x : Int)])) (hg : w.grownBy w' ov.ownBlock) (ht : RowTo w ov ov') :
    SS w0 c XS (w'.setCell ⟨c.sb, 6, none⟩ ov') pv ov' { s with opn := s.opn ++ [x] } := by
  have hb : ∀ k, k < w.heap.size → w0.heap.size ≤ k → ov.ownBlock ≠ some k → ov'.ownBlock ≠ some k := by
    intro k hk _ hne
    rcases ht with e | ⟨q, hq, e⟩
    · rw [e]; exact hne
    · rw [e]; intro e2; injection e2 with e2; omega
  have hgl := fun {v : Value} {xs : List Int} (h1 : OR w w0.heap.size v xs) (hne : ∀ q, ov.ownBlock = some q → v.ownBlock ≠ some q) => (show OR w' w0.heap.size v xs from World.ownsRow.kept h1 hg (by
    cases e : ov.ownBlock with
    | none =>
      cases e2 : v.ownBlock with
      | none => exact .inl rfl
      | some q => exact .inr (by simp)
    | some q => exact .inr (hne q e)))
  have lts := h.blk.lt
  have ltr := (h.r.lt c.rg rfl).2
  have ltl := (h.l.lt c.lg rfl).2
  have ltd := (h.d.lt c.dg rfl).2
  have hblk : Bk w' c.sb 82 (cells c XS.length pv ov s) := h.blk.grown hg (fun q hq e => h.no.1 (by rw [hq, e]))
  have g2 := grownBy_setC w' ⟨c.sb, 6, none⟩ ov'
  have hfr : Below w0.heap.size w0 w' := h.fr.trans ⟨hg.os, hg.tape, hg.output, hg.size, fun i hi => hg.block i (Nat.lt_of_lt_of_le hi h.fr.size) (fun e => by
    have := (h.o.lt i e.symm).1; omega)⟩
  have no' : ov'.ownBlock ≠ some c.sb ∧ ov'.ownBlock ≠ some c.rg ∧ ov'.ownBlock ≠ some c.lg ∧ ov'.ownBlock ≠ some c.dg := ⟨hb _ lts h.bs h.no.1, hb _ ltr h.br h.no.2.1, hb _ ltl h.bl h.no.2.2.1, hb _ ltd h.bd h.no.2.2.2⟩
  refine ⟨h.web, hfr.trans ⟨g2.os, g2.tape, g2.output, g2.size, fun i hi => g2.block i (Nat.lt_of_lt_of_le hi hfr.size) (fun e => by
    have e2 : c.sb = i := by injection e with e3; exact e3.symm
    have := h.bs; omega)⟩, hblk.set_ 6 _, h.lr, h.ll, h.ld, ?_, ?_, ?_, ?_, ?_, h.bs, h.br, h.bl, h.bd, h.n1, h.np, no', ?_⟩
  · exact OR.kp (hgl h.r (fun q e e2 => h.no.2.1 (by rw [e, ← e2]; rfl))) g2 (by rw [own_sl]; exact fun e => h.n1.1 (by injection e with e; exact e.symm))
  · exact OR.kp (hgl h.l (fun q e e2 => h.no.2.2.1 (by rw [e, ← e2]; rfl))) g2 (by rw [own_sl]; exact fun e => h.n1.2.1 (by injection e with e; exact e.symm))
  · exact OR.kp (hgl h.d (fun q e e2 => h.no.2.2.2 (by rw [e, ← e2]; rfl))) g2 (by rw [own_sl]; exact fun e => h.n1.2.2.1 (by injection e with e; exact e.symm))
  · exact OR.kp (hgl h.p (fun q e e2 => h.po q e2 e)) g2 h.np.1
  · have : ints (s.opn ++ [x]) = ints s.opn ++ [(x : Int)] := by simp [ints]
    show OR _ _ ov' (ints (s.opn ++ [x]))
    rw [this]
    exact OR.kp ho g2 no'.1
  · intro q hq hoq
    rcases ht with e | ⟨k, hk, e⟩
    · rw [e] at hoq; exact h.po q hq hoq
    · rw [e] at hoq; injection hoq with hoq
      have := (h.p.lt q hq).2; omega
end Tj
end Go.Proofs.YtmhpaacjioeknaaGreat
