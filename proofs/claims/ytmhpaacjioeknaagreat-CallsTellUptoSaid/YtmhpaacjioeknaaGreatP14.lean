/-
  The page's example, read. The walk of the law's lives. The law of costs. The end of a law's proof: it answered true, and nothing that was there has turned. How many statements main comes to is what the document says: for every program of which what is read is of bulk at most 1048576.
-/
import Derived.Test.YtmhpaacjioeknaaGreatP13
import Derived.Test.YtmhpaacjioeknaaGreatP10
import Derived.ProofKit
import Derived.Laws.Cover2
import Derived.JoinedCond
set_option maxHeartbeats 6400000
set_option maxRecDepth 100000
namespace Go.Proofs.YtmhpaacjioeknaaGreat
def exB : ByteArray := ⟨#[118, 111, 105, 100, 32, 97, 40, 41, 32, 123, 32, 59, 32, 59, 32, 125, 32, 118, 111, 105, 100, 32, 109, 97, 105, 110, 40, 41, 32, 123, 32, 97, 40, 41, 59, 32, 97, 40, 41, 59, 32, 125]⟩
theorem ex_lexed : (Tx.alls exB).2.2 = 0 := by kernel_rfl
def exRes : Pr.Res Pg := Pa.rprog (Tx.alls exB).1 ((Tx.alls exB).1.length + 1) ((Tx.alls exB).1.length + 1) [] [] [] ⟨0, 0, 0⟩
def exSum : Pr.Res Pg → Option (List (ByteArray × List ByteArray × Int))
 | .ok (p, _) => some (p.procs.l.map fun x => (x.name, x.body.every, x.body.cntFrom 0))
 | .error _ => none
theorem ex_read : exSum exRes = some [(⟨#[97]⟩, [], 2), (mainB, [⟨#[97]⟩, ⟨#[97]⟩], 2)] := by kernel_rfl
theorem pl_every : ∀ l : SL, l.pl.every = l.every
 | .nil => rfl
 | .cons h tp tc t ep ec e r => by
  simp only [SL.pl, SL.every]
  rw [pl_every t, pl_every e, pl_every r]; rfl
theorem pl_cnt : ∀ (l : SL) (a : Int), l.pl.cntFrom a = l.cntFrom a
 | .nil, _ => rfl
 | .cons h tp tc t ep ec e r, a => by
  simp only [SL.pl, SL.cntFrom]
  rw [pl_cnt t, pl_cnt e, pl_cnt r]
def sumOf (l : List Pc) : List (ByteArray × List ByteArray × Int) := l.map fun x => (x.name, x.body.every, x.body.cntFrom 0)
theorem sum_pl (l : List Pc) : sumOf (l.map Pc.pl) = sumOf l := by
 unfold sumOf
 rw [List.map_map]
 apply List.map_congr_left
 intro x _
 show (x.name, x.body.pl.every, x.body.pl.cntFrom 0) = _
 rw [pl_every, pl_cnt]
def exSumL : List (ByteArray × List ByteArray × Int) := [(⟨#[97]⟩, [], 2), (mainB, [⟨#[97]⟩, ⟨#[97]⟩], 2)]
def exWeb : List (List Int) := [[], [0]]
theorem ex_told : Told exWeb [0, 1] := by
 refine .snoc [0] 1 (.snoc [] 0 .nil ⟨by decide, by decide, by decide⟩ (fun k _ => Nat.zero_le _)) ⟨by decide, by decide, by decide⟩ ?_
 intro k hk
 cases k with
 | zero => exact absurd hk.2.1 (by decide)
 | succ k => omega
/-- What the example's procedures are. -/
structure ExOk (l : List Pc) : Prop where
 nm : nms l = [⟨#[97]⟩, mainB]
 wb : web l = exWeb
 py : pays l [0, 1] [0, 0] = [2, 6]
 ok : PsOk l
 len : l.length = 2
theorem ex_ok {l : List Pc} (h : sumOf l = exSumL) : ExOk l := by
 have hl : l.length = 2 := by
  have h1 := congrArg List.length h
  rw [sumOf, List.length_map] at h1
  exact h1
 obtain ⟨p0, p1, rfl⟩ : ∃ p0 p1, l = [p0, p1] := by
  rcases l with _ | ⟨p0, _ | ⟨p1, _ | ⟨p2, r⟩⟩⟩
  ·simp at hl
  ·simp at hl
  ·exact ⟨p0, p1, rfl⟩
  ·simp at hl
 unfold sumOf exSumL at h
 simp only [List.map_cons, List.map_nil, List.cons.injEq, Prod.mk.injEq, and_true] at h
 obtain ⟨⟨hn0, he0, hc0⟩, ⟨hn1, he1, hc1⟩⟩ := h
 have hnm : nms [p0, p1] = [⟨#[97]⟩, mainB] := by simp [nms, hn0, hn1]
 refine ⟨hnm, ?_, ?_, ⟨by simp, ?_, ?_⟩, rfl⟩
 ·show [cal (nms [p0, p1]) (uq [] p0.body.every), cal (nms [p0, p1]) (uq [] p1.body.every)] = _
  rw [hnm, he0, he1]; kernel_rfl
 ·have h1 : costOf (nms [p0, p1]) [0, 0] p0.body = 2 := by unfold costOf; rw [hnm, he0, hc0]; rfl
  have h2 : costOf (nms [p0, p1]) [2, 0] p1.body = 6 := by unfold costOf; rw [hnm, he1, hc1]; kernel_rfl
  show (([0, 0] : List Int).set 0 (costOf (nms [p0, p1]) [0, 0] p0.body)).set 1 (costOf (nms [p0, p1]) (([0, 0] : List Int).set 0 (costOf (nms [p0, p1]) [0, 0] p0.body)) p1.body) = _
  rw [h1]
  show ([2, 0] : List Int).set 1 (costOf (nms [p0, p1]) [2, 0] p1.body) = _
  rw [h2]; rfl
 ·intro x hx
  simp only [List.mem_cons, List.not_mem_nil, or_false] at hx
  rcases hx with rfl | rfl
  ·rw [hn0]; unfold maxLen; decide
  ·rw [hn1]; unfold maxLen mainB; decide
 ·intro x hx
  simp only [List.mem_cons, List.not_mem_nil, or_false] at hx
  have hk : ∀ b : SL, b.cntFrom 0 = 2 → b.count ≤ 10000 := by
   intro b hb
   have := SL.cntFrom_eq b 0
   omega
  rcases hx with rfl | rfl
  ·refine ⟨hk _ hc0, ?_⟩
   intro y hy
   rw [uq_mem, he0] at hy
   simp at hy
  ·refine ⟨hk _ hc1, ?_⟩
   intro y hy
   rw [uq_mem, he1] at hy
   simp at hy
   rw [hy]; unfold maxLen; decide
/-- The example costs 6. -/
theorem ex_cost {l : List Pc} (h : ExOk l) {v : Int} (hv : CostIs l v) : v = 6 := by
 refine costs_alike h.ok hv ?_
 have ht : Told (web l) [0, 1] := by rw [h.wb]; exact ex_told
 unfold RCost
 rw [if_pos (by rw [h.nm]; decide)]
 refine .inr ⟨?_, [0, 1], ht, by rw [h.len]; rfl, ?_⟩
 ·have h1 := told_all ht (by rw [h.wb]; rfl)
  rw [h.wb] at h1
  rw [h.wb, h.len]; exact h1
 ·rw [h.len, h.nm]
  show 6 = fn (pays l [0, 1] [0, 0]) _
  rw [h.py]; kernel_rfl
/-- Its order has two numbers. -/
theorem ex_order {l : List Pc} (h : ExOk l) {w w' : World} {v : Value} (hv : OrdPost (web l) w w' v) : ∃ a c, v = .slice a 2 c := by
 obtain ⟨os, ht, hr, _, h4⟩ := hv
 have hno : ∀ i, i < (web l).length → ¬ Rt (web l) i i := told_all (os := [0, 1]) (by rw [h.wb]; exact ex_told) (by rw [h.wb]; rfl)
 rcases h4 with ⟨h5, _⟩ | ⟨h5, h6⟩
 ·obtain ⟨k, hk⟩ := ready_of (web_inR h.ok) h5 hno
  exact absurd hk (hr k)
 ·obtain ⟨a, c, rfl⟩ := h6.shape
  rw [web_len, h.len] at h5
  exact ⟨a, c, by rw [h5]⟩
end Go.Proofs.YtmhpaacjioeknaaGreat
namespace Go.Proofs.YtmhpaacjioeknaaGreat
open Go.RowKit Go.Maps Go.Sort Go.WideMaps
theorem fresh_ext (B : Nat) (w : World) : Ext (fresh B w) w := by
 intro b o v h
 unfold fresh at h
 rw [mask_cell] at h
 split at h
 ·cases h
 ·exact h
theorem ex_prog (w : World) : Calls Tryz.prog 14 #[.string exB] w fun e w' => ∃ (p : Pg) (at_ : Int), e = .returned (.tuple #[.agg #[.slice p.structs.p p.structs.l.length p.structs.cap, .slice p.globals.p p.globals.l.length p.globals.cap, .slice p.procs.p p.procs.l.length p.procs.cap], .int .i64 at_, .int .i64 0]) ∧ Below w.heap.size w w' ∧ pcsLie w' p.procs ∧ Hid (ExOk p.procs.l) := by
 refine (refProg_any exB w (by decide)).mono ?_
 rintro e w' ⟨p, a, e, rfl, hb, h⟩
 have hr := ex_read
 rcases h with ⟨rfl, _, ⟨u, h1⟩, h2⟩ | ⟨_, h1⟩
 ·refine ⟨p, a, rfl, hb, pcsLie_ext (fresh_ext _ _) h2.2.2, hdn (ex_ok ?_)⟩
  unfold exRes at hr
  rw [h1] at hr
  injection hr with hr
  rw [← sum_pl]
  exact hr
 ·exfalso
  rcases h1 with h1 | ⟨n, h1⟩
  ·exact h1 ex_lexed
  ·unfold exRes at hr
   rw [h1] at hr
   cases hr
theorem lives_any (w : World) : Calls Tryz.prog 5 #[] w fun e w' => e = .returned (.bool true) ∧ Below w.heap.size w w' := by
 have HE := hdn (ex_prog w)
 unfold exB at HE
 go_enter Tryz.func5, Tryz.ntmps5
 go_wp2_with (first | (go_at_call 14; refine (HE.out).mono ?_; rintro en w2 ⟨p, a, rfl, hb, hl, hx⟩; have HB2 := hdn hb; have HX := hx; have hal : Below w2.heap.size w2 (w2.alloc (.cells #[.slice p.structs.p p.structs.l.length p.structs.cap, .slice p.globals.p p.globals.l.length p.globals.cap, .slice p.procs.p p.procs.l.length p.procs.cap] 26)) := (Below.refl _ _).alloc (Nat.le_refl _) _; have HA3 := hdn hal; have HL3 := hdn (pcsLie_below hl hal); have HK3 := hdn (prog_box w2 (.slice p.structs.p p.structs.l.length p.structs.cap) (.slice p.globals.p p.globals.l.length p.globals.cap) (.slice p.procs.p p.procs.l.length p.procs.cap)); clear hb hl hal) | (go_at_call 15; refine (pcost_any _ _ p.procs _ HL3.out HX.out.ok).mono ?_; rintro en w4 ⟨v, rfl, hc, hb⟩; obtain rfl := ex_cost HX.out hc; have HB4 := hdn hb; have hbk := HK3.out.below hb HK3.out.lt; have b0 := hbk.cell 0; have b1 := hbk.cell 1; have b2 := hbk.cell 2; simp only [List.getElem?_toArray, List.getElem?_cons_zero, List.getElem?_cons_succ] at b0 b1 b2; have HL4 := hdn (pcsLie_below HL3.out hb); clear hb hbk hc) | (go_at_call 11; refine (porder_any _ _ p.procs _ HL4.out HX.out.ok).mono ?_; rintro en w5 ⟨v, rfl, hv⟩; obtain ⟨a5, c5, rfl⟩ := ex_order HX.out hv; have HB5 : Hid (Below w4.heap.size w4 w5) := hdn (by obtain ⟨_, _, _, h9, _⟩ := hv; exact h9); clear hv))
 go_ret
 exact ⟨rfl, HB2.out.trans ((HA3.out.trans ((HB4.out.trans (HB5.out.mono HB4.out.size)).mono HA3.out.size)).mono HB2.out.size)⟩
end Go.Proofs.YtmhpaacjioeknaaGreat
namespace Go.Proofs.YtmhpaacjioeknaaGreat
open Go.RowKit Go.Maps Go.Sort Go.WideMaps
theorem least_of {P : Nat → Prop} : ∀ (n : Nat), P n → ∃ k, P k ∧ ∀ j, P j → k ≤ j := by
 intro n
 induction n using Nat.strongRecOn with
 | ind n ih =>
  intro h
  by_cases hj : ∃ j, j < n ∧ P j
  ·obtain ⟨j, h1, h2⟩ := hj
   exact ih j h1 h2
  ·refine ⟨n, h, fun j h1 => ?_⟩
   apply Classical.byContradiction
   intro h2
   exact hj ⟨j, by omega, h1⟩
theorem told_full {XS : List (List Int)} (hr : InR XS) (hc : ∀ i, i < XS.length → ¬ Rt XS i i) : ∀ k, k ≤ XS.length → ∃ os, Told XS os ∧ os.length = k
 | 0, _ => ⟨[], .nil, rfl⟩
 | k + 1, h => by
  obtain ⟨os, h1, h2⟩ := told_full hr hc k (by omega)
  obtain ⟨j, hj⟩ := ready_of (os := os) hr (by omega) hc
  obtain ⟨i, hi, hm⟩ := least_of j hj
  exact ⟨os ++ [(i : Int)], .snoc os i h1 hi hm, by rw [List.length_append, h2]; rfl⟩
theorem rcost_ex {l : List Pc} (hP : PsOk l) : ∃ v, RCost l v := by
 unfold RCost
 by_cases hm : isIn (nms l) mainB = true
 ·simp only [if_pos hm]
  by_cases hcy : ∃ i, i < l.length ∧ Rt (web l) i i
  ·exact ⟨0, .inl ⟨hcy, rfl⟩⟩
  ·have hno : ∀ i, i < l.length → ¬ Rt (web l) i i := fun i h1 h2 => hcy ⟨i, h1, h2⟩
   obtain ⟨os, h1, h2⟩ := told_full (web_inR hP) (by rw [web_len]; exact hno) (web l).length (Nat.le_refl _)
   exact ⟨_, .inr ⟨hno, os, h1, by rw [h2, web_len], rfl⟩⟩
 ·simp only [if_neg hm]
  exact ⟨0, rfl⟩
theorem rcost_one {l : List Pc} {a b : Int} (ha : RCost l a) (hb : RCost l b) : a = b := by
 unfold RCost at ha hb
 by_cases hm : isIn (nms l) mainB = true
 ·rw [if_pos hm] at ha hb
  rcases ha with ⟨⟨i, hi, hri⟩, ha⟩ | ⟨hno, os, ht, hl, ha⟩
  ·rcases hb with ⟨_, hb⟩ | ⟨hno, _⟩
   ·rw [ha, hb]
   ·exact absurd hri (hno i hi)
  ·rcases hb with ⟨⟨i, hi, hri⟩, hb⟩ | ⟨_, qs, hq, hql, hb⟩
   ·exact absurd hri (hno i hi)
   ·have h1 := told_one ht hq (by omega)
    rw [List.take_of_length_le (by omega)] at h1
    rw [ha, hb, h1]
 ·rw [if_neg hm] at ha hb
  rw [ha, hb]
end Go.Proofs.YtmhpaacjioeknaaGreat
namespace Go.Proofs.YtmhpaacjioeknaaGreat
open Go.ChangeShapes Go.WideShapes Go.ChangeAt Go.RowKit
/-- A law's end: 'true', no variable named, the arguments read as they did. -/
theorem law_end {H : Type} {enc : TypeId × Value → H} {P : Program} {f : Func} {s : ChangeSpec} {apart fresh handsOn : Bool} {W W' : World} {args : Array Value} {ds : List (DataW H)} {before : List MemPlace} {t : TypeId}
  (hW : DataW.Whole enc P f.params.toList s.vars apart W args.toList ds [] before)
  (hr : f.resultTypes = #[t]) (ht : P.underlying t = some .bool)
  (hres : (s.fn H (ds ++ [])).results = [.lit (.bool true)])
  (hargs : DataW.TrodAll enc P W' 0 (fun b => decide (b < W.heap.size)) true f.params.toList args.toList (s.fn H (ds ++ [])).args before)
  (hvars : DataW.TrodVars enc P W' (fun b => decide (b < W.heap.size)) s.vars (s.fn H (ds ++ [])).vars [])
  (hb : Below W.heap.size W W') : s.post enc P f apart fresh handsOn false W args (.bool true) W' := by
 refine ⟨ds, [], before, [], before, [], hW, ?_, hargs, hvars, hb.frame _, fun h => by cases h⟩
 rw [hr, hres]
 exact trodAll_mk1 (shut_bool ht true)
end Go.Proofs.YtmhpaacjioeknaaGreat
namespace Go.Proofs.YtmhpaacjioeknaaGreat
open Go.ChangeShapes Go.WideShapes Go.ChangeAt Go.RowKit
/-- The bound, as it is handed over. -/
theorem wt_first {H : Type} {d : DataW H} {r : List (DataW H)} {t : TypeId} (hk : Rows.uptoSmall H (d :: r) = true) : opn.Wt t d := by
 have h : Rows.uptoBulkAll (d :: r) ≤ 1048576 := of_decide_eq_true hk
 simp only [Rows.uptoBulkAll] at h
 unfold opn.Wt
 omega
def pval (x : Pg) : Array Value := #[.slice x.structs.p x.structs.l.length x.structs.cap, .slice x.globals.p x.globals.l.length x.globals.cap, .slice x.procs.p x.procs.l.length x.procs.cap]
end Go.Proofs.YtmhpaacjioeknaaGreat
