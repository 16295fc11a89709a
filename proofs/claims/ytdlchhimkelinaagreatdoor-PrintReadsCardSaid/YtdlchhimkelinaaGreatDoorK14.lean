/-
  The document's reader: statements in braces. The document's reader: statements one after the other. The document's reader: a text opened. Plain: a statement as the document's reader takes it. Plain: the document's reader of statements and the parser's make the same. Plain: the document's reader of s
-/
import Derived.Test.YtdlchhimkelinaaGreatDoorK13
import Derived.Test.YtdlchhimkelinaaGreatDoorK05
import Derived.Test.YtdlchhimkelinaaGreatDoorK04
set_option maxHeartbeats 6400000
set_option maxRecDepth 100000
namespace Go.Proofs.YtdlchhimkelinaaGreatDoor
open Go.RowKit Go.Sort
attribute [local go_sem] field72_0 field72_1 field72_2 field72_3
/-- Addresses struck, places kept. -/
def Pth.pl (x : Pth) : Pth := ⟨x.name, x.pos, ⟨none, 0, x.hops.l⟩⟩
def Cd.pl (x : Cd) : Cd := ⟨x.kind, x.pos, x.left.pl, x.right.pl⟩
def Hd.pl (x : Hd) : Hd := ⟨x.kind, x.pos, x.place.pl, x.value.pl, x.cond.pl, x.name, ⟨none, 0, x.args.l.map Vl.pl⟩, x.both⟩
def SL.pl : SL → SL
 | .nil => .nil
 | .cons h _ _ t _ _ e r => .cons h.pl none 0 t.pl none 0 e.pl r.pl
/-- A list of statements in a result. -/
def SLq (B : Nat) (w : World) (v : Value) (a : SL) : Prop := ∃ (p : Option Addr) (c : Nat) (s : SL), v = .slice p s.len c ∧ s.pl = a ∧ sLies (fresh B w) p s
theorem SLq.par {B g : Nat} {w w' : World} {v : Value} {a : SL} (h : SLq B w v a) (hg : w.grownBy w' (some g)) (hB : g < B) : SLq B w' v a := by
 obtain ⟨p, c, s, h1, h2, h3⟩ := h
 exact ⟨p, c, s, h1, h2, sLies_ext (fresh_par hg hB) h3⟩
theorem SLq.mono {B B' : Nat} {w : World} {v : Value} {a : SL} (h : SLq B w v a) (hB : B' ≤ B) : SLq B' w v a := by
 obtain ⟨p, c, s, h1, h2, h3⟩ := h
 exact ⟨p, c, s, h1, h2, sLies_ext (fresh_mono hB _) h3⟩
theorem RS.deep {w : World} {rb sb cap : Nat} {l : List Tx.Sg} {k : Nat} {o b a e : Int} (h : RS w rb sb cap l k o b a e) (o' : Int) : RS (w.setCell ⟨rb, 2, none⟩ (.int .i64 o')) rb sb cap l k o' b a e :=
 ⟨by have := h.blk.set_ 2 (.int .i64 o'); simpa using this, fun j x hx => range_grown (h.row j x hx) (grownBy_setC w ⟨rb, 2, none⟩ _) h.ne, h.ne, h.pos, h.len, h.kb⟩
section
variable {α : Type} {rb sb cap : Nat} {l : List Tx.Sg} {o : Int} {N : Nat}
theorem RM.deep {w : World} {r : Pr.Res α} (h : RM w rb sb cap l o N r) (k : Int) : RM (w.setCell ⟨rb, 2, none⟩ (.int .i64 k)) rb sb cap l k N (Pr.th r fun x u => .ok (x, ⟨u.i, k, u.b⟩)) := by
 rcases r with n | ⟨x, u⟩
 ·obtain ⟨k', b, a, e, e1, e2, e3, e4, e5⟩ := h; exact ⟨k', b, a, e, e1, e2, e3, e4, e5.deep k⟩
 ·obtain ⟨h1, h2, rfl, h3⟩ := h; exact ⟨h1.deep k, h2, rfl, h3⟩
theorem RM.deepAt {w : World} {r : Pr.Res α} (h : RM w rb sb cap l o N r) : w.cell? ⟨rb, 2, none⟩ = some (.int .i64 o) ∧ w.frozen? ⟨rb, 2, none⟩ = false := by
 rcases r with n | ⟨x, u⟩
 ·obtain ⟨k', b, a, e, e1, e2, e3, e4, e5⟩ := h; exact ⟨e5.blk.cell 2, e5.blk.frozen 2⟩
 ·obtain ⟨h1, h2, rfl, h3⟩ := h; exact ⟨h1.blk.cell 2, h1.blk.frozen 2⟩
theorem RM.oAt {w : World} {r : Pr.Res α} (h : RM w rb sb cap l o N r) : ∀ x u, r = .ok (x, u) → u.o = o := by
 intro x u hr; subst hr; exact h.2.2.1
/-- What is in braces, once the brace may stand. -/
def braced (l : List Tx.Sg) (rec : Pr.St → Pr.Res SL) (rq : Pr.Res α) : Pr.Res SL :=
 Pr.th rq fun _ u =>
 Pr.th (Pr.must (Pa.ts l) ⟨#[123]⟩ u) fun _ u =>
 Pr.th (rec ⟨u.i, u.o + 1, u.b⟩) fun a u =>
 Pr.th (Pr.must (Pa.ts l) ⟨#[125]⟩ u) fun _ u =>
 .ok (a, ⟨u.i, u.o - 1, u.b⟩)
theorem list_fin {rq : Pr.Res α} {rec : Pr.St → Pr.Res SL} {x : SL} (hq : ∀ x u, rq = .ok (x, u) → u.o = o)
  (hr : ∀ x u, (Pr.th (Pr.th (Pr.th rq fun _ u => Pr.must (Pa.ts l) ⟨#[123]⟩ u) fun _ u => (.ok ((), ⟨u.i, o + 1, u.b⟩) : Pr.Res Unit)) fun _ u => rec u) = .ok (x, u) → u.o = o + 1)
  (hx : ∀ y u, (Pr.th (Pr.th (Pr.th rq fun _ u => Pr.must (Pa.ts l) ⟨#[123]⟩ u) fun _ u => (.ok ((), ⟨u.i, o + 1, u.b⟩) : Pr.Res Unit)) fun _ u => rec u) = .ok (y, u) → x = y) :
  (∀ y u, braced l rec rq = .ok (y, u) → x = y) ∧
  (Pr.th (Pr.th (Pr.th (Pr.th (Pr.th (Pr.th rq fun _ u => Pr.must (Pa.ts l) ⟨#[123]⟩ u) fun _ u => (.ok ((), ⟨u.i, o + 1, u.b⟩) : Pr.Res Unit)) fun _ u => rec u) fun x u => .ok (x, ⟨u.i, o, u.b⟩)) fun _ u => Pr.must (Pa.ts l) ⟨#[125]⟩ u) fun _ u => .ok ((), u)) = Pr.th (braced l rec rq) fun _ u => .ok ((), u) := by
 unfold braced
 rcases rq with n | ⟨x0, u0⟩
 ·exact ⟨(by intro y u hy; cases hy), rfl⟩
 have h0 := hq x0 u0 rfl
 change ∀ x u, (Pr.th (Pr.th (Pr.must (Pa.ts l) ⟨#[123]⟩ u0) _) _) = _ → _ at hr
 change ∀ y u, (Pr.th (Pr.th (Pr.must (Pa.ts l) ⟨#[123]⟩ u0) _) _) = _ → _ at hx
 show (∀ y u, Pr.th (Pr.must (Pa.ts l) ⟨#[123]⟩ u0) _ = _ → _) ∧ (Pr.th (Pr.th (Pr.th (Pr.th (Pr.th (Pr.must (Pa.ts l) ⟨#[123]⟩ u0) _) _) _) _) _) = Pr.th (Pr.th (Pr.must (Pa.ts l) ⟨#[123]⟩ u0) _) _
 rcases q : Pr.must (Pa.ts l) ⟨#[123]⟩ u0 with n | ⟨t1, u1⟩
 ·exact ⟨(by intro y u hy; cases hy), rfl⟩
 have h1 : u1.o = o := by
  unfold Pr.must at q
  split at q
  ·injection q with q; injection q with a b; rw [← b]; exact h0
  ·cases q
 rw [q] at hr hx
 change ∀ x u, rec ⟨u1.i, o + 1, u1.b⟩ = .ok (x, u) → _ at hr
 change ∀ y u, rec ⟨u1.i, o + 1, u1.b⟩ = .ok (y, u) → _ at hx
 show (∀ y u, Pr.th (rec ⟨u1.i, u1.o + 1, u1.b⟩) _ = _ → _) ∧ (Pr.th (Pr.th (Pr.th (rec ⟨u1.i, o + 1, u1.b⟩) _) _) _) = Pr.th (Pr.th (rec ⟨u1.i, u1.o + 1, u1.b⟩) _) _
 rw [h1]
 rcases q2 : rec ⟨u1.i, o + 1, u1.b⟩ with n | ⟨a, u2⟩
 ·exact ⟨(by intro y u hy; cases hy), rfl⟩
 have h2 := hr a u2 q2
 have h3 := hx a u2 q2
 have hi : Pr.must (Pa.ts l) ⟨#[125]⟩ (⟨u2.i, o, u2.b⟩ : Pr.St) = Pr.th (Pr.must (Pa.ts l) ⟨#[125]⟩ u2) fun t u => .ok (t, ⟨u.i, u.o - 1, u.b⟩) := by
  unfold Pr.must
  show (if Pr.is (Pa.ts l) u2.i ⟨#[125]⟩ = true then _ else _) = _
  by_cases hc : Pr.is (Pa.ts l) u2.i ⟨#[125]⟩ = true
  ·rw [if_pos hc, if_pos hc]
   show Except.ok (_, _) = Except.ok (_, (⟨u2.i + 1, u2.o - 1, u2.b⟩ : Pr.St))
   rw [h2, show o + 1 - 1 = o by omega]; rfl
  ·rw [if_neg hc, if_neg hc]; rfl
 show (∀ y u, Pr.th (Pr.must (Pa.ts l) ⟨#[125]⟩ u2) _ = _ → _) ∧ (Pr.th (Pr.must (Pa.ts l) ⟨#[125]⟩ (⟨u2.i, o, u2.b⟩ : Pr.St)) _) = Pr.th (Pr.th (Pr.must (Pa.ts l) ⟨#[125]⟩ u2) _) _
 rw [hi]
 rcases Pr.must (Pa.ts l) ⟨#[125]⟩ u2 with n | ⟨t3, u3⟩
 ·exact ⟨(by intro y u hy; cases hy), rfl⟩
 ·exact ⟨(by intro y u hy; injection hy with hy; injection hy with a b; rw [h3, a]), rfl⟩
theorem fuel_in {rq : Pr.Res α} {n : Nat} {k : Int} (h : ∀ x u, rq = .ok (x, u) → l.length < u.i + 1 + n) : ∀ x u, (Pr.th (Pr.th rq fun _ u => Pr.must (Pa.ts l) ⟨#[123]⟩ u) fun _ u => (.ok ((), ⟨u.i, k, u.b⟩) : Pr.Res Unit)) = .ok (x, u) → l.length < u.i + n := by
 intro x u hu
 rcases rq with m | ⟨x0, u0⟩
 ·cases hu
 have h0 := h x0 u0 rfl
 change (Pr.th (Pr.must (Pa.ts l) ⟨#[123]⟩ u0) _) = _ at hu
 rcases q : Pr.must (Pa.ts l) ⟨#[123]⟩ u0 with m | ⟨t, u1⟩
 ·rw [q] at hu; cases hu
 ·rw [q] at hu; injection hu with hu; injection hu with a b
  have h1 := must_go q
  rw [← b]; show l.length < u1.i + n; omega
theorem must_no_ok {rq : Pr.Res α} {k : Int} (h : ∀ x u, rq = .ok (x, u) → Pr.is (Pa.ts l) u.i ⟨#[123]⟩ = false) {x : Unit} {u : Pr.St} (hu : (Pr.th (Pr.th rq fun _ u => Pr.must (Pa.ts l) ⟨#[123]⟩ u) fun _ u => (.ok ((), ⟨u.i, k, u.b⟩) : Pr.Res Unit)) = .ok (x, u)) : False := by
 rcases rq with m | ⟨x0, u0⟩
 ·cases hu
 have h0 := h x0 u0 rfl
 change (Pr.th (Pr.must (Pa.ts l) ⟨#[123]⟩ u0) _) = _ at hu
 unfold Pr.must at hu
 rw [if_neg (by rw [h0]; decide)] at hu
 cases hu
/-- What the reader of statements does up to a brace. -/
def SRq (rb sb cap : Nat) (l : List Tx.Sg) (N n : Nat) (rec : Pr.St → Pr.Res SL) : Prop := ∀ (w : World) (o : Int) (r0 : Pr.Res Unit), RM w rb sb cap l o N r0 → 0 ≤ o → o ≤ 21 → (∀ x u, r0 = .ok (x, u) → o ≤ 20) → (∀ x u, r0 = .ok (x, u) → l.length < u.i + n) →
 Calls Tryz.prog 53 #[.pointer (some ⟨rb, 0, none⟩), .string ⟨#[125]⟩] w (RP (SLq w.heap.size) w rb sb cap l o (N + 1) (Pr.th r0 fun _ u => rec u))
theorem list_m (n : Nat) (rec : Pr.St → Pr.Res SL) (hrec : SRq rb sb cap l N n rec) (C : RC l N) (hN8 : N ≤ 800000) (w : World) (r0 : Pr.Res α) (h : RM w rb sb cap l o N r0) (ho : 0 ≤ o ∧ o ≤ 20) (hfu : ∀ x u, r0 = .ok (x, u) → l.length < u.i + 1 + n) :
  Calls Tryz.prog 130 #[.pointer (some ⟨rb, 0, none⟩)] w (RP (SLq w.heap.size) w rb sb cap l o (N + 1) (Pr.th r0 fun _ u => Pr.block (Pa.ts l) rec u)) := by
 have HC := hdn C
 have HC2 := hdn (C.more hN8)
 have HREC := hdn hrec
 have HO := hdn ho
 have HRB : Hid (rb < w.heap.size) := hdn h.rb_lt
 have HM := hdn h
 have HFUE := hdn hfu
 clear hN8 hrec ho hfu
 have HOA := hdn h.oAt
 obtain ⟨r, hr⟩ : ∃ r, r = Pr.th r0 fun _ u => Pr.block (Pa.ts l) rec u := ⟨_, rfl⟩
 rw [← hr]
 have HR := hdn hr
 have HBR : Hid (r = braced l rec (Pr.th r0 fun _ u => Pr.mustHold (Pa.ts l) u)) := hdn (by
  rw [hr]; rcases r0 with n | ⟨x, u⟩ <;> rfl)
 clear h hr
 go_enter Tryz.func130, Tryz.ntmps130
 go_wp2_with fail
 refine (is_m HC.out ⟨#[123]⟩ (by decide) w r0 HM.out).mono ?_
 rintro en w1 ⟨hb, hh⟩
 have HM1 := hdn (HM.out.below hb)
 have HG1 : Hid (w.grownBy w1 (some rb)) := hdn (grownBy_of hb _)
 clear hb HM
 rcases hh with ⟨rfl, x0, u, hr0, hi, hlt⟩ | ⟨rfl, hf⟩
 ·have HR0 := hdn hr0
  have HI := hdn hi
  clear hr0 hi hlt
  obtain ⟨c2, f2⟩ := HM1.out.deepAt
  by_cases h20 : o = 20
  ·have hd : (o == 20) = true := by rw [h20]; rfl
   have H20 := hdn h20
   clear h20
   go_wp2_with fail
   clear c2 f2 hd
   refine (now_m w1 r0 HM1.out).mono ?_
   rintro en w2 ⟨hb, z, rfl, hz⟩
   have HM2 := hdn (HM1.out.below hb)
   have HG2 := hdn (grownBy_below HG1.out hb)
   clear hb hz HM1 HG1
   go_wp2_with fail
   refine (stop_m HC.out z.pos 6 (by decide) w2 r0 HM2.out).mono ?_
   rintro en w4 ⟨rfl, g4, hm⟩
   have HM4 := hdn hm
   have HG4 := hdn (grownBy_tr HG2.out g4)
   clear hm g4 HM2 HG2
   have HERR : Hid (∃ n, r = .error n) := hdn (by
    rw [HBR.out, HR0.out]
    show ∃ n, braced l rec (Pr.mustHold (Pa.ts l) u) = _
    have ho := HOA.out x0 u HR0.out
    unfold Pr.mustHold
    rw [HI.out, ho, H20.out]; exact ⟨_, rfl⟩)
   go_wp2_with fail
   refine (want_m HC.out ⟨#[123]⟩ (by decide) w4 ((Except.error (6, 0) : Pr.Res α)) HM4.out).mono ?_
   rintro en w5 ⟨rfl, g5, hm⟩
   have HM5 := hdn hm
   have HG5 := hdn (grownBy_tr HG4.out g5)
   clear hm g5 HM4 HG4
   obtain ⟨c2, f2⟩ := HM5.out.deepAt
   have ho0 : 0 ≤ o := HO.out.1
   have ho1 : o ≤ 20 := HO.out.2
   go_upto_region 5 with fail
   clear c2 f2
   have g6 : w5.grownBy (w5.setCell ⟨rb, 2, none⟩ (.int .i64 (o + 1))) (some rb) := grownBy_setC w5 ⟨rb, 2, none⟩ _
   have HM6 := hdn ((HM5.out.deep (o + 1)).as (Pr.th (Pr.th ((Except.error (6, 0) : Pr.Res α)) fun _ u => Pr.must (Pa.ts l) ⟨#[123]⟩ u) fun _ u => .ok ((), ⟨u.i, o + 1, u.b⟩)) (by rcases (Pr.th ((Except.error (6, 0) : Pr.Res α)) fun _ u => Pr.must (Pa.ts l) ⟨#[123]⟩ u) with n | ⟨y, u⟩ <;> exact .inl rfl))
   have HG6 := hdn (grownBy_tr HG5.out g6)
   have HLE := hdn HG6.out.size
   clear g6 HM5 HG5
   generalize w5.setCell ⟨rb, 2, none⟩ (.int .i64 (o + 1)) = w6 at HM6 HG6 HLE ⊢
   go_wp2_with fail
   refine (HREC.out w6 (o + 1) _ HM6.out (by have := HO.out; omega) (by have := HO.out; omega) (by intro x u hc; cases hc) (fuel_in (by intro x u hc; cases hc))).mono ?_
   rintro en w7 ⟨g7, v, x, rfl, hk, hx, hm⟩
   have HX := hdn hx
   have HM7 := hdn hm
   have HV := hdn hk
   have HG7 := hdn (grownBy_tr HG6.out g7)
   clear hx hm hk g7 HM6 HG6
   obtain ⟨c2, f2⟩ := HM7.out.deepAt
   go_upto_region 7 with fail
   clear c2 f2 ho0 ho1
   have g8 : w7.grownBy (w7.setCell ⟨rb, 2, none⟩ (.int .i64 o)) (some rb) := grownBy_setC w7 ⟨rb, 2, none⟩ _
   have HOR := hdn HM7.out.oAt
   have HM8 := hdn (HM7.out.deep o)
   have HG8 := hdn (grownBy_tr HG7.out g8)
   have HV8 := hdn (SLq.par HV.out g8 (by have := HLE.out; have := HRB.out; omega))
   clear g8 HM7 HG7 HV
   generalize w7.setCell ⟨rb, 2, none⟩ (.int .i64 o) = w8 at HM8 HG8 HV8 ⊢
   go_wp2_with fail
   refine (want_m HC2.out ⟨#[125]⟩ (by decide) w8 _ HM8.out).mono ?_
   rintro en w9 ⟨rfl, g9, hm⟩
   have HM9 := hdn hm
   have HG9 := hdn (grownBy_tr HG8.out g9)
   have HV9 := hdn (SLq.par HV8.out g9 (by have := HLE.out; have := HRB.out; omega))
   clear hm g9 HM8 HG8 HV8
   go_wp2_with fail
   have hfin := list_fin (rq := (Except.error (6, 0) : Pr.Res α)) (rec := rec) (x := x) (by intro x u hc; cases hc) HOR.out HX.out
   have hm := HM9.out
   refine bodyPost_ret (v := v) (by simp [results, Tryz.results130, go_sem]) rfl ⟨HG9.out, _, x, rfl, SLq.mono HV9.out HLE.out, ?_, ?_⟩
   ·intro y u hy
    obtain ⟨n, hn⟩ := HERR.out
    rw [hn] at hy; cases hy
   ·obtain ⟨n, hn⟩ := HERR.out
    rw [hn]
    exact hm.as _ (.inr ⟨⟨_, rfl⟩, ⟨_, rfl⟩⟩)
  ·have hd : (o == 20) = false := by rw [beq_eq_false_iff_ne]; exact h20
   have H20 := hdn h20
   clear h20
   have HRE : Hid (r = braced l rec r0) := hdn (by
    rw [HBR.out, HR0.out]
    show braced l rec (Pr.mustHold (Pa.ts l) u) = _
    have ho := HOA.out x0 u HR0.out
    unfold Pr.mustHold
    rw [HI.out, ho, show (o == 20) = false by rw [beq_eq_false_iff_ne]; exact H20.out]; rfl)
   go_wp2_with fail
   clear c2 f2 hd
   refine (want_m HC.out ⟨#[123]⟩ (by decide) w1 (r0) HM1.out).mono ?_
   rintro en w5 ⟨rfl, g5, hm⟩
   have HM5 := hdn hm
   have HG5 := hdn (grownBy_tr HG1.out g5)
   clear hm g5 HM1 HG1
   obtain ⟨c2, f2⟩ := HM5.out.deepAt
   have ho0 : 0 ≤ o := HO.out.1
   have ho1 : o ≤ 20 := HO.out.2
   go_upto_region 5 with fail
   clear c2 f2
   have g6 : w5.grownBy (w5.setCell ⟨rb, 2, none⟩ (.int .i64 (o + 1))) (some rb) := grownBy_setC w5 ⟨rb, 2, none⟩ _
   have HM6 := hdn ((HM5.out.deep (o + 1)).as (Pr.th (Pr.th (r0) fun _ u => Pr.must (Pa.ts l) ⟨#[123]⟩ u) fun _ u => .ok ((), ⟨u.i, o + 1, u.b⟩)) (by rcases (Pr.th (r0) fun _ u => Pr.must (Pa.ts l) ⟨#[123]⟩ u) with n | ⟨y, u⟩ <;> exact .inl rfl))
   have HG6 := hdn (grownBy_tr HG5.out g6)
   have HLE := hdn HG6.out.size
   clear g6 HM5 HG5
   generalize w5.setCell ⟨rb, 2, none⟩ (.int .i64 (o + 1)) = w6 at HM6 HG6 HLE ⊢
   go_wp2_with fail
   refine (HREC.out w6 (o + 1) _ HM6.out (by have := HO.out; omega) (by have := HO.out; omega) (by intro x u hc; have := H20.out; have := HO.out; omega) (fuel_in HFUE.out)).mono ?_
   rintro en w7 ⟨g7, v, x, rfl, hk, hx, hm⟩
   have HX := hdn hx
   have HM7 := hdn hm
   have HV := hdn hk
   have HG7 := hdn (grownBy_tr HG6.out g7)
   clear hx hm hk g7 HM6 HG6
   obtain ⟨c2, f2⟩ := HM7.out.deepAt
   go_upto_region 7 with fail
   clear c2 f2 ho0 ho1
   have g8 : w7.grownBy (w7.setCell ⟨rb, 2, none⟩ (.int .i64 o)) (some rb) := grownBy_setC w7 ⟨rb, 2, none⟩ _
   have HOR := hdn HM7.out.oAt
   have HM8 := hdn (HM7.out.deep o)
   have HG8 := hdn (grownBy_tr HG7.out g8)
   have HV8 := hdn (SLq.par HV.out g8 (by have := HLE.out; have := HRB.out; omega))
   clear g8 HM7 HG7 HV
   generalize w7.setCell ⟨rb, 2, none⟩ (.int .i64 o) = w8 at HM8 HG8 HV8 ⊢
   go_wp2_with fail
   refine (want_m HC2.out ⟨#[125]⟩ (by decide) w8 _ HM8.out).mono ?_
   rintro en w9 ⟨rfl, g9, hm⟩
   have HM9 := hdn hm
   have HG9 := hdn (grownBy_tr HG8.out g9)
   have HV9 := hdn (SLq.par HV8.out g9 (by have := HLE.out; have := HRB.out; omega))
   clear hm g9 HM8 HG8 HV8
   go_wp2_with fail
   have hfin := list_fin (rq := r0) (rec := rec) (x := x) (HOA.out) HOR.out HX.out
   have hm := HM9.out
   refine bodyPost_ret (v := v) (by simp [results, Tryz.results130, go_sem]) rfl ⟨HG9.out, _, x, rfl, SLq.mono HV9.out HLE.out, ?_, ?_⟩
   ·intro y u hy
    rw [HRE.out] at hy
    exact hfin.1 y u hy
   ·refine hm.as _ ?_
    rw [HRE.out]
    exact .inl hfin.2
 ·have HF := hdn hf
  clear hf
  have HRE : Hid (r = braced l rec r0) := hdn (by
   rw [HBR.out]
   have hf := HF.out
   rcases r0 with n | ⟨x0, u⟩
   ·rfl
   ·show braced l rec (Pr.mustHold (Pa.ts l) u) = _
    unfold Pr.mustHold
    rw [hf _ _ rfl]; rfl)
  go_wp2_with fail
  refine (want_m HC.out ⟨#[123]⟩ (by decide) w1 (r0) HM1.out).mono ?_
  rintro en w5 ⟨rfl, g5, hm⟩
  have HM5 := hdn hm
  have HG5 := hdn (grownBy_tr HG1.out g5)
  clear hm g5 HM1 HG1
  obtain ⟨c2, f2⟩ := HM5.out.deepAt
  have ho0 : 0 ≤ o := HO.out.1
  have ho1 : o ≤ 20 := HO.out.2
  go_upto_region 5 with fail
  clear c2 f2
  have g6 : w5.grownBy (w5.setCell ⟨rb, 2, none⟩ (.int .i64 (o + 1))) (some rb) := grownBy_setC w5 ⟨rb, 2, none⟩ _
  have HM6 := hdn ((HM5.out.deep (o + 1)).as (Pr.th (Pr.th (r0) fun _ u => Pr.must (Pa.ts l) ⟨#[123]⟩ u) fun _ u => .ok ((), ⟨u.i, o + 1, u.b⟩)) (by rcases (Pr.th (r0) fun _ u => Pr.must (Pa.ts l) ⟨#[123]⟩ u) with n | ⟨y, u⟩ <;> exact .inl rfl))
  have HG6 := hdn (grownBy_tr HG5.out g6)
  have HLE := hdn HG6.out.size
  clear g6 HM5 HG5
  generalize w5.setCell ⟨rb, 2, none⟩ (.int .i64 (o + 1)) = w6 at HM6 HG6 HLE ⊢
  go_wp2_with fail
  refine (HREC.out w6 (o + 1) _ HM6.out (by have := HO.out; omega) (by have := HO.out; omega) (fun x u hc => (must_no_ok HF.out hc).elim) (fuel_in HFUE.out)).mono ?_
  rintro en w7 ⟨g7, v, x, rfl, hk, hx, hm⟩
  have HX := hdn hx
  have HM7 := hdn hm
  have HV := hdn hk
  have HG7 := hdn (grownBy_tr HG6.out g7)
  clear hx hm hk g7 HM6 HG6
  obtain ⟨c2, f2⟩ := HM7.out.deepAt
  go_upto_region 7 with fail
  clear c2 f2 ho0 ho1
  have g8 : w7.grownBy (w7.setCell ⟨rb, 2, none⟩ (.int .i64 o)) (some rb) := grownBy_setC w7 ⟨rb, 2, none⟩ _
  have HOR := hdn HM7.out.oAt
  have HM8 := hdn (HM7.out.deep o)
  have HG8 := hdn (grownBy_tr HG7.out g8)
  have HV8 := hdn (SLq.par HV.out g8 (by have := HLE.out; have := HRB.out; omega))
  clear g8 HM7 HG7 HV
  generalize w7.setCell ⟨rb, 2, none⟩ (.int .i64 o) = w8 at HM8 HG8 HV8 ⊢
  go_wp2_with fail
  refine (want_m HC2.out ⟨#[125]⟩ (by decide) w8 _ HM8.out).mono ?_
  rintro en w9 ⟨rfl, g9, hm⟩
  have HM9 := hdn hm
  have HG9 := hdn (grownBy_tr HG8.out g9)
  have HV9 := hdn (SLq.par HV8.out g9 (by have := HLE.out; have := HRB.out; omega))
  clear hm g9 HM8 HG8 HV8
  go_wp2_with fail
  have hfin := list_fin (rq := r0) (rec := rec) (x := x) (HOA.out) HOR.out HX.out
  have hm := HM9.out
  refine bodyPost_ret (v := v) (by simp [results, Tryz.results130, go_sem]) rfl ⟨HG9.out, _, x, rfl, SLq.mono HV9.out HLE.out, ?_, ?_⟩
  ·intro y u hy
   rw [HRE.out] at hy
   exact hfin.1 y u hy
  ·refine hm.as _ ?_
   rw [HRE.out]
   exact .inl hfin.2
end
end Go.Proofs.YtdlchhimkelinaaGreatDoor
namespace Go.Proofs.YtdlchhimkelinaaGreatDoor
open Go.RowKit Go.Sort
attribute [local go_sem] field72_0 field72_1 field72_2 field72_3
def It.pl (x : It) : It := ⟨x.h.pl, none, 0, x.t.pl, none, 0, x.e.pl⟩
theorem pl_of : ∀ (l : List It), (SL.of l).pl = SL.of (l.map It.pl)
 | [] => rfl
 | x :: l => by rw [SL.of, SL.pl, List.map_cons, SL.of, pl_of l]; rfl
def qIt : Kd It := ⟨54, 48, 608, It.cells, It.pl, itLies, fun _ => rfl, fun _ => scells_one _ _ _ _ _ _ _, fun _ h k => itLies_ext h k⟩
theorem qinfIt : ∃ i z, qIt.Inf Tryz.prog 38 i z := by
 obtain ⟨i, h⟩ := infIt
 exact ⟨i, _, ⟨h.und, h.info, h.zero, h.size, h.bytes, h.cells, h.pos⟩⟩
theorem qLies_items {w : World} {p : Option Addr} {l : List It} (h : qIt.Ly w p l) : sLies w p (SL.of l) := sLies_items (l := l) h
namespace Pa
def rstmts (l : List Tx.Sg) (rstmt : (Pr.St → Pr.Res SL) → Pr.St → Pr.Res (Hd × SL × SL)) : Nat → Pr.St → Pr.Res SL
 | 0, _ => .error (0, 0)
 | n + 1, u =>
  if (sg l u.i).kind = 0 ∨ Pr.is (ts l) u.i ⟨#[125]⟩ = true then .ok (.nil, u)
  else Pr.th (rstmt (rstmts l rstmt n) u) fun a v => thenOnto [itB a] (rstmts l rstmt n v)
end Pa
section
variable {rb sb cap : Nat} {l : List Tx.Sg} {N : Nat}
theorem RM.kind {α : Type} {w : World} {o : Int} {x : α} {u : Pr.St} (h : RM w rb sb cap l o N (Except.ok (x, u) : Pr.Res α)) : w.cell? ⟨rb, 5, none⟩ = some (.int .i64 0) := h.1.blk.cell 5
theorem th_onto (acc : List It) (r : Pr.Res (Hd × SL × SL)) (f : Pr.St → Pr.Res SL) : thenOnto acc (Pr.th r fun a v => thenOnto [itB a] (f v)) = Pr.th (Pr.th r fun a v => (.ok (acc ++ [itB a], v) : Pr.Res (List It))) fun a v => thenOnto a (f v) := by
 rcases r with n | ⟨a, v⟩
 ·rfl
 ·exact thenOnto_app _ _ _
/-- What is asked of a statement. -/
def TRq (rb sb cap : Nat) (l : List Tx.Sg) (N n : Nat) (st : Pr.St → Pr.Res (Hd × SL × SL)) : Prop := ∀ (w : World) (o : Int) (u : Pr.St), RM w rb sb cap l o N (.ok ((), u) : Pr.Res Unit) → 0 ≤ o → o ≤ 20 → l.length < u.i + 1 + n → (Pa.sg l u.i).kind ≠ 0 →
 Calls Tryz.prog 95 #[.pointer (some ⟨rb, 0, none⟩)] w (RP (qIt.Val w.heap.size) w rb sb cap l o (N + 1) (Pr.th (st u) fun a v => .ok (itB a, v)))
theorem stmts_m (C : RC l N) (hN8 : N ≤ 800000) (rstmt : (Pr.St → Pr.Res SL) → Pr.St → Pr.Res (Hd × SL × SL)) (n : Nat) (hn : n ≤ 1000000)
  (hst : ∀ m, m < n → TRq rb sb cap l N m (rstmt (Pa.rstmts l rstmt m))) (hfw : ∀ m u a v, rstmt (Pa.rstmts l rstmt m) u = .ok (a, v) → u.i < v.i) : SRq rb sb cap l N n (Pa.rstmts l rstmt n) := by
 intro w o r0 h ho0 ho1 ho2 hfu
 have HC := hdn C
 have HC2 := hdn (C.more hN8)
 have HST := hdn hst
 have HFW := hdn hfw
 have HNB := hdn hn
 have HO := hdn ho0
 have HO2 : Hid (∀ x u, r0 = .ok (x, u) → o ≤ 20) := hdn ho2
 have HFUE := hdn hfu
 have HM := hdn h.more
 have HLT : Hid (rb < w.heap.size ∧ sb < w.heap.size) := hdn ⟨h.rb_lt, h.sb_lt⟩
 have HG0 : Hid (w.grownBy w (some rb)) := hdn (grownBy_of (Below.refl _ _) _)
 clear hN8 hn hst hfw ho0 ho1 ho2 hfu
 obtain ⟨r, hr⟩ : ∃ r, r = Pr.th r0 fun _ u => Pa.rstmts l rstmt n u := ⟨_, rfl⟩
 rw [← hr]
 have HR := hdn hr
 have HMs : Hid (RM w rb sb cap l o (N + 1) (Pr.th r0 fun _ u => (.ok ([], u) : Pr.Res (List It)))) := hdn (HM.out.as _ (by rcases r0 with n | ⟨y, u⟩ <;> exact .inl rfl))
 clear h hr
 obtain ⟨i0, z0, hI⟩ := qinfIt
 have HIN := hdn hI
 clear hI
 go_enter Tryz.func53, Tryz.ntmps53
 go_wp2_with fail
 go_loopg [5] n (fun g v wr => ∃ (acc : List It) (rn : Pr.Res (List It)), Hid (g + acc.length = n) ∧ Hid (∀ a u, rn = .ok (a, u) → acc = a ∧ l.length < u.i + g ∧ o ≤ 20) ∧ Hid (r = Pr.th rn fun a u => thenOnto a (Pa.rstmts l rstmt g u)) ∧ Hid (qIt.Gr w.heap.size acc v wr) ∧ Hid (RM wr rb sb cap l o (N + 1) rn) ∧ Hid (w.grownBy wr (some rb)))
 case atStart => exact ⟨[], _, hdn rfl, hdn (by intro a u ha; rcases r0 with n | ⟨y, v⟩; (· cases ha); (· injection ha with ha; injection ha with h1 h2; subst h2; exact ⟨h1, HFUE.out _ _ rfl, HO2.out _ _ rfl⟩)), hdn (by rw [HR.out]; rcases r0 with n | ⟨y, v⟩; (· rfl); (· exact (thenOnto_nil _).symm)), hdn (Kd.Gr.nil qIt (World.ownsRow_nil _ _ _ _)), HMs, HG0⟩
 case round =>
  obtain ⟨acc, rn, HNA, HAC, HH, HGr, HMr, HGw⟩ := hrel
  rcases rn with e0 | ⟨a1, un⟩
  ·obtain ⟨k, b, a, e, he, hk, hb0, hb1, h5⟩ := HMr.out
   have c5 : wr.cell? ⟨rb, 5, none⟩ = some (.int .i64 e) := h5.blk.cell 5
   have he' : (e == 0) = false := by rw [beq_eq_false_iff_ne]; exact he
   clear he hk hb0 hb1 h5
   go_wp2_with fail
   obtain ⟨sl, hv, hsl, hly⟩ := Kd.fin qIt (by have := HNB.out; have := HNA.out; show acc.length * 608 ≤ _; omega) HGr.out
   refine bodyPost_ret (v := u5) (by simp [results, Tryz.results53, go_sem]) rfl ⟨HGw.out, _, SL.of acc, rfl, ⟨sl.p, sl.cap, SL.of sl.l, by rw [hv, SL.of_len], ?_, qLies_items hly⟩, ?_, ?_⟩
   ·rw [pl_of, show sl.l.map It.pl = acc from hsl]
   ·rw [HH.out]; intro y u hy; cases hy
   ·rw [HH.out]; exact HMr.out.as _ (.inl rfl)
  ·have c5 : wr.cell? ⟨rb, 5, none⟩ = some (.int .i64 0) := HMr.out.kind
   go_wp2_with fail
   refine (now_m wr _ HMr.out).mono ?_
   rintro en w2 ⟨hb, z, rfl, hz⟩
   have HZ := hdn (hz _ _ rfl)
   have HM2 := hdn (HMr.out.below hb); have HG2 := hdn (grownBy_below HGw.out hb); have HGr2 := hdn (HGr.out.below hb)
   clear hb hz c5 HMr HGw HGr
   have HGP : Hid (0 < gk) := hdn (by have h1 := (HAC.out a1 un rfl).2.1; have h2 := HM2.out.2.1; omega)
   by_cases hk : z.kind = 0
   ·have hk' : (z.kind != 0) = false := by rw [hk]; rfl
    have HKZ := hdn hk
    clear hk
    go_wp2_with fail
    obtain ⟨sl, hv, hsl, hly⟩ := Kd.fin qIt (by have := HNB.out; have := HNA.out; show acc.length * 608 ≤ _; omega) HGr2.out
    refine bodyPost_ret (v := u5) (by simp [results, Tryz.results53, go_sem]) rfl ⟨HG2.out, _, SL.of acc, rfl, ⟨sl.p, sl.cap, SL.of sl.l, by rw [hv, SL.of_len], ?_, qLies_items hly⟩, ?_, ?_⟩
    ·rw [pl_of, show sl.l.map It.pl = acc from hsl]
    ·have hrr : r = .ok (SL.of acc, un) := by
      rw [HH.out]
      obtain ⟨gj, hgj⟩ : ∃ k, gk = k + 1 := ⟨gk - 1, by have := HGP.out; omega⟩
      rw [hgj]
      show thenOnto a1 (Pa.rstmts l rstmt (gj + 1) un) = _
      rw [Pa.rstmts, if_pos (by left; rw [← HZ.out]; exact HKZ.out), (HAC.out a1 un rfl).1]
      simp only [thenOnto, SL.onto_nil]
     rw [hrr]; intro y u hy; injection hy with hy; injection hy
    ·have hrr : r = .ok (SL.of acc, un) := by
      rw [HH.out]
      obtain ⟨gj, hgj⟩ : ∃ k, gk = k + 1 := ⟨gk - 1, by have := HGP.out; omega⟩
      rw [hgj]
      show thenOnto a1 (Pa.rstmts l rstmt (gj + 1) un) = _
      rw [Pa.rstmts, if_pos (by left; rw [← HZ.out]; exact HKZ.out), (HAC.out a1 un rfl).1]
      simp only [thenOnto, SL.onto_nil]
     rw [hrr]; exact HM2.out.as _ (.inl rfl)
   have hk' : (z.kind != 0) = true := by rw [bne_iff_ne]; exact hk
   have HKZ := hdn hk
   clear hk
   go_wp2_with fail
   refine (is_m HC2.out ⟨#[125]⟩ (by decide) w2 _ HM2.out).mono ?_
   rintro en w3 ⟨hb, hh⟩
   have HM3 := hdn (HM2.out.below hb); have HG3 := hdn (grownBy_below HG2.out hb); have HGr3 := hdn (HGr2.out.below hb)
   clear hb hk' HM2 HG2 HGr2
   rcases hh with ⟨rfl, a2, u2, hrn, hi, hlt⟩ | ⟨rfl, hf⟩
   ·have HI2 : Hid (Pr.is (Pa.ts l) un.i ⟨#[125]⟩ = true) := hdn (by injection hrn with hrn; injection hrn with h1 h2; rw [h2]; exact hi)
    clear hrn hi hlt
    go_wp2_with fail
    obtain ⟨sl, hv, hsl, hly⟩ := Kd.fin qIt (by have := HNB.out; have := HNA.out; show acc.length * 608 ≤ _; omega) HGr3.out
    refine bodyPost_ret (v := u5) (by simp [results, Tryz.results53, go_sem]) rfl ⟨HG3.out, _, SL.of acc, rfl, ⟨sl.p, sl.cap, SL.of sl.l, by rw [hv, SL.of_len], ?_, qLies_items hly⟩, ?_, ?_⟩
    ·rw [pl_of, show sl.l.map It.pl = acc from hsl]
    ·have hrr : r = .ok (SL.of acc, un) := by
      rw [HH.out]
      obtain ⟨gj, hgj⟩ : ∃ k, gk = k + 1 := ⟨gk - 1, by have := HGP.out; omega⟩
      rw [hgj]
      show thenOnto a1 (Pa.rstmts l rstmt (gj + 1) un) = _
      rw [Pa.rstmts, if_pos (.inr HI2.out), (HAC.out a1 un rfl).1]
      simp only [thenOnto, SL.onto_nil]
     rw [hrr]; intro y u hy; injection hy with hy; injection hy
    ·have hrr : r = .ok (SL.of acc, un) := by
      rw [HH.out]
      obtain ⟨gj, hgj⟩ : ∃ k, gk = k + 1 := ⟨gk - 1, by have := HGP.out; omega⟩
      rw [hgj]
      show thenOnto a1 (Pa.rstmts l rstmt (gj + 1) un) = _
      rw [Pa.rstmts, if_pos (.inr HI2.out), (HAC.out a1 un rfl).1]
      simp only [thenOnto, SL.onto_nil]
     rw [hrr]; exact HM3.out.as _ (.inl rfl)
   have HF : Hid (Pr.is (Pa.ts l) un.i ⟨#[125]⟩ = false) := hdn (hf _ _ rfl)
   clear hf
   go_wp2_with fail
   obtain ⟨gj, hgj⟩ : ∃ k, gk = k + 1 := ⟨gk - 1, by have := HGP.out; omega⟩
   have HGJ := hdn hgj
   clear hgj
   refine (HST.out gj (by have := HGJ.out; have := HNA.out; omega) w3 o un ⟨HM3.out.1, HM3.out.2⟩ HO.out (HAC.out a1 un rfl).2.2 (by have := (HAC.out a1 un rfl).2.1; have := HGJ.out; omega) (by rw [← HZ.out]; exact HKZ.out)).mono ?_
   rintro en w6 ⟨g6, v, xx, rfl, ⟨z, rfl, hze, hlie⟩, hx, hm⟩
   have HX := hdn hx
   have HM6 := hdn hm
   have HZE := hdn hze
   have HLZ : Hid (qIt.R (rest w.heap.size u5.ownBlock w6) z) := hdn (qIt.ext z (fresh_rest HG3.out.size (fun g hg => by obtain ⟨ys, h1, h2, h3⟩ := HGr3.out; exact (h2.lt g hg).2)) hlie)
   have HG6 := hdn (grownBy_tr HG3.out g6)
   have HGr6 := hdn (HGr3.out.par g6 HLT.out.1)
   have HB1 : Hid (acc.length + 1 ≤ maxLen ∧ (acc.length + 1) * 608 ≤ 140737488355328) := hdn ⟨by have := HNB.out; have := HNA.out; unfold maxLen; omega, by have := HNB.out; have := HNA.out; omega⟩
   clear hx hm hze hlie g6 HM3 HG3 HGr3
   go_wp2_with (first | ((with_reducible show wpList _ _ _ (Oper.mk (some 30) _ _ _ _ _ :: _) _ _); refine wpList_one rfl 38 54 (.tmp 29) rfl (qIt.cells z).toArray rfl HIN.out.und i0 _ qIt.size HIN.out.info HIN.out.zero HIN.out.size HIN.out.pos (by decide) rfl ?_) | ((with_reducible show wpList _ _ _ (Oper.mk (some 31) _ _ _ _ _ :: _) _ _); refine Kd.wpList_push qIt rfl 38 i0 _ HIN.out (.tmp 27) (.tmp 30) rfl w.heap.size acc u5 rfl HGr6.out HG6.out.size z rfl HLZ.out HB1.out.1 HB1.out.2 ?_; rintro v' w7 hG7 ⟨gg, cc, rfl⟩ hgr7 hown7; have HGr7 := hdn hG7; have HM7 := hdn (HM6.out.grown hgr7 (fun q hq => by have := hown7 q hq; have := HLT.out; omega)); have HG7 := hdn (grownBy_up HG6.out hgr7 hown7); clear hG7 hgr7 hown7))
   go_roundg gj
   case measure => have := HGJ.out; omega
   case rel =>
    refine ⟨acc ++ [qIt.er z], Pr.th (rstmt (Pa.rstmts l rstmt gj) un) (fun a v => .ok (a1 ++ [itB a], v)), hdn (by have := HNA.out; have := HGJ.out; simp only [List.length_append, List.length_singleton]; omega), hdn ?_, hdn ?_, HGr7, hdn ?_, HG7⟩
    ·intro a u ha
     rcases q : rstmt (Pa.rstmts l rstmt gj) un with e | ⟨b, v⟩
     ·rw [q] at ha; cases ha
     ·have h1 := HFW.out gj un b v q
      have h2 := HAC.out a1 un rfl
      have h3 := HX.out (itB b) v (by rw [q]; rfl)
      rw [q] at ha; injection ha with ha; injection ha with h4 h5
      subst h5
      refine ⟨?_, by have := HGJ.out; omega, h2.2.2⟩
      rw [← h4, h2.1, ← h3, ← HZE.out]
    ·rw [HH.out, HGJ.out]
     show thenOnto a1 (Pa.rstmts l rstmt (gj + 1) un) = _
     rw [Pa.rstmts, if_neg (by rw [HF.out, ← HZ.out]; intro hh; rcases hh with hh | hh; (· exact HKZ.out hh); (· exact absurd hh (by decide)))]
     exact th_onto _ _ _
    ·refine HM7.out.as _ (.inl ?_)
     rcases rstmt (Pa.rstmts l rstmt gj) un with e | ⟨b, v⟩ <;> rfl
end
end Go.Proofs.YtdlchhimkelinaaGreatDoor
namespace Go.Proofs.YtdlchhimkelinaaGreatDoor
open Go.RowKit Go.Sort
/-- The signs of a text, in a row of one's own. -/
theorem rs_row {w : World} {B : Nat} {v : Value} {l : List Tx.Sg} (h : w.ownsRow B 72 4 v l.length (l.flatMap Tx.cells)) (hl : 0 < l.length) :
  ∃ sb cap, v = .slice (some ⟨sb, 0, none⟩) l.length cap ∧ sb < w.heap.size ∧ B ≤ sb ∧ ∀ k x, l[k]? = some x → w.rangeAt sb (k * 4) [.int .i64 x.kind, .int .i64 x.pos, .string x.text, .int .i64 x.num] := by
 rcases h.2 with ⟨rfl, h0⟩ | ⟨g, cap, cur, rfl, hg, hr, _⟩
 ·omega
 ·refine ⟨g, cap, rfl, (Array.getElem?_eq_some_iff.1 hr).1, hg, fun k x hx j u hu => ?_⟩
  have hk := (List.getElem?_eq_some_iff.1 hx).1
  have hj : j < 4 := (List.getElem?_eq_some_iff.1 hu).1
  rw [h.cellAt (k * 4 + j) (by omega), Tx.cells_at l k hk j hj]
  have hx' : l[k] = x := (List.getElem?_eq_some_iff.1 hx).2
  rw [hx']
  exact hu
/-- What holds of the signs of a text. -/
theorem rc_alls (s : ByteArray) (he : (Tx.alls s).2.2 = 0) : RC (Tx.alls s).1 70000 ∧ 0 < (Tx.alls s).1.length ∧ (Tx.alls s).1.length ≤ 70000 := by
 obtain ⟨hg, _, h0⟩ := alls_good s he
 obtain ⟨m, x, h1, _, _, _, _, h6, h7⟩ := Tx.alls_shape s he
 have hl : (Tx.alls s).1.length ≤ 70000 := by rw [h1]; simp; omega
 exact ⟨⟨Pa.alls_kind s he, hg, hl, by decide⟩, h0, hl⟩
theorem open_any (s : ByteArray) (w : World) (hs : s.size ≤ 5000000) :
  Calls Tryz.prog 20 #[.string s] w fun en w' => ∃ rb : Nat, en = .returned (.tuple #[.pointer (some ⟨rb, 0, none⟩), .int .i64 (Tx.alls s).2.1, .int .i64 (Tx.alls s).2.2]) ∧ Below w.heap.size w w' ∧ w.heap.size ≤ rb ∧
   ((Tx.alls s).2.2 = 0 → ∃ sb cap, w.heap.size ≤ sb ∧ RM w' rb sb cap (Tx.alls s).1 0 70000 (.ok ((), ⟨0, 0, 0⟩) : Pr.Res Unit)) := by
 have CA := refAll_any s w hs
 clear hs
 unfold AllPost at CA
 have HRC : Hid ((Tx.alls s).2.2 = 0 → RC (Tx.alls s).1 70000 ∧ 0 < (Tx.alls s).1.length ∧ (Tx.alls s).1.length ≤ 70000) := hdn (rc_alls s)
 generalize Tx.alls s = al at *
 go_enter Tryz.func20, Tryz.ntmps20
 go_wp2_with fail
 refine CA.mono ?_
 rintro en w1 ⟨v, rfl, ho, hb⟩
 obtain ⟨a0, c0, rfl⟩ := own_shape ho
 have HO := hdn ho
 have HB := hdn hb
 clear ho hb CA
 go_wp2_with fail
 have hm : Below w1.heap.size w1 (w1.alloc (.cells #[.slice a0 al.1.length c0, .int .i64 0, .int .i64 0, .int .i64 0, .int .i64 0, .int .i64 0] 70)) := (Below.refl _ _).alloc (Nat.le_refl _) _
 refine bodyPost_ret (results_tmp3 rfl _ _ _) rfl ⟨w1.heap.size, rfl, HB.out.trans (hm.mono HB.out.size), HB.out.size, ?_⟩
 intro he
 obtain ⟨hc, h0, hl⟩ := HRC.out he
 obtain ⟨sb, cap, hv, hsb, hB, hrow⟩ := rs_row HO.out h0
 refine ⟨sb, cap, hB, ⟨?_, fun j x hx => rangeAt_below (hrow j x hx) hm, by show sb ≠ w1.heap.size; omega, h0, hl, by decide⟩, h0, rfl, by decide, by decide⟩
 rw [hv]
 exact heap_alloc_new _ _
end Go.Proofs.YtdlchhimkelinaaGreatDoor
namespace Go.Proofs.YtdlchhimkelinaaGreatDoor
open Go.RowKit Go.Sort
namespace Pa
open Pr (St Res th noHd)
section
variable (l : List Tx.Sg)
/-- A statement behind its count. -/
def rbody (rec : St → Res SL) (u : St) : Res (Hd × SL × SL) :=
 if Pr.is (ts l) u.i ⟨#[59]⟩ then .ok (({ noHd with pos := (sg l u.i).pos }, .nil, .nil), u.go)
 else if Pr.is (ts l) u.i ⟨#[123]⟩ then
  th (block l rec u) fun a v =>
  .ok (({ noHd with kind := 6, pos := (sg l u.i).pos }, a, .nil), v)
 else if Pr.is (ts l) u.i ⟨#[102, 114, 101, 101]⟩ then
  th (free l u) fun h u =>
  .ok ((h, .nil, .nil), u)
 else if Pr.is (ts l) u.i ⟨#[105, 102]⟩ then branch l rec u
 else if Pr.is (ts l) u.i ⟨#[119, 104, 105, 108, 101]⟩ then loop l rec u
 else
  th (named l u) fun h u =>
  .ok ((h, .nil, .nil), u)
/-- A statement: the count is asked ahead of the braces. -/
def rstmt (rec : St → Res SL) (u : St) : Res (Hd × SL × SL) :=
 if u.b = 400 then .error (11, u.i) else rbody l rec ⟨u.i, u.o, u.b + 1⟩
end
variable {l : List Tx.Sg}
theorem stmt_rbody (rec : St → Res SL) (u : St) : stmt l rec u = th (Pr.count (ts l) u) fun _ u => rbody l rec u := rfl
theorem is_one {i : Nat} {s t : ByteArray} (h1 : Pr.is (ts l) i s = true) (hne : (s.toList == t.toList) = false) : Pr.is (ts l) i t = false := by
 unfold Pr.is at h1 ⊢
 rw [beq_iff_eq] at h1
 rw [h1]; exact hne
theorem rstmt_iff (rec : St → Res SL) (u : St) (x : (Hd × SL × SL) × St) : rstmt l rec u = .ok x ↔ stmt l rec u = .ok x := by
 rw [stmt_rbody]
 unfold rstmt Pr.count Pr.mustHold
 by_cases hb : u.b = 400
 ·rw [if_pos hb]
  constructor
  ·intro h; cases h
  ·intro h
   split at h
   ·cases h
   ·simp only [Pr.th, hb, if_true] at h; cases h
 ·rw [if_neg hb]
  by_cases hh : (Pr.is (ts l) u.i ⟨#[123]⟩ && u.o == 20) = true
  ·rw [if_pos hh]
   constructor
   ·intro h
    rw [Bool.and_eq_true] at hh
    unfold rbody at h
    rw [if_neg (by rw [is_one hh.1 (by rw [Lib.toList_data, Lib.toList_data]; decide)]; decide), if_pos hh.1] at h
    unfold block Pr.block Pr.mustHold at h
    rw [if_pos (by rw [Bool.and_eq_true]; exact hh)] at h
    cases h
   ·intro h; cases h
  ·rw [if_neg hh]
   simp only [Pr.th, if_neg hb]
end Pa
end Go.Proofs.YtdlchhimkelinaaGreatDoor
namespace Go.Proofs.YtdlchhimkelinaaGreatDoor
open Go.RowKit Go.Sort
namespace Pa
open Pr (St Res th noHd)
/-- Fine together, and the same then. -/
def Eqo {α : Type} (r s : Res α) : Prop := ∀ x, r = .ok x ↔ s = .ok x
theorem Eqo.rfl' {α : Type} (r : Res α) : Eqo r r := fun _ => Iff.rfl
theorem Eqo.th {α β : Type} {r s : Res α} {f g : α → St → Res β} (h : Eqo r s) (k : ∀ a u, Eqo (f a u) (g a u)) : Eqo (th r f) (th s g) := by
 intro x
 rcases r with n | ⟨a, u⟩
 ·rcases s with m | ⟨b, v⟩
  ·exact ⟨(fun e => by cases e), (fun e => by cases e)⟩
  ·exact absurd ((h (b, v)).2 rfl) (by intro e; cases e)
 ·have := (h (a, u)).1 rfl
  rw [this]; exact k a u x
theorem Eqo.ite {α : Type} {c : Prop} [Decidable c] {r1 r2 s1 s2 : Res α} (h1 : Eqo r1 s1) (h2 : Eqo r2 s2) : Eqo (if c then r1 else r2) (if c then s1 else s2) := by
 split
 ·exact h1
 ·exact h2
variable {l : List Tx.Sg}
/-- Here statements end. -/
def fin (l : List Tx.Sg) (u : St) : Prop := (sg l u.i).kind = 0 ∨ Pr.is (ts l) u.i ⟨#[125]⟩ = true
theorem block_eqo {r1 r2 : St → Res SL} (h : ∀ u x, r1 u = .ok x ↔ (r2 u = .ok x ∧ fin l x.2)) (u : St) : Eqo (block l r1 u) (block l r2 u) := by
 unfold block Pr.block
 refine Eqo.th (Eqo.rfl' _) fun _ u1 => Eqo.th (Eqo.rfl' _) fun _ u2 => ?_
 intro x
 rcases q1 : r1 ⟨u2.i, u2.o + 1, u2.b⟩ with n | ⟨a, v⟩
 ·rcases q2 : r2 ⟨u2.i, u2.o + 1, u2.b⟩ with m | ⟨b, v⟩
  ·exact ⟨(fun e => by cases e), (fun e => by cases e)⟩
  ·have hn : ¬ fin l v := fun hf => by
    have := (h _ (b, v)).2 ⟨q2, hf⟩
    rw [q1] at this; cases this
   have hm : Pr.is (ts l) v.i ⟨#[125]⟩ = false := by
    rcases q : Pr.is (ts l) v.i ⟨#[125]⟩ with _ | _
    ·rfl
    ·exact absurd (.inr q) hn
   constructor
   ·intro e; cases e
   ·intro e
    change Pr.th (Pr.must (ts l) ⟨#[125]⟩ v) _ = _ at e
    unfold Pr.must at e
    rw [if_neg (by rw [hm]; decide)] at e
    cases e
 ·have := ((h _ (a, v)).1 q1).1
  rw [this]
theorem stmt_eqo {r1 r2 : St → Res SL} (h : ∀ u x, r1 u = .ok x ↔ (r2 u = .ok x ∧ fin l x.2)) (u : St) : Eqo (stmt l r1 u) (stmt l r2 u) := by
 rw [stmt_rbody, stmt_rbody]
 refine Eqo.th (Eqo.rfl' _) fun _ u => ?_
 unfold rbody
 refine Eqo.ite (Eqo.rfl' _) (Eqo.ite (Eqo.th (block_eqo h u) fun _ _ => Eqo.rfl' _) (Eqo.ite (Eqo.rfl' _) (Eqo.ite ?_ (Eqo.ite ?_ (Eqo.rfl' _)))))
 ·unfold branch
  refine Eqo.th (Eqo.rfl' _) fun _ v => Eqo.th (Eqo.rfl' _) fun _ v => Eqo.th (block_eqo h v) fun _ v => Eqo.ite (Eqo.th (block_eqo h _) fun _ _ => Eqo.rfl' _) (Eqo.rfl' _)
 ·unfold loop
  exact Eqo.th (Eqo.rfl' _) fun _ v => Eqo.th (Eqo.rfl' _) fun _ v => Eqo.th (block_eqo h v) fun _ _ => Eqo.rfl' _
/-- Where statements end, none begins. -/
theorem begins_fin {N : Nat} (C : RC l N) {u : St} (hi : u.i < l.length) (hf : fin l u) : Pr.begins (ts l) u = false := by
 have hx : l[u.i]? = some (sg l u.i) := by unfold sg; rw [List.getD_eq_getElem?_getD, List.getElem?_eq_getElem hi]; rfl
 have hkk : (Pr.sg (ts l) u.i).kind = (sg l u.i).kind := (kind_tk _).symm
 rcases hf with h0 | h1
 ·have ht : (sg l u.i).text = ByteArray.empty := C.good.none _ _ hx ((C.good.fin _ _ hx).1 h0)
  have hne : ∀ s : ByteArray, s.toList ≠ [] → Pr.is (ts l) u.i s = false := by
   intro s hs
   unfold Pr.is
   rw [← sg_tk]
   show ((sg l u.i).text.toList == s.toList) = false
   rw [ht, beq_eq_false_iff_ne, Lib.toList_data]
   intro e; exact hs e.symm
  unfold Pr.begins
  rw [hne _ (by rw [Lib.toList_data]; decide), hne _ (by rw [Lib.toList_data]; decide), hne _ (by rw [Lib.toList_data]; decide), hne _ (by rw [Lib.toList_data]; decide), hne _ (by rw [Lib.toList_data]; decide), hkk, h0]
  rfl
 ·unfold Pr.begins
  rw [is_one h1 (by rw [Lib.toList_data, Lib.toList_data]; decide), is_one h1 (by rw [Lib.toList_data, Lib.toList_data]; decide), is_one h1 (by rw [Lib.toList_data, Lib.toList_data]; decide), is_one h1 (by rw [Lib.toList_data, Lib.toList_data]; decide), is_one h1 (by rw [Lib.toList_data, Lib.toList_data]; decide), hkk]
  rw [← isNx_pr hi] at h1
  rcases isNx_kind C.kinds (by omega) (by decide) h1 with hh | hh <;> rw [rsg_lt hi] at hh <;> rw [hh] <;> rfl
end Pa
end Go.Proofs.YtdlchhimkelinaaGreatDoor
namespace Go.Proofs.YtdlchhimkelinaaGreatDoor
open Go.RowKit Go.Sort
namespace Pa
open Pr (St Res th noHd)
variable {l : List Tx.Sg}
theorem is_out {i : Nat} {s : ByteArray} (h : ¬ i < l.length) (hs : s.toList ≠ []) : Pr.is (ts l) i s = false := by
 unfold Pr.is
 rw [← sg_tk]
 show ((sg l i).text.toList == s.toList) = false
 have : (sg l i).text = ByteArray.empty := by
  unfold sg; rw [List.getD_eq_getElem?_getD, List.getElem?_eq_none (by omega)]; rfl
 rw [this, beq_eq_false_iff_ne, Lib.toList_data]
 intro e; exact hs e.symm
theorem begins_end {N : Nat} (C : RC l N) {u : St} (hf : fin l u) : Pr.begins (ts l) u = false := by
 by_cases hi : u.i < l.length
 ·exact begins_fin C hi hf
 ·have hk : (Pr.sg (ts l) u.i).kind = 0 := by
   rw [← kind_tk]; unfold sg; rw [List.getD_eq_getElem?_getD, List.getElem?_eq_none (by omega)]; rfl
  unfold Pr.begins
  rw [is_out hi (by rw [Lib.toList_data]; decide), is_out hi (by rw [Lib.toList_data]; decide), is_out hi (by rw [Lib.toList_data]; decide), is_out hi (by rw [Lib.toList_data]; decide), is_out hi (by rw [Lib.toList_data]; decide), hk]
  rfl
theorem rstmt_none {rec : St → Res SL} {u : St} (hb : Pr.begins (ts l) u = false) (x : (Hd × SL × SL) × St) : rstmt l rec u ≠ .ok x := by
 unfold Pr.begins at hb
 simp only [Bool.or_eq_false_iff] at hb
 obtain ⟨⟨⟨⟨⟨h1, h2⟩, h3⟩, h4⟩, h5⟩, h6⟩ := hb
 have hk : ¬ (sg l u.i).kind = 1 := by
  rw [kind_tk]; rw [beq_eq_false_iff_ne] at h6; exact h6
 unfold rstmt
 split
 ·intro e; cases e
 ·unfold rbody named path name
  show (if Pr.is (ts l) u.i ⟨#[59]⟩ = true then _ else _) ≠ _
  rw [if_neg (by rw [h1]; decide), if_neg (by rw [h2]; decide), if_neg (by rw [h3]; decide), if_neg (by rw [h4]; decide), if_neg (by rw [h5]; decide)]
  rw [if_neg hk]
  split
  ·intro e; cases e
  ·intro e; cases e
theorem rstmts_iff {N : Nat} (C : RC l N) : ∀ (n : Nat) (u : St) (x : SL × St), rstmts l (rstmt l) n u = .ok x ↔ (stmts l n u = .ok x ∧ fin l x.2)
 | 0, u, x => ⟨(fun e => by cases e), (fun e => by cases e.1)⟩
 | n + 1, u, x => by
  unfold rstmts stmts
  by_cases hf : (sg l u.i).kind = 0 ∨ Pr.is (ts l) u.i ⟨#[125]⟩ = true
  ·rw [if_pos hf, if_neg (by rw [begins_end C hf]; decide)]
   exact ⟨fun e => ⟨e, by injection e with e; rw [← e]; exact hf⟩, And.left⟩
  ·rw [if_neg hf]
   by_cases hb : Pr.begins (ts l) u = true
   ·rw [if_pos hb]
    have hs : ∀ y, rstmt l (rstmts l (rstmt l) n) u = .ok y ↔ stmt l (stmts l n) u = .ok y := fun y => (rstmt_iff _ u y).trans (stmt_eqo (rstmts_iff C n) u y)
    rcases q : stmt l (stmts l n) u with m | ⟨a, v⟩
    ·rcases q' : rstmt l (rstmts l (rstmt l) n) u with m' | y
     ·exact ⟨(fun e => by cases e), (fun e => by cases e.1)⟩
     ·have := (hs y).1 q'
      rw [q] at this; cases this
    ·rw [(hs (a, v)).2 q]
     show thenOnto [itB a] (rstmts l (rstmt l) n v) = _ ↔ (Pr.th (stmts l n v) _ = _ ∧ _)
     rcases q3 : rstmts l (rstmt l) n v with m | ⟨s, z⟩
     ·rcases q4 : stmts l n v with m' | ⟨s', z'⟩
      ·exact ⟨(fun e => by cases e), (fun e => by cases e.1)⟩
      ·have hn : ¬ fin l z' := fun h => by
        have := (rstmts_iff C n v (s', z')).2 ⟨q4, h⟩
        rw [q3] at this; cases this
       refine ⟨(fun e => by cases e), fun e => ?_⟩
       obtain ⟨e1, e2⟩ := e
       injection e1 with e1
       rw [← e1] at e2
       exact absurd e2 hn
     ·obtain ⟨h1, h2⟩ := (rstmts_iff C n v (s, z)).1 q3
      rw [h1]
      exact ⟨fun e => ⟨e, by injection e with e; rw [← e]; exact h2⟩, And.left⟩
   ·rw [if_neg hb]
    have hb' : Pr.begins (ts l) u = false := by simpa using hb
    rcases q' : rstmt l (rstmts l (rstmt l) n) u with m' | y
    ·refine ⟨(fun e => by cases e), fun e => ?_⟩
     obtain ⟨e1, e2⟩ := e
     injection e1 with e1
     rw [← e1] at e2
     exact absurd e2 hf
    ·exact absurd q' (rstmt_none hb' y)
end Pa
end Go.Proofs.YtdlchhimkelinaaGreatDoor
namespace Go.Proofs.YtdlchhimkelinaaGreatDoor
open Go.RowKit Go.Sort
namespace Pa
open Pr (St Res th noHd)
variable {l : List Tx.Sg}
theorem rstmt_stp {rec : St → Res SL} (hr : ∀ u a v, rec u = .ok (a, v) → Pr.Stp 0 u v) {u v : St} {a : Hd × SL × SL} (h : rstmt l rec u = .ok (a, v)) : Pr.Stp 1 u v := by
 have h' := (rstmt_iff rec u (a, v)).1 h
 have hl : ∀ u, Like SL.er (rec u) ((fun u => Pr.th (rec u) fun a v => (.ok (a.er, v) : Res SL)) u) := by
  intro u
  show Like SL.er (rec u) (Pr.th (rec u) _)
  rcases rec u with n | ⟨b, w⟩
  ·exact rfl
  ·exact ⟨rfl, rfl⟩
 have hs := stmt_er (l := l) hl u
 rw [h'] at hs
 rcases q : Pr.stmt (ts l) (fun u => Pr.th (rec u) fun a v => (.ok (a.er, v) : Res SL)) u with n | ⟨b, w⟩
 ·rw [q] at hs; exact hs.elim
 ·rw [q] at hs
  obtain ⟨_, rfl⟩ := hs
  refine Pr.stmt_stp (fun u a v hh => ?_) q
  rcases q2 : rec u with n | ⟨c, z⟩
  ·simp only [q2, Pr.th] at hh; cases hh
  ·simp only [q2, Pr.th] at hh
   injection hh with hh; injection hh with h1 h2
   rw [← h2]; exact hr u c z q2
theorem rstmts_stp : ∀ (n : Nat) (u : St) (a : SL) (v : St), rstmts l (rstmt l) n u = .ok (a, v) → Pr.Stp 0 u v
 | 0, u, a, v, h => by cases h
 | n + 1, u, a, v, h => by
  unfold rstmts at h
  split at h
  ·injection h with h; injection h with h1 h2; subst h2
   exact (Pr.Fwd.refl u).stp
  ·rcases q : rstmt l (rstmts l (rstmt l) n) u with m | ⟨b, w⟩
   ·rw [q] at h; cases h
   ·rw [q] at h
    change thenOnto [itB b] (rstmts l (rstmt l) n w) = _ at h
    rcases q2 : rstmts l (rstmt l) n w with m | ⟨c, z⟩
    ·rw [q2] at h; cases h
    ·rw [q2] at h
     injection h with h; injection h with h1 h2; subst h2
     exact ((rstmt_stp (fun u a v => rstmts_stp n u a v) q).tr (rstmts_stp n w c z q2)).le (by omega)
/-- What stmts_m wants. -/
theorem rstmt_fw (m : Nat) (u : St) (a : Hd × SL × SL) (v : St) (h : rstmt l (rstmts l (rstmt l) m) u = .ok (a, v)) : u.i < v.i := (rstmt_stp (fun u a v => rstmts_stp m u a v) h).1
end Pa
end Go.Proofs.YtdlchhimkelinaaGreatDoor
namespace Go.Proofs.YtdlchhimkelinaaGreatDoor
open Go.RowKit Go.Sort
theorem Pr.th_th {α β γ : Type} (r : Pr.Res α) (f : α → Pr.St → Pr.Res β) (g : β → Pr.St → Pr.Res γ) : Pr.th (Pr.th r f) g = Pr.th r fun a u => Pr.th (f a u) g := by
 rcases r with n | ⟨a, u⟩ <;> rfl
theorem Pr.th_okk {α β : Type} (a : α) (u : Pr.St) (f : α → Pr.St → Pr.Res β) : Pr.th (.ok (a, u)) f = f a u := rfl
/-- The statement that is all zero. -/
def zSt : It := ⟨Pr.noHd, none, 0, .nil, none, 0, .nil⟩
/-- While a statement is read: rm: what the reader stands behind; r: what the statement so far came to; x: it, in block S. -/
structure SW {β : Type} (w0 w1 w : World) (rb sb cap A S : Nat) (l : List Tx.Sg) (o : Int) (N : Nat) (rm : Pr.Res β) (r : Pr.Res It) (x : It) : Prop where
 m : RM w rb sb cap l o N rm
 a : Bk w A 54 zSt.cells.toArray
 s : Stc w1 w S x
 g : w0.grownBy w (some rb)
 b : w0.heap.size ≤ A ∧ A < w1.heap.size ∧ S < w1.heap.size ∧ A ≠ S ∧ w0.heap.size ≤ S ∧ w1.heap.size ≤ w.heap.size ∧ rb < w0.heap.size ∧ sb < w0.heap.size
 e : ∀ y u, r = .ok (y, u) → x.pl = y
section
variable {α β γ : Type} {w0 w1 w w' : World} {rb sb cap A S : Nat} {l : List Tx.Sg} {o o' : Int} {N N' : Nat} {rm : Pr.Res β} {rm' : Pr.Res γ} {r r' : Pr.Res It} {x x' : It}
/-- A part of the reader was called. -/
theorem SW.call (h : SW w0 w1 w rb sb cap A S l o N rm r x) (g : w.grownBy w' (some rb)) (m : RM w' rb sb cap l o' N' rm') : SW w0 w1 w' rb sb cap A S l o' N' rm' r x := by
 obtain ⟨b1, b2, b3, b4, b5, b6, b7, b8⟩ := h.b
 exact ⟨m, h.a.kept g (by omega), h.s.par g (by omega) (by omega), grownBy_tr h.g g, ⟨b1, b2, b3, b4, b5, Nat.le_trans b6 g.size, b7, b8⟩, h.e⟩
theorem SW.below (h : SW w0 w1 w rb sb cap A S l o N rm r x) (hb : Below w.heap.size w w') : SW w0 w1 w' rb sb cap A S l o N rm r x := h.call (grownBy_of hb _) (h.m.below hb)
/-- The statement's block was written. -/
theorem SW.put (h : SW w0 w1 w rb sb cap A S l o N rm r x) (g : w.grownBy w' (some S)) (s : Stc w1 w' S x') (hm : RM w' rb sb cap l o N rm → RM w' rb sb cap l o N rm') (e : ∀ y u, r' = .ok (y, u) → x'.pl = y) : SW w0 w1 w' rb sb cap A S l o N rm' r' x' := by
 obtain ⟨b1, b2, b3, b4, b5, b6, b7, b8⟩ := h.b
 exact ⟨hm (h.m.far g (by omega) (by omega)), h.a.kept g b4, s, grownBy_up h.g g (fun q hq => by injection hq with hq; omega), ⟨b1, b2, b3, b4, b5, Nat.le_trans b6 g.size, b7, b8⟩, e⟩
theorem e_map {f : It → It} (he : ∀ y u, r = .ok (y, u) → x.pl = y) (hf : x'.pl = f x.pl) : ∀ y u, (Pr.th r fun y u => .ok (f y, u)) = .ok (y, u) → x'.pl = y := by
 intro y u hy
 rcases r with n | ⟨y0, u0⟩
 ·cases hy
 ·injection hy with hy; injection hy with h1 h2; rw [← h1, hf, he _ _ rfl]
theorem e_call {f : Pr.St → Pr.Res β} {g : It → β → It} {z : β} (he : ∀ y u, r = .ok (y, u) → x.pl = y) (hz : ∀ y u, (Pr.th r fun _ u => f u) = .ok (y, u) → z = y) (hx : x'.pl = g x.pl z) :
  ∀ y u, (Pr.th r fun y u => Pr.th (f u) fun p v => .ok (g y p, v)) = .ok (y, u) → x'.pl = y := by
 intro y u hy
 rcases r with n | ⟨y0, u0⟩
 ·cases hy
 ·change Pr.th (f u0) _ = _ at hy
  rcases q : f u0 with n | ⟨p, v⟩
  ·rw [q] at hy; cases hy
  ·rw [q] at hy; injection hy with hy; injection hy with h1 h2; rw [← h1, hx, he _ _ rfl, hz p v q]
theorem m_map {f : α → β} {r : Pr.Res α} (h : RM w rb sb cap l o N r) : RM w rb sb cap l o N (Pr.th r fun y u => .ok (f y, u)) := h.as _ (.inl (by rcases r with n | ⟨y, u⟩ <;> rfl))
theorem m_call {f : Pr.St → Pr.Res β} {g : α → β → γ} {r : Pr.Res α} (h : RM w rb sb cap l o N (Pr.th r fun _ u => f u)) : RM w rb sb cap l o N (Pr.th r fun y u => Pr.th (f u) fun p v => .ok (g y p, v)) := h.as _ (.inl (by
 rcases r with n | ⟨y, u⟩
 ·rfl
 ·show Pr.th (f u) _ = Pr.th (Pr.th (f u) _) _
  rcases f u with n | ⟨p, v⟩ <;> rfl))
theorem SW.kind (h : SW w0 w1 w rb sb cap A S l o N rm r x) (k : Int) (hm : ∀ w', RM w' rb sb cap l o N rm → RM w' rb sb cap l o N rm') :
  SW w0 w1 (w.setCell ⟨S, 0, none⟩ (.int .i64 k)) rb sb cap A S l o N rm' (Pr.th r fun y u => .ok ({ y with h := { y.h with kind := k } }, u)) { x with h := { x.h with kind := k } } :=
 h.put (grownBy_setC w ⟨S, 0, none⟩ _) (h.s.kind h.b.2.2.1 k) (hm _) (e_map (x' := { x with h := { x.h with kind := k } }) h.e rfl)
theorem SW.both (h : SW w0 w1 w rb sb cap A S l o N rm r x) (k : Bool) (hm : ∀ w', RM w' rb sb cap l o N rm → RM w' rb sb cap l o N rm') :
  SW w0 w1 (w.setCell ⟨S, 47, none⟩ (.bool k)) rb sb cap A S l o N rm' (Pr.th r fun y u => .ok ({ y with h := { y.h with both := k } }, u)) { x with h := { x.h with both := k } } :=
 h.put (grownBy_setC w ⟨S, 47, none⟩ _) (h.s.both h.b.2.2.1 k) (hm _) (e_map (x' := { x with h := { x.h with both := k } }) h.e rfl)
/-- A name in a statement. -/
theorem SW.name (h : SW w0 w1 w rb sb cap A S l o N (Pr.th r fun _ u => Pa.name l u) r x) {z : Tx.Sg} (hz : ∀ y u, (Pr.th r fun _ u => Pa.name l u) = .ok (y, u) → z = y) (hs : z.text.size ≤ maxLen) :
  SW w0 w1 (w.setCell ⟨S, 43, none⟩ (.string z.text)) rb sb cap A S l o N (Pr.th r fun y u => Pr.th (Pa.name l u) fun p v => .ok (({ y with h := { y.h with name := p.text } } : It), v)) (Pr.th r fun y u => Pr.th (Pa.name l u) fun p v => .ok (({ y with h := { y.h with name := p.text } } : It), v)) { x with h := { x.h with name := z.text } } :=
 h.put (grownBy_setC w ⟨S, 43, none⟩ _) (h.s.name h.b.2.2.1 z.text hs) m_call (e_call (x' := { x with h := { x.h with name := z.text } }) (g := fun y p => { y with h := { y.h with name := p.text } }) h.e hz rfl)
/-- A path in a statement. -/
theorem SW.place (h : SW w0 w1 w rb sb cap A S l o N (Pr.th r fun _ u => Pa.path l u) r x) {p : Pth} (hB : Bk w' S 54 (putC x.cells 2 p.cells).toArray) (hF : w.grownBy w' (some S)) (hs : hopsLie (fresh w1.heap.size w) p.hops)
  (hz : ∀ y u, (Pr.th r fun _ u => Pa.path l u) = .ok (y, u) → p.pl = y) :
  SW w0 w1 w' rb sb cap A S l o N (Pr.th r fun y u => Pr.th (Pa.path l u) fun p v => .ok (({ y with h := { y.h with place := p } } : It), v)) (Pr.th r fun y u => Pr.th (Pa.path l u) fun p v => .ok (({ y with h := { y.h with place := p } } : It), v)) { x with h := { x.h with place := p } } :=
 h.put hF (h.s.place h.b.2.2.1 hB hF hs) m_call (e_call (x' := { x with h := { x.h with place := p } }) (g := fun y p => { y with h := { y.h with place := p } }) h.e hz rfl)
theorem SW.value (h : SW w0 w1 w rb sb cap A S l o N (Pr.th r fun _ u => Pa.value l u) r x) {p : Vl} (hB : Bk w' S 54 (putC x.cells 5 p.cells).toArray) (hF : w.grownBy w' (some S)) (hs : vlLies (fresh w1.heap.size w) p)
  (hz : ∀ y u, (Pr.th r fun _ u => Pa.value l u) = .ok (y, u) → p.pl = y) :
  SW w0 w1 w' rb sb cap A S l o N (Pr.th r fun y u => Pr.th (Pa.value l u) fun p v => .ok (({ y with h := { y.h with value := p } } : It), v)) (Pr.th r fun y u => Pr.th (Pa.value l u) fun p v => .ok (({ y with h := { y.h with value := p } } : It), v)) { x with h := { x.h with value := p } } :=
 h.put hF (h.s.value h.b.2.2.1 hB hF hs) m_call (e_call (x' := { x with h := { x.h with value := p } }) (g := fun y p => { y with h := { y.h with value := p } }) h.e hz rfl)
theorem SW.cond (h : SW w0 w1 w rb sb cap A S l o N (Pr.th r fun _ u => Pa.cond l u) r x) {p : Cd} (hB : Bk w' S 54 (putC x.cells 17 p.cells).toArray) (hF : w.grownBy w' (some S)) (hs : vlLies (fresh w1.heap.size w) p.left ∧ vlLies (fresh w1.heap.size w) p.right)
  (hz : ∀ y u, (Pr.th r fun _ u => Pa.cond l u) = .ok (y, u) → p.pl = y) :
  SW w0 w1 w' rb sb cap A S l o N (Pr.th r fun y u => Pr.th (Pa.cond l u) fun p v => .ok (({ y with h := { y.h with cond := p } } : It), v)) (Pr.th r fun y u => Pr.th (Pa.cond l u) fun p v => .ok (({ y with h := { y.h with cond := p } } : It), v)) { x with h := { x.h with cond := p } } :=
 h.put hF (h.s.cond h.b.2.2.1 hB hF hs) m_call (e_call (x' := { x with h := { x.h with cond := p } }) (g := fun y p => { y with h := { y.h with cond := p } }) h.e hz rfl)
theorem SW.then_ {f : Pr.St → Pr.Res SL} (h : SW w0 w1 w rb sb cap A S l o N (Pr.th r fun _ u => f u) r x) (p : Option Addr) (c : Nat) (s : SL) (hs : sLies (fresh w1.heap.size w) p s) (hz : ∀ y u, (Pr.th r fun _ u => f u) = .ok (y, u) → s.pl = y) :
  SW w0 w1 (w.setCell ⟨S, 45, none⟩ (.slice p s.len c)) rb sb cap A S l o N (Pr.th r fun y u => Pr.th (f u) fun p v => .ok (({ y with t := p } : It), v)) (Pr.th r fun y u => Pr.th (f u) fun p v => .ok (({ y with t := p } : It), v)) { x with tp := p, tc := c, t := s } :=
 h.put (grownBy_setC w ⟨S, 45, none⟩ _) (h.s.then_ h.b.2.2.1 p c s hs) m_call (e_call (x' := { x with tp := p, tc := c, t := s }) (g := fun y p => { y with t := p }) h.e hz rfl)
theorem SW.else_ {f : Pr.St → Pr.Res SL} (h : SW w0 w1 w rb sb cap A S l o N (Pr.th r fun _ u => f u) r x) (p : Option Addr) (c : Nat) (s : SL) (hs : sLies (fresh w1.heap.size w) p s) (hz : ∀ y u, (Pr.th r fun _ u => f u) = .ok (y, u) → s.pl = y) :
  SW w0 w1 (w.setCell ⟨S, 46, none⟩ (.slice p s.len c)) rb sb cap A S l o N (Pr.th r fun y u => Pr.th (f u) fun p v => .ok (({ y with e := p } : It), v)) (Pr.th r fun y u => Pr.th (f u) fun p v => .ok (({ y with e := p } : It), v)) { x with ep := p, ec := c, e := s } :=
 h.put (grownBy_setC w ⟨S, 46, none⟩ _) (h.s.else_ h.b.2.2.1 p c s hs) m_call (e_call (x' := { x with ep := p, ec := c, e := s }) (g := fun y p => { y with e := p }) h.e hz rfl)
/-- A mark that must be next was asked for. -/
theorem SW.want (h : SW w0 w1 w rb sb cap A S l o N r r x) (s : ByteArray) (g : w.grownBy w' (some rb)) (m : RM w' rb sb cap l o N (Pr.th r fun _ u => Pr.must (Pa.ts l) s u)) :
  SW w0 w1 w' rb sb cap A S l o N (Pr.th r fun y u => Pr.th (Pr.must (Pa.ts l) s u) fun _ v => .ok (y, v)) (Pr.th r fun y u => Pr.th (Pr.must (Pa.ts l) s u) fun _ v => .ok (y, v)) x := by
 have hz : ∀ y u, (Pr.th r fun _ u => Pr.th (Pr.must (Pa.ts l) s u) fun _ v => (.ok ((), v) : Pr.Res Unit)) = .ok (y, u) → () = y := fun _ _ _ => rfl
 have h1 := h.call g (m_call (g := fun (y : It) _ => y) m)
 refine ⟨h1.m, h1.a, h1.s, h1.g, h1.b, ?_⟩
 intro y u hy
 rcases r with n | ⟨y0, u0⟩
 ·cases hy
 ·change Pr.th (Pr.must (Pa.ts l) s u0) _ = _ at hy
  rcases q : Pr.must (Pa.ts l) s u0 with n | ⟨p, v⟩
  ·rw [q] at hy; cases hy
  ·rw [q] at hy; injection hy with hy; injection hy with h3 h4; rw [← h3]; exact h.e _ _ rfl
/-- The statement is handed back. -/
theorem SW.done (h : SW w0 w1 w rb sb cap A S l o N r r x) {R : Pr.Res It} {wZ : World} (hF : w.grownBy wZ (some A)) (hR : R = r ∨ ((∃ n, r = .error n) ∧ ∃ n, R = .error n)) :
  RP (qIt.Val w0.heap.size) w0 rb sb cap l o N R (.returned (.agg x.cells.toArray)) wZ := by
 obtain ⟨b1, b2, b3, b4, b5, b6, b7, b8⟩ := h.b
 have hm := h.m.far hF (by omega) (by omega)
 refine ⟨grownBy_up h.g hF (fun q hq => by injection hq with hq; omega), _, x.pl, rfl, ⟨x, rfl, rfl, itLies_ext ((fresh_par hF b2).trans (fresh_mono (by omega) _)) h.s.2⟩, ?_, ?_⟩
 ·rcases hR with rfl | ⟨_, n, rfl⟩
  ·exact h.e
  ·intro y u hy; cases hy
 ·rcases hR with rfl | ⟨⟨n, rfl⟩, m, rfl⟩
  ·exact hm
  ·exact hm.as _ (.inr ⟨⟨_, rfl⟩, ⟨_, rfl⟩⟩)
theorem SW.more (h : SW w0 w1 w rb sb cap A S l o N rm r x) : SW w0 w1 w rb sb cap A S l o (N + 1) rm r x := ⟨h.m.more, h.a, h.s, h.g, h.b, h.e⟩
end
/-- The reader's count of statements. -/
theorem RS.count {w : World} {rb sb cap : Nat} {l : List Tx.Sg} {k : Nat} {o b a e : Int} (h : RS w rb sb cap l k o b a e) (b' : Int) : RS (w.setCell ⟨rb, 3, none⟩ (.int .i64 b')) rb sb cap l k o b' a e :=
 ⟨by have := h.blk.set_ 3 (.int .i64 b'); simpa using this, fun j x hx => range_grown (h.row j x hx) (grownBy_setC w ⟨rb, 3, none⟩ _) h.ne, h.ne, h.pos, h.len, h.kb⟩
end Go.Proofs.YtdlchhimkelinaaGreatDoor
namespace Go.Proofs.YtdlchhimkelinaaGreatDoor
open Go.RowKit Go.Sort
section
variable {l : List Tx.Sg}
theorem must_of {s : ByteArray} {u : Pr.St} (h : Pr.is (Pa.ts l) u.i s = true) : Pr.must (Pa.ts l) s u = .ok (Pr.sg (Pa.ts l) u.i, u.go) := by
 unfold Pr.must; rw [if_pos h]
theorem stp_want {r r' : Pr.Res It} {s : ByteArray} (hr : r' = Pr.th r fun y u => Pr.th (Pr.must (Pa.ts l) s u) fun _ v => .ok (y, v)) {x : It} {u : Pr.St} (hc : r' = .ok (x, u)) : ∃ x0 u0, r = .ok (x0, u0) ∧ u0.i ≤ u.i := by
 rw [hr] at hc
 obtain ⟨y, v, h1, h2⟩ := Pr.th_ok hc
 obtain ⟨t, z, h3, h4⟩ := Pr.th_ok h2
 injection h4 with h4; injection h4 with h5 h6
 exact ⟨y, v, h1, by rw [← h6]; exact Nat.le_trans (Nat.le_add_right _ _) (Pr.must_fwd h3).1⟩
theorem acond_fwd {u v : Pr.St} {c : Cd} (h : Pa.cond l u = .ok (c, v)) : u.i ≤ v.i := by
 have hs := Pa.cond_er (l := l) u
 rw [h] at hs
 rcases q : Pr.cond (Pa.ts l) u with n | ⟨b, w⟩
 ·rw [q] at hs; exact hs.elim
 ·rw [q] at hs
  obtain ⟨_, rfl⟩ := hs
  exact Nat.le_trans (Nat.le_add_right _ _) (Pr.cond_fwd q).1
theorem stp_cond {r r' : Pr.Res It} (hr : r' = Pr.th r fun y u => Pr.th (Pa.cond l u) fun p v => .ok (({ y with h := { y.h with cond := p } } : It), v)) {x : It} {u : Pr.St} (hc : r' = .ok (x, u)) : ∃ x0 u0, r = .ok (x0, u0) ∧ u0.i ≤ u.i := by
 rw [hr] at hc
 obtain ⟨y, v, h1, h2⟩ := Pr.th_ok hc
 obtain ⟨t, z, h3, h4⟩ := Pr.th_ok h2
 injection h4 with h4; injection h4 with h5 h6
 exact ⟨y, v, h1, by rw [← h6]; exact acond_fwd h3⟩
theorem ablock_stp {rec : Pr.St → Pr.Res SL} (hr : ∀ u a v, rec u = .ok (a, v) → Pr.Stp 0 u v) {u v : Pr.St} {a : SL} (h : Pr.block (Pa.ts l) rec u = .ok (a, v)) : Pr.Stp 1 u v := by
 have hl : ∀ u, Pa.Like SL.er (rec u) ((fun u => Pr.th (rec u) fun a v => (.ok (a.er, v) : Pr.Res SL)) u) := by
  intro u
  show Pa.Like SL.er (rec u) (Pr.th (rec u) _)
  rcases rec u with n | ⟨b, w⟩
  ·exact rfl
  ·exact ⟨rfl, rfl⟩
 have hs := Pa.block_er (l := l) hl u
 change Pa.Like SL.er (Pr.block (Pa.ts l) rec u) _ at hs
 rw [h] at hs
 rcases q : Pr.block (Pa.ts l) (fun u => Pr.th (rec u) fun a v => (.ok (a.er, v) : Pr.Res SL)) u with n | ⟨b, w⟩
 ·rw [q] at hs; exact hs.elim
 ·rw [q] at hs
  obtain ⟨_, rfl⟩ := hs
  refine Pr.block_stp (fun u a v hh => ?_) q
  rcases q2 : rec u with n | ⟨c, z⟩
  ·simp only [q2, Pr.th] at hh; cases hh
  ·simp only [q2, Pr.th] at hh
   injection hh with hh; injection hh with h1 h2
   rw [← h2]; exact hr u c z q2
theorem stp_block {rec : Pr.St → Pr.Res SL} (hr0 : ∀ u a v, rec u = .ok (a, v) → Pr.Stp 0 u v) {r r' : Pr.Res It} (hr : r' = Pr.th r fun y u => Pr.th (Pr.block (Pa.ts l) rec u) fun p v => .ok (({ y with t := p } : It), v)) {x : It} {u : Pr.St} (hc : r' = .ok (x, u)) : ∃ x0 u0, r = .ok (x0, u0) ∧ u0.i ≤ u.i := by
 rw [hr] at hc
 obtain ⟨y, v, h1, h2⟩ := Pr.th_ok hc
 obtain ⟨t, z, h3, h4⟩ := Pr.th_ok h2
 injection h4 with h4; injection h4 with h5 h6
 exact ⟨y, v, h1, by rw [← h6]; exact Nat.le_trans (Nat.le_add_right _ _) (ablock_stp hr0 h3).1⟩
/-- A branch up to its else. -/
def brT (l : List Tx.Sg) (rec : Pr.St → Pr.Res SL) (ps : Int) (v : Pr.St) : Pr.Res It :=
 Pr.th (Pr.th (Pr.th (Pr.th (Pr.th (.ok (it0 ps, v.go) : Pr.Res It) fun y u => .ok (({ y with h := { y.h with kind := 4 } } : It), u)) fun y u => Pr.th (Pr.must (Pa.ts l) ⟨#[40]⟩ u) fun _ v => .ok (y, v)) fun y u => Pr.th (Pa.cond l u) fun p v => .ok (({ y with h := { y.h with cond := p } } : It), v)) fun y u => Pr.th (Pr.must (Pa.ts l) ⟨#[41]⟩ u) fun _ v => .ok (y, v)) fun y u => Pr.th (Pr.block (Pa.ts l) rec u) fun p v => .ok (({ y with t := p } : It), v)
theorem branch_brT {rec : Pr.St → Pr.Res SL} {ps : Int} {v : Pr.St} (hi : Pr.is (Pa.ts l) v.i ⟨#[105, 102]⟩ = true) (hp : (Pa.sg l v.i).pos = ps) :
  (Pr.th (Pa.branch l rec v) fun a v => (.ok (itB a, v) : Pr.Res It)) = Pr.th (brT l rec ps v) fun y u => if Pr.is (Pa.ts l) u.i ⟨#[101, 108, 115, 101]⟩ then (Pr.th (Pr.block (Pa.ts l) rec u.go) fun e v => .ok (({ y with h := { y.h with both := true }, e := e } : It), v)) else .ok (y, u) := by
 unfold Pa.branch Pa.held brT
 rw [must_of hi, hp]
 simp only [Pr.th_th, Pr.th_okk]
 rcases Pr.must (Pa.ts l) ⟨#[40]⟩ v.go with n | ⟨t1, u1⟩
 ·rfl
 simp only [Pr.th_okk]
 rcases Pa.cond l u1 with n | ⟨t2, u2⟩
 ·rfl
 simp only [Pr.th_okk]
 rcases Pr.must (Pa.ts l) ⟨#[41]⟩ u2 with n | ⟨t3, u3⟩
 ·rfl
 simp only [Pr.th_okk]
 show Pr.th (Pr.block (Pa.ts l) rec u3) _ = _
 rcases Pr.block (Pa.ts l) rec u3 with n | ⟨t4, u4⟩
 ·rfl
 simp only [Pr.th_okk]
 show Pr.th (if _ then Pr.th (Pr.block (Pa.ts l) rec u4.go) _ else _) _ = _
 split
 ·rcases Pr.block (Pa.ts l) rec u4.go with n | ⟨t5, u5⟩ <;> rfl
 ·rfl
theorem if_yes {rec : Pr.St → Pr.Res SL} {ps : Int} {v u0 : Pr.St} {y0 : It} (hi : Pr.is (Pa.ts l) v.i ⟨#[105, 102]⟩ = true) (hp : (Pa.sg l v.i).pos = ps) (hc : brT l rec ps v = .ok (y0, u0)) (he : Pr.is (Pa.ts l) u0.i ⟨#[101, 108, 115, 101]⟩ = true) :
  (Pr.th (Pa.branch l rec v) fun a v => (.ok (itB a, v) : Pr.Res It)) = Pr.th (Pr.th (.ok (y0, u0.go) : Pr.Res It) fun y u => .ok (({ y with h := { y.h with both := true } } : It), u)) fun y u => Pr.th (Pr.block (Pa.ts l) rec u) fun p v => .ok (({ y with e := p } : It), v) := by
 rw [branch_brT hi hp, hc]
 simp only [Pr.th_okk]
 rw [if_pos he]
theorem if_no {rec : Pr.St → Pr.Res SL} {ps : Int} {v : Pr.St} (hi : Pr.is (Pa.ts l) v.i ⟨#[105, 102]⟩ = true) (hp : (Pa.sg l v.i).pos = ps) (he : ∀ y u, brT l rec ps v = .ok (y, u) → Pr.is (Pa.ts l) u.i ⟨#[101, 108, 115, 101]⟩ = false) :
  (Pr.th (Pa.branch l rec v) fun a v => (.ok (itB a, v) : Pr.Res It)) = brT l rec ps v := by
 rw [branch_brT hi hp]
 rcases q : brT l rec ps v with n | ⟨y, u⟩
 ·rfl
 ·simp only [Pr.th_okk]
  rw [if_neg (by rw [he y u q]; decide)]
end
end Go.Proofs.YtdlchhimkelinaaGreatDoor
