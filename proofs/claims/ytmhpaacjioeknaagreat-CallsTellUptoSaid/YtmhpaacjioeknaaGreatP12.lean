/-
  The walks of the bill's cost and of calls.Order. The walk of calls.Cost. The walks of the document's find and called. The walk of the document's called. A row of numbers that is taken from the front and grows at its end. The walk of the document's reach. The walk of the document's reach. The walk of
-/
import Derived.Test.YtmhpaacjioeknaaGreatP11
import Derived.Test.YtmhpaacjioeknaaGreatP01
import Derived.Deep.AppendSrc
import Derived.Deep.Upon
import Derived.Test.YtmhpaacjioeknaaGreatP03
set_option maxHeartbeats 6400000
set_option maxRecDepth 100000
namespace Go.Proofs.YtmhpaacjioeknaaGreat
open Go.RowKit Go.Maps Go.Sort Go.WideMaps
/-- What a body costs, those that it calls told. -/
def costOf (ns : List ByteArray) (cs : List Int) (l : SL) : Int := payAll ns cs l.every (l.cntFrom 0)
theorem cost_any {W : World} {ns : List ByteArray} {cs : List Int} {mb B : Nat} {vc : Value} (hN : NM W mb ns) (hR : OR W B vc cs) (hC : Costs cs) (hlen : ns.length = cs.length) (hcl : cs.length ≤ 1000000)
  (l : SL) (p : Option Addr) (c : Nat) (w : World) (hb : Below W.heap.size W w) (hl : sLies W p l) (hcn : l.count ≤ 10000) :
  Calls Tryz.prog 32 #[.agg #[.map (some mb), vc], .slice p l.len c] w fun e w' => e = .returned (.int .i64 (costOf ns cs l)) ∧ Below w.heap.size w w' := by
 have HF := hdn ((SL.all (flw_one hN hR hC hlen hcl) l).1)
 have HL := hdn hl
 have HB := hdn hb
 have HC := hdn hcn
 have he := SL.cntFrom_eq l 0
 have h0 : 0 ≤ l.cntFrom 0 := by omega
 have h1 : l.cntFrom 0 ≤ 10000 := by omega
 obtain ⟨avc, cvc, rfl⟩ := hR.shape
 have HV := hdn (And.intro h0 h1)
 unfold costOf
 clear hN hR hC hlen hcl hl hb hcn he
 go_enter Tryz.func32, Tryz.ntmps32
 go_wp2_with fail
 have HX := hdn (bill_box w (.map (some mb)) (.slice avc cs.length cvc))
 have HBA : Hid (Below w.heap.size w (w.alloc (.cells #[.map (some mb), .slice avc cs.length cvc] 76))) := hdn ((Below.refl _ _).alloc (Nat.le_refl _) _)
 have HB1 : Hid (Below W.heap.size W (w.alloc (.cells #[.map (some mb), .slice avc cs.length cvc] 76))) := hdn (HB.out.trans (HBA.out.mono HB.out.size))
 generalize w.alloc (.cells #[.map (some mb), .slice avc cs.length cvc] 76) = w1 at HX HBA HB1 ⊢
 generalize w.heap.size = bx at HX ⊢
 have x0 : w1.cell? ⟨bx, 0, none⟩ = some (.map (some mb)) := HX.out.cell 0
 have x1 : w1.cell? ⟨bx, 1, none⟩ = some (.slice avc cs.length cvc) := HX.out.cell 1
 have v0 := cell_regrown x0
 have v1 := cell_regrown x1
 have cN : ∀ dd os, Calls Tryz.prog 48 #[.slice p l.len c] (grow (redrawn w1 dd) os) fun en w'' => en = .returned (.int .i64 (l.cntFrom 0)) ∧ ∃ p : Regrown, w'' = grow (redrawn w1 p.d) p.os :=
  fun dd os => Calls.regrown_of (count_any l p c _ (sLies_below HL.out (HB1.out.trans ((below_regrown _ _ _).mono HB1.out.size))) HC.out)
 have cF : ∀ dd os, Calls Tryz.prog 47 #[.agg #[.map (some mb), .slice avc cs.length cvc], .int .i64 (min (l.cntFrom 0) 1073741824), .slice p l.len c] (grow (redrawn w1 dd) os) fun en w'' => en = .returned (.int .i64 (payAll ns cs l.every (l.cntFrom 0))) ∧ ∃ p : Regrown, w'' = grow (redrawn w1 p.d) p.os :=
  fun dd os => Calls.regrown_of (by
   rw [show min (l.cntFrom 0) 1073741824 = l.cntFrom 0 by have := HV.out; omega]
   exact HF.out p c _ _ (HB1.out.trans ((below_regrown _ _ _).mono HB1.out.size)) HL.out HV.out.1 (Int.le_trans HV.out.2 (by omega)))
 generalize hm : payAll ns cs l.every (l.cntFrom 0) = m at cF ⊢
 have HM := hdn hm
 clear hm
 generalize l.cntFrom 0 = n at cN cF ⊢
 refine wp_region_quiet_below (by kernel_rfl) (by kernel_rfl) ?_
 repeat (go_big_quiet_step (first | (with_reducible exact cN _ _) | (with_reducible exact cF _ _)))
 refine wpQuiet_nil ?_
 intro _ hw'
 obtain ⟨⟨dq, osq⟩, hw''⟩ := hw'
 subst hw''
 have HB6 := hdn (below_regrown w1 dq osq)
 generalize grow (redrawn w1 dq) osq = w6 at HB6 ⊢
 go_wp2_with fail
 go_ret
 exact ⟨ret_int HM.out.symm, HBA.out.trans (HB6.out.mono HBA.out.size)⟩
/-- What is asked of the procedures. -/
structure PsOk (l : List Pc) : Prop where
 len : l.length ≤ 1000
 names : ∀ x ∈ l, x.name.size ≤ maxLen
 body : ∀ x ∈ l, x.body.count ≤ 10000 ∧ ∀ y ∈ uq [] x.body.every, y.size ≤ maxLen
theorem cal_in (ns : List ByteArray) : ∀ (l : List ByteArray), (cal ns l).length ≤ l.length ∧ ∀ e ∈ cal ns l, 0 ≤ e ∧ e < ns.length
 | [] => ⟨Nat.le_refl _, by simp [cal]⟩
 | x :: r => by
  have ih := cal_in ns r
  rw [cal]
  split
  ·next h =>
   refine ⟨by simp only [List.length_append, List.length_cons, List.length_nil]; omega, ?_⟩
   intro e he
   rw [List.mem_append, List.mem_singleton] at he
   rcases he with rfl | he
   ·have := plc_lt (isIn_iff.1 h); omega
   ·exact ih.2 e he
  ·refine ⟨by simp only [List.nil_append, List.length_cons]; omega, ?_⟩
   rw [List.nil_append]; exact ih.2
theorem web_in {l : List Pc} (h : PsOk l) : ∀ xs ∈ web l, xs.length ≤ 10000 ∧ ∀ e ∈ xs, 0 ≤ e ∧ e < (web l).length := by
 intro xs hx
 obtain ⟨x, hxl, rfl⟩ := List.mem_map.1 hx
 have h1 := cal_in (nms l) (uq [] x.body.every)
 have h2 := uq_len [] x.body.every
 have h3 := SL.every_le x.body
 have h4 := (h.body x hxl).1
 refine ⟨?_, ?_⟩
 ·show (cal (nms l) (uq [] x.body.every)).length ≤ 10000
  simp only [List.length_nil, Nat.zero_add] at h2
  omega
 ·intro e he
  have := h1.2 e he
  rw [web_len]
  simpa [nms] using this
theorem OrdPost.up {XS : List (List Int)} {w w2 w' : World} {v : Value} (hb : Below w.heap.size w w2) (h : OrdPost XS w2 w' v) : OrdPost XS w w' v := by
 obtain ⟨os, h1, h2, h3, h4⟩ := h
 refine ⟨os, h1, h2, hb.trans (h3.mono hb.size), ?_⟩
 rcases h4 with h4 | h4
 ·exact .inl h4
 ·exact .inr ⟨h4.1, own_down h4.2 hb.size⟩
theorem prog_box (w : World) (x y z : Value) : Bk (w.alloc (.cells #[x, y, z] 26)) w.heap.size 26 #[x, y, z] := heap_alloc_new w _
theorem porder_any (sv gv : Value) (s : Sl Pc) (w : World) (h : pcsLie w s) (hP : PsOk s.l) :
  Calls Tryz.prog 11 #[.agg #[sv, gv, .slice s.p s.l.length s.cap]] w fun e w' => ∃ v, e = .returned v ∧ OrdPost (web s.l) w w' v := by
 have HS := hdn h
 have HP := hdn hP
 clear h hP
 go_enter Tryz.func11, Tryz.ntmps11
 have HBA : Hid (Below w.heap.size w (w.alloc (.cells #[sv, gv, .slice s.p s.l.length s.cap] 26))) := hdn ((Below.refl _ _).alloc (Nat.le_refl _) _)
 have HWO := hdn (woven_any s _ (pcsLie_below HS.out HBA.out) (by have := HP.out.len; omega) HP.out.names HP.out.body)
 go_wp2_with (first | (go_at_call 16; refine (HWO.out).mono ?_; rintro en w2 ⟨B, b, vs, rfl, hr, hb, hle, hBs⟩; have HR := hdn hr; have HB2 := hdn (HBA.out.trans (hb.mono HBA.out.size)); have HOR := hdn (order_any w2 hr (by rw [web_len]; exact HP.out.len) (web_in HP.out) s.l.length); rw [web_len] at HOR; clear hr hb hle hBs) | (go_at_call 22; refine (HOR.out).mono ?_; rintro en w3 ⟨v, rfl, hv⟩; have HV := hdn (hv.up HB2.out); clear hv))
 go_ret
 exact ⟨_, rfl, HV.out⟩
end Go.Proofs.YtmhpaacjioeknaaGreat
namespace Go.Proofs.YtmhpaacjioeknaaGreat
open Go.RowKit Go.Maps Go.Sort Go.WideMaps
def bodyAt (l : List Pc) (k : Nat) : SL := (l[k]?.map (·.body)).getD .nil
/-- The costs, those of an order told one by one. -/
def pays (l : List Pc) : List Int → List Int → List Int
 | [], cs => cs
 | i :: os, cs => pays l os (cs.set i.toNat (costOf (nms l) cs (bodyAt l i.toNat)))
theorem pays_snoc (l : List Pc) : ∀ (os cs : List Int) (i : Int), pays l (os ++ [i]) cs = (pays l os cs).set i.toNat (costOf (nms l) (pays l os cs) (bodyAt l i.toNat))
 | [], _, _ => rfl
 | a :: os, cs, i => by rw [List.cons_append, pays, pays, pays_snoc l os]
def mainB : ByteArray := ⟨#[109, 97, 105, 110]⟩
theorem mainOk : byName.ok mainB := by
 show mainB.size ≤ maxLen
 unfold maxLen; decide
theorem main_look {w : World} {mb : Nat} {ns : List ByteArray} (h : NM w mb ns) : (Instr.lookup 50 (.map (some mb)) (.string ⟨#[109, 97, 105, 110]⟩) true).run Tryz.prog w = .ok (.tuple #[.int .i64 (numOf ns mainB), .bool (isIn ns mainB)]) w := h.look mainOk
/-- What Cost answers. -/
def CostIs (l : List Pc) (v : Int) : Prop :=
 if isIn (nms l) mainB = true then ∃ os, Told (web l) os ∧ (∀ k, ¬ Rdy (web l) os k) ∧ v = fn (pays l (if os.length < l.length then [] else os) (List.replicate l.length 0)) (plc (nms l) mainB) else v = 0
def CostPost (l : List Pc) (w w' : World) (v : Int) : Prop := CostIs l v ∧ Below w.heap.size w w'
theorem costOf_in {ns : List ByteArray} {cs : List Int} (hc : Costs cs) (l : SL) (hl : l.count ≤ 10000) : 0 ≤ costOf ns cs l ∧ costOf ns cs l ≤ 1073741824 := by
 have he := SL.cntFrom_eq l 0
 exact payAll_in hc _ (by omega) (by omega)
theorem costs_set {cs : List Int} (hc : Costs cs) (k : Nat) {x : Int} (h0 : 0 ≤ x) (h1 : x ≤ 1073741824) : Costs (cs.set k x) := by
 intro c
 by_cases hk : k < cs.length
 ·rw [fn_set cs hk]
  split
  ·exact ⟨h0, h1⟩
  ·exact hc c
 ·rw [List.set_eq_of_length_le (by omega)]; exact hc c
theorem costs_nil (n : Nat) : Costs (List.replicate n 0) := by
 intro c
 unfold fn
 rw [List.getD_eq_getElem?_getD, List.getElem?_replicate]
 split <;> simp
theorem OrdPost.row {XS : List (List Int)} {w w' : World} {v : Value} (h : OrdPost XS w w' v) : ∃ os os' : List Int, Told XS os ∧ (∀ k, ¬ Rdy XS os k) ∧ Below w.heap.size w w' ∧ os' = (if os.length < XS.length then [] else os) ∧ OR w' w.heap.size v os' := by
 obtain ⟨os, h1, h2, h3, h4⟩ := h
 refine ⟨os, _, h1, h2, h3, rfl, ?_⟩
 rcases h4 with ⟨h4, rfl⟩ | ⟨h4, h5⟩
 ·rw [if_pos h4]; exact World.ownsRow_nil _ _ _ _
 ·rw [if_neg (by omega)]; exact h5
theorem box_two {w : World} {g : Nat} {x y z : Value} (h : Bk w g 26 #[x, y, z]) (o o' : Obj) : Bk ((w.alloc o).alloc o') g 26 #[x, y, z] := by
 have h1 : Below w.heap.size w (w.alloc o) := (Below.refl _ _).alloc (Nat.le_refl _) _
 have h2 := h1.alloc h1.size o'
 exact h.below h2 h.lt
theorem two_below (w : World) (o o' : Obj) : Below w.heap.size w ((w.alloc o).alloc o') := by
 have h1 : Below w.heap.size w (w.alloc o) := (Below.refl _ _).alloc (Nat.le_refl _) _
 exact h1.alloc h1.size o'
/-- While the costs are told: W was ahead. -/
structure Bl (W w : World) (mb cb bb n : Nat) (vo : Value) (cs os : List Int) : Prop where
 bel : Below W.heap.size W w
 row : OR w W.heap.size (.slice (some ⟨cb, 0, none⟩) n n) cs
 len : cs.length = n
 blk : Bk w bb 76 #[.map (some mb), .slice (some ⟨cb, 0, none⟩) n n]
 ord : OR w (bb + 1) vo os
 lt : W.heap.size ≤ cb ∧ cb < bb
theorem Bl.below {W w w' : World} {mb cb bb n : Nat} {vo : Value} {cs os : List Int} (h : Bl W w mb cb bb n vo cs os) (hb : Below w.heap.size w w') : Bl W w' mb cb bb n vo cs os :=
 ⟨h.bel.trans (hb.mono h.bel.size), own_below h.row hb, h.len, h.blk.below hb h.blk.lt, own_below h.ord hb, h.lt⟩
theorem Bl.put {W w : World} {mb cb bb n : Nat} {vo : Value} {cs os : List Int} (h : Bl W w mb cb bb n vo cs os) (c : Nat) (x : Int) : Bl W (w.setCell ⟨cb, c, none⟩ (.int .i64 x)) mb cb bb n vo (cs.set c x) os := by
 have hg := grownBy_setC w ⟨cb, c, none⟩ (.int .i64 x)
 have hl := h.lt
 have hn := h.len
 subst hn
 refine ⟨below_rp h.bel hg hl.1, by have h1 := h.row.put c x; exact h1, by rw [List.length_set], h.blk.kept hg (by show bb ≠ cb; omega), own_par h.ord hg (by show cb < bb + 1; omega), hl⟩
theorem Bl.start {w w5 : World} {mb n : Nat} {vo : Value} {os : List Int} (hn : n ≤ 1000) (h5 : Below ((w.alloc (.cells (madeCells #[.int .i64 0] n) 3)).alloc (.cells #[.map (some mb), .slice (some ⟨w.heap.size, 0, none⟩) n n] 76)).heap.size ((w.alloc (.cells (madeCells #[.int .i64 0] n) 3)).alloc (.cells #[.map (some mb), .slice (some ⟨w.heap.size, 0, none⟩) n n] 76)) w5)
  (ho : OR w5 ((w.alloc (.cells (madeCells #[.int .i64 0] n) 3)).alloc (.cells #[.map (some mb), .slice (some ⟨w.heap.size, 0, none⟩) n n] 76)).heap.size vo os) : Bl w w5 mb w.heap.size (w.heap.size + 1) n vo (List.replicate n 0) os := by
 have hs : (w.alloc (.cells (madeCells #[.int .i64 0] n) 3)).heap.size = w.heap.size + 1 := by simp
 have hs2 : ((w.alloc (.cells (madeCells #[.int .i64 0] n) 3)).alloc (.cells #[.map (some mb), .slice (some ⟨w.heap.size, 0, none⟩) n n] 76)).heap.size = w.heap.size + 1 + 1 := by simp
 have hm := (Below.refl (w.alloc (.cells (madeCells #[.int .i64 0] n) 3)).heap.size (w.alloc (.cells (madeCells #[.int .i64 0] n) 3))).alloc (Nat.le_refl _) (.cells #[.map (some mb), .slice (some ⟨w.heap.size, 0, none⟩) n n] 76)
 have hb := bill_box (w.alloc (.cells (madeCells #[.int .i64 0] n) 3)) (.map (some mb)) (.slice (some ⟨w.heap.size, 0, none⟩) n n)
 rw [hs] at hb
 rw [hs2] at ho
 refine ⟨(two_below w _ _).trans (h5.mono (two_below w _ _).size), own_below (own_below (made_or w n w.heap.size (Nat.le_refl _) hn) hm) h5, by simp, hb.below h5 hb.lt, ho, Nat.le_refl _, Nat.lt_succ_self _⟩
theorem pcost_any (sv gv : Value) (s : Sl Pc) (w : World) (h : pcsLie w s) (hP : PsOk s.l) :
  Calls Tryz.prog 15 #[.agg #[sv, gv, .slice s.p s.l.length s.cap]] w fun e w' => ∃ v, e = .returned (.int .i64 v) ∧ CostPost s.l w w' v := by
 have HS := hdn h
 have HP := hdn hP
 have HBA : Hid (Below w.heap.size w (w.alloc (.cells #[sv, gv, .slice s.p s.l.length s.cap] 26))) := hdn ((Below.refl _ _).alloc (Nat.le_refl _) _)
 have HX := hdn (prog_box w sv gv (.slice s.p s.l.length s.cap))
 have HNU := hdn (numbered_any s _ (pcsLie_below HS.out HBA.out) (by have := HP.out.len; omega) HP.out.names)
 obtain ⟨ir, hir, hz0, hz1, hz2⟩ := info_parts info3
 have HIR := hdn (And.intro hir (And.intro hz0 (And.intro hz1 hz2)))
 have HLL : Hid (s.l.length ≤ 1000) := hdn HP.out.len
 have hl' : (s.l.length : Int) ≤ 1000 := by have := HLL.out; omega
 clear h hP hir hz0 hz1 hz2
 go_enter Tryz.func15, Tryz.ntmps15
 rcases hmain : isIn (nms s.l) mainB with _ | _
 ·have HM := hdn hmain
  go_wp2_with (first | (go_at_call 19; refine (HNU.out).mono ?_; rintro en w2 ⟨mb, rfl, hn, hb, hmb⟩; have HN := hdn hn; have HB2 := hdn hb; have hlk := main_look hn; rw [HM.out] at hlk; clear hn hb hmb))
  go_ret
  exact ⟨_, rfl, by unfold CostIs; rw [HM.out]; rfl, HBA.out.trans (HB2.out.mono HBA.out.size)⟩
 ·have HM := hdn hmain
  have HML : Hid (numOf (nms s.l) mainB = (plc (nms s.l) mainB : Int) ∧ plc (nms s.l) mainB < s.l.length) := hdn ⟨num_plc (isIn_iff.1 hmain), by have := plc_lt (isIn_iff.1 hmain); simpa [nms] using this⟩
  go_wp2_with (first | (go_at_call 19; refine (HNU.out).mono ?_; rintro en w2 ⟨mb, rfl, hn, hb, hmb⟩; have HN := hdn hn; have HB2 := hdn hb; have hlk := main_look hn; rw [HM.out, HML.out.1] at hlk; have hbx := HX.out.below hb HX.out.lt; have c2 : w2.cell? ⟨w.heap.size, 2, none⟩ = some (.slice s.p s.l.length s.cap) := hbx.cell 2; have d0 := fun o o' => (box_two hbx o o').cell 0; have d1 := fun o o' => (box_two hbx o o').cell 1; have d2 := fun o o' => (box_two hbx o o').cell 2; simp only [List.getElem?_toArray, List.getElem?_cons_zero, List.getElem?_cons_succ] at d0 d1 d2; have HX2 := hdn hbx; have HPO := hdn (fun o o' => porder_any sv gv s ((w2.alloc o).alloc o') (pcsLie_below (pcsLie_below (pcsLie_below HS.out HBA.out) hb) (two_below w2 o o')) HP.out); clear hn hb hmb hbx) | (go_at_call 11; refine (HPO.out _ _).mono ?_; rintro en w5 ⟨vo, rfl, hv⟩; obtain ⟨os, os', h1, h2, h3, h4, h5⟩ := hv.row; have HTO := hdn h1; have HRD := hdn h2; have HOE := hdn h4; have HBL := hdn (Bl.start HLL.out h3 h5); obtain ⟨ao, co, rfl⟩ := h5.shape; clear hv h1 h2 h3 h4 h5) | (at_make; refine wpList_make_row _ rfl _ _ 33 rfl 3 ir (.int .i64 0) Tryz.underlying33 HIR.out.1 HIR.out.2.1 HIR.out.2.2.1 rfl .i64 .i64 s.l.length rfl rfl (by rw [HIR.out.2.2.2]; have := HLL.out; omega) (by have := HLL.out; omega) ?_))
  have HNS : Hid (nms s.l = nms s.l ∧ (nms s.l).length = s.l.length) := hdn ⟨rfl, by simp [nms]⟩
  have HPS : Hid (pcsLie w2 s) := hdn (pcsLie_below (pcsLie_below HS.out HBA.out) HB2.out)
  have HWB : Hid (Below w.heap.size w w2) := hdn (HBA.out.trans (HB2.out.mono HBA.out.size))
  have hos' : ∀ x ∈ os', ∃ c : Nat, x = (c : Int) ∧ c < s.l.length := by
   intro x hx
   rw [HOE.out] at hx
   split at hx
   ·simp at hx
   ·obtain ⟨c, h1, h2, _⟩ := (told_at HTO.out).2 x hx
    exact ⟨c, h1, by rw [web_len] at h2; exact h2⟩
  have hol : os'.length ≤ 1000 := by
   rw [HOE.out]
   split
   ·simp
   ·have := told_len HTO.out; rw [web_len] at this; have := HLL.out; omega
  have HOX := hdn hos'
  have hol' : (os'.length : Int) ≤ 1000 := by omega
  clear hos' HPO hlk c2 d0 d1 d2 HNU HX HS HBA HB2 HIR
  obtain ⟨cb, hcb⟩ : ∃ cb, cb = w2.heap.size := ⟨_, rfl⟩
  obtain ⟨bb, hbb⟩ : ∃ bb, bb = w2.heap.size + 1 := ⟨_, rfl⟩
  obtain ⟨bx, hbx⟩ : ∃ bx, bx = w.heap.size := ⟨_, rfl⟩
  rw [← hbb, ← hcb] at HBL
  rw [← hbx] at HX2
  rw [← hbb, ← hcb, ← hbx]
  clear hcb hbb hbx
  obtain ⟨pb, o, hp⟩ : ∃ pb o, s.p = some ⟨pb, o, none⟩ := by
   obtain ⟨pb, o, hp, _⟩ := pc_at HPS.out (List.getElem?_eq_getElem HML.out.2)
   exact ⟨pb, o, hp⟩
  have HPP := hdn hp
  rw [hp] at HX2 ⊢
  clear hp
  go_loopw [8, 28] (fun s8 sk wr => ∃ (k : Nat) (cs : List Int), sk = .int .i64 k ∧ k ≤ os'.length ∧ Hid (Bl w2 wr mb cb bb s.l.length (.slice ao os'.length co) cs os') ∧ Hid (Costs cs) ∧ Hid (cs = pays s.l (os'.take k) (List.replicate s.l.length 0))) (fun _ sk _ => os'.length - (Lib.intOf sk).toNat)
  case atStart => exact ⟨0, _, rfl, Nat.zero_le _, HBL, hdn (costs_nil _), hdn rfl⟩
  case round =>
   clear HBL
   obtain ⟨k, cs, rfl, hk, HBL, HCS, HPY⟩ := hrel
   by_cases hlt : k < os'.length
   ·have hor := HBL.out.ord
    obtain ⟨go_, co', hsh, _⟩ := hor.block (by omega)
    injection hsh with e1 e2 e3
    subst e1; subst e3
    have hcx := hor.cell k hlt
    obtain ⟨i, hi, hil⟩ : ∃ i : Nat, fn os' k = (i : Int) ∧ i < s.l.length := HOX.out (fn os' k) (by rw [fn_get os' k hlt]; exact List.getElem_mem hlt)
    rw [hi] at hcx
    have HTK : Hid (os'.take (k + 1) = os'.take k ++ [(i : Int)]) := hdn (take_snocL (by rw [List.getElem?_eq_getElem hlt, ← fn_get os' k hlt, hi]))
    obtain ⟨x, hx⟩ : ∃ x, s.l[i]? = some x := ⟨_, List.getElem?_eq_getElem hil⟩
    have HBO : Hid (bodyAt s.l i = x.body) := hdn (by unfold bodyAt; rw [hx]; rfl)
    obtain ⟨pb', o', hp, hr, hpl⟩ := pc_at HPS.out hx
    rw [HPP.out] at hp
    injection hp with hp
    injection hp with hp1 hp2
    subst hp1; subst hp2
    have hr5 := cell_at (rangeAt_below hr HBL.out.bel) 5 _ rfl
    have HRP := hdn hr
    have hbl := HBL.out
    have hcl : i < cs.length := by rw [hbl.len]; exact hil
    have HBC := hdn (HP.out.body x (List.mem_of_getElem? hx)).1
    have hdr : Below wr.heap.size wr wr.drew := below_drewN (Below.refl _ _) 1
    have HCO := hdn (cost_any (HN.out.below hbl.bel) (by have h9 := own_down hbl.row (Nat.zero_le _); rw [← hbl.len] at h9; exact h9) HCS.out (by rw [HNS.out.2, hbl.len]) (by rw [hbl.len]; have := HLL.out; omega) x.body x.bp x.bc wr.drew hdr (sLies_below hpl.2.2 hbl.bel) HBC.out)
    have f0 : wr.cell? ⟨bb, 0, none⟩ = some (.map (some mb)) := hbl.blk.cell 0
    have f1 : wr.cell? ⟨bb, 1, none⟩ = some (.slice (some ⟨cb, 0, none⟩) s.l.length s.l.length) := hbl.blk.cell 1
    have f2 : wr.cell? ⟨bx, 2, none⟩ = some (.slice (some ⟨pb, o, none⟩) s.l.length s.cap) := (HX2.out.below hbl.bel HX2.out.lt).cell 2
    rw [hbl.len] at HCO
    have hil' : (i : Int) < (s.l.length : Int) := by omega
    have f4 := hbl.row
    rw [← hbl.len] at f4
    have f5 := f4.cell i hcl
    have f6 := f4.froz i
    clear hor hi hx hr hpl hbl hcl e2 f4
    generalize hcost : costOf (nms s.l) cs x.body = cost at HCO
    have HCT := hdn hcost
    clear hcost
    go_wp2_with fail
    have e0 : wr.drew.cell? ⟨bb, 0, none⟩ = some (.map (some mb)) := f0
    have e1 : wr.drew.cell? ⟨bb, 1, none⟩ = some (.slice (some ⟨cb, 0, none⟩) s.l.length s.l.length) := f1
    have e2 : wr.drew.cell? ⟨bx, 2, none⟩ = some (.slice (some ⟨pb, o, none⟩) s.l.length s.cap) := f2
    have e3 : wr.drew.cell? ⟨pb, o + i * 6 + 5, none⟩ = some (.slice x.bp x.body.len x.bc) := hr5
    go_region_with
     ((go_at_call 32; (with_reducible refine (HCO.out).mono ?_); rintro en w6 ⟨rfl, hb6⟩; have HB6 : Hid (Below wr.heap.size wr w6) := hdn ((below_drewN (Below.refl _ _) 1).trans hb6); have g0 := (HB6.out.cell (block_lt_of_cell f0)).trans f0; have g1 := (HB6.out.cell (block_lt_of_cell f1)).trans f1; have g2 := (HB6.out.cell (block_lt_of_cell f2)).trans f2; have g3 := (HB6.out.cell (block_lt_of_cell hr5)).trans hr5; have g5 := (HB6.out.cell (block_lt_of_cell f5)).trans f5; have g6 := (HB6.out.frozen (block_lt_of_cell f5)).trans f6; clear hb6; (try clear HCO)))
    all_goals
     have HQ := hdn ((HBL.out.below HB6.out).put i cost)
     go_wp2_with fail
     go_roundw
     case rel => exact ⟨k + 1, cs.set i cost, by go_num, by omega, HQ, hdn (by rw [← HCT.out]; exact costs_set HCS.out i (costOf_in HCS.out x.body HBC.out).1 (costOf_in HCS.out x.body HBC.out).2), hdn (by rw [HTK.out, pays_snoc, Int.toNat_natCast, HBO.out, ← HPY.out, HCT.out])⟩
     case measure => simp [Lib.intOf]; omega
   ·have HKE : Hid (os'.take k = os') := hdn (List.take_of_length_le (by omega))
    have hbl := HBL.out
    have hcl : plc (nms s.l) mainB < cs.length := by rw [hbl.len]; exact HML.out.2
    have f1 : wr.cell? ⟨bb, 1, none⟩ = some (.slice (some ⟨cb, 0, none⟩) s.l.length s.l.length) := hbl.blk.cell 1
    have f4 := hbl.row
    rw [← hbl.len] at f4
    have f5 := f4.cell _ hcl
    have hpl' : (plc (nms s.l) mainB : Int) < (s.l.length : Int) := by have := HML.out.2; omega
    have HBE : Hid (Below w.heap.size w wr) := hdn (HWB.out.trans (hbl.bel.mono HWB.out.size))
    have HCI : Hid (CostIs s.l (fn cs (plc (nms s.l) mainB))) := hdn (by
     unfold CostIs
     rw [if_pos HM.out]
     refine ⟨os, HTO.out, HRD.out, ?_⟩
     have h1 := HPY.out
     rw [HKE.out, HOE.out, web_len] at h1
     rw [h1])
    clear f4 hbl hcl
    generalize fn cs (plc (nms s.l) mainB) = cost at *
    go_wp2_with fail
    go_ret
    exact ⟨_, rfl, HCI.out, HBE.out⟩
end Go.Proofs.YtmhpaacjioeknaaGreat
namespace Go.Proofs.YtmhpaacjioeknaaGreat
open Go.RowKit Go.Maps Go.Sort Go.WideMaps
/-- A name's number, -1 where no procedure has it. -/
def numF (ns : List ByteArray) (x : ByteArray) : Int := if isIn ns x = true then (plc ns x : Int) else -1
theorem numF_at {ns : List ByteArray} {k : Nat} {x : ByteArray} (h : ns[k]? = some x) (hn : x ∉ ns.take k) : numF ns x = (k : Int) := by
 have hlt := (List.getElem?_eq_some_iff.1 h)
 have h1 : ns = ns.take k ++ [x] ++ ns.drop (k + 1) := by
  rw [← take_snocL h, List.take_append_drop]
 have hm : x ∈ ns := List.mem_of_getElem? h
 unfold numF
 rw [if_pos (isIn_iff.2 hm)]
 have h2 : plc ns x = k := by
  rw [h1, plc_mem _ (by simp), plc_new hn, List.length_take, Nat.min_eq_left (Nat.le_of_lt hlt.1)]
 rw [h2]
theorem find_any (sv gv : Value) (s : Sl Pc) (nm : ByteArray) (w : World) (h : pcsLie w s) (hl : s.l.length ≤ 1000) :
  Calls Tryz.prog 21 #[.agg #[sv, gv, .slice s.p s.l.length s.cap], .string nm] w fun e w' => e = .returned (.int .i64 (numF (nms s.l) nm)) ∧ Below w.heap.size w w' := by
 have HS := hdn h
 have hl' : (s.l.length : Int) ≤ 1000 := by omega
 have HBA : Hid (Below w.heap.size w (w.alloc (.cells #[sv, gv, .slice s.p s.l.length s.cap] 26))) := hdn ((Below.refl _ _).alloc (Nat.le_refl _) _)
 have HX := hdn (prog_box w sv gv (.slice s.p s.l.length s.cap))
 clear h hl
 go_enter Tryz.func21, Tryz.ntmps21
 go_wp2_with fail
 have HBR := hdn (Below.refl (w.alloc (.cells #[sv, gv, .slice s.p s.l.length s.cap] 26)).heap.size (w.alloc (.cells #[sv, gv, .slice s.p s.l.length s.cap] 26)))
 have HPS : Hid (pcsLie (w.alloc (.cells #[sv, gv, .slice s.p s.l.length s.cap] 26)) s) := hdn (pcsLie_below HS.out HBA.out)
 generalize w.alloc (.cells #[sv, gv, .slice s.p s.l.length s.cap] 26) = w1 at HX HBA HBR HPS ⊢
 have HBS := hdn HBA.out.size
 generalize w.heap.size = bx at HX ⊢
 go_loopw [5] (fun si wr => ∃ (k : Nat), si = .int .i64 k ∧ k ≤ s.l.length ∧ Hid (nm ∉ (nms s.l).take k) ∧ Hid (Below w1.heap.size w1 wr)) (fun si _ => s.l.length - (Lib.intOf si).toNat)
 case atStart => exact ⟨0, rfl, Nat.zero_le _, hdn (by simp), HBR⟩
 case round =>
  clear HBR
  obtain ⟨k, rfl, hk, HNO, HB⟩ := hrel
  have c2 : wr.cell? ⟨bx, 2, none⟩ = some (.slice s.p s.l.length s.cap) := (HX.out.below HB.out HX.out.lt).cell 2
  by_cases hlt : k < s.l.length
  ·obtain ⟨x, hx⟩ : ∃ x, s.l[k]? = some x := ⟨_, List.getElem?_eq_getElem hlt⟩
   obtain ⟨pb, o, hp, hr, hpl⟩ := pc_at HPS.out hx
   have c0 : wr.cell? ⟨pb, o + k * 6, none⟩ = some (.string x.name) := by simpa using cell_at (rangeAt_below hr HB.out) 0 _ rfl
   have HNK : Hid ((nms s.l)[k]? = some x.name) := hdn (by unfold nms; rw [List.getElem?_map, hx]; rfl)
   rw [hp] at c2
   clear hp hr hpl hx
   generalize x.name = nx at *
   by_cases he : nx = nm
   ·subst he
    have HNF := hdn (numF_at HNK.out HNO.out)
    go_wp2_with fail
    go_ret
    exact ⟨ret_int HNF.out.symm, HBA.out.trans (HB.out.mono HBS.out)⟩
   ·have HNN : Hid (nm ∉ (nms s.l).take (k + 1)) := hdn (by
     rw [take_snocL HNK.out, List.mem_append, List.mem_singleton]
     rintro (h1 | h1)
     ·exact HNO.out h1
     ·exact he h1.symm)
    have he' : (nx.toList == nm.toList) = false := by
     rw [toList_data, toList_data, beq_eq_false_iff_ne]
     intro h1
     exact he (ByteArray.ext (Array.toList_inj.1 h1))
    go_wp2_with fail
    go_roundw
    case rel => exact ⟨k + 1, by go_num, by omega, HNN, HB⟩
    case measure => simp [Lib.intOf]; omega
  ·have HNF : Hid (numF (nms s.l) nm = -1) := hdn (by
    unfold numF
    rw [if_neg]
    intro h1
    have h2 := isIn_iff.1 h1
    have h3 := HNO.out
    rw [List.take_of_length_le (by simp [nms]; omega)] at h3
    exact h3 h2)
   go_wp2_with fail
   go_ret
   exact ⟨ret_int HNF.out.symm, HBA.out.trans (HB.out.mono HBS.out)⟩
end Go.Proofs.YtmhpaacjioeknaaGreat
namespace Go.Proofs.YtmhpaacjioeknaaGreat
open Go.RowKit Go.Maps Go.Sort Go.WideMaps
theorem called_any (sv_ gv : Value) (s : Sl Pc) (i : Nat) (x : Pc) (w : World) (h : pcsLie w s) (hP : PsOk s.l) (hx : s.l[i]? = some x) :
  Calls Tryz.prog 23 #[.agg #[sv_, gv, .slice s.p s.l.length s.cap], .int .i64 i] w fun e w' => ∃ v, e = .returned v ∧ OR w' w.heap.size v (calls s.l x) ∧ Below w.heap.size w w' := by
 have hi := (List.getElem?_eq_some_iff.1 hx).1
 obtain ⟨pb, o, hp, hr, hpl⟩ := pc_at h hx
 have hbo := hP.body x (List.mem_of_getElem? hx)
 have HBA : Hid (Below w.heap.size w (w.alloc (.cells #[sv_, gv, .slice s.p s.l.length s.cap] 26))) := hdn ((Below.refl _ _).alloc (Nat.le_refl _) _)
 have HX := hdn (prog_box w sv_ gv (.slice s.p s.l.length s.cap))
 have HPS : Hid (pcsLie (w.alloc (.cells #[sv_, gv, .slice s.p s.l.length s.cap] 26)) s) := hdn (pcsLie_below h HBA.out)
 have hc5 : (w.alloc (.cells #[sv_, gv, .slice s.p s.l.length s.cap] 26)).cell? ⟨pb, o + i * 6 + 5, none⟩ = some (.slice x.bp x.body.len x.bc) := cell_at (rangeAt_below hr HBA.out) 5 _ rfl
 have HCL := hdn (refCalls_any x.body x.bp x.bc _ (sLies_below hpl.2.2 HBA.out) hbo.1)
 have HLL : Hid (s.l.length ≤ 1000) := hdn hP.len
 have hl' : (s.l.length : Int) ≤ 1000 := by have := hP.len; omega
 have hi' : (i : Int) < (s.l.length : Int) := by omega
 obtain ⟨ns, hns⟩ : ∃ ns, ns = uq [] x.body.every := ⟨_, rfl⟩
 have HNL : Hid (ns.length ≤ 10000) := hdn (by
  have h1 := uq_len [] x.body.every
  have h2 := SL.every_le x.body
  rw [hns]; have := hbo.1; simp only [List.length_nil, Nat.zero_add] at h1; omega)
 have HCA : Hid (calls s.l x = cal (nms s.l) ns) := hdn (by rw [hns]; rfl)
 rw [← hns] at HCL
 have HPP := hdn hp
 clear h hP hx hr hpl hbo hns hi
 have HFN : Hid (∀ (nm : ByteArray) (w : World), pcsLie w s → Calls Tryz.prog 21 #[.agg #[sv_, gv, .slice (some ⟨pb, o, none⟩) s.l.length s.cap], .string nm] w fun e w' => e = .returned (.int .i64 (numF (nms s.l) nm)) ∧ Below w.heap.size w w') := hdn (by
  rw [← hp]
  exact fun nm w hl => find_any sv_ gv s nm w hl HLL.out)
 rw [hp]
 rw [hp] at hc5 HX HCL HBA HPS
 clear hp
 go_enter Tryz.func23, Tryz.ntmps23
 go_wp2_with (go_at_call 40; refine (HCL.out).mono ?_; rintro en w2 ⟨v2, rfl, ho, hb⟩; have HO := hdn ho; have HB2 := hdn hb; obtain ⟨a2, c2, rfl⟩ := own_shape ho; clear ho hb)
 have HX2 : Hid (Bk w2 w.heap.size 26 #[sv_, gv, .slice (some ⟨pb, o, none⟩) s.l.length s.cap]) := hdn (HX.out.below HB2.out HX.out.lt)
 have HPS2 : Hid (pcsLie w2 s) := hdn (pcsLie_below HPS.out HB2.out)
 have HBW : Hid (Below w.heap.size w w2) := hdn (HBA.out.trans (HB2.out.mono HBA.out.size))
 have HO2 : Hid (w2.ownsRow 0 9 1 (.slice a2 ns.length c2) ns.length (sv ns)) := hdn (own_down HO.out (Nat.zero_le _))
 have HBR := hdn (Below.refl w2.heap.size w2)
 have HBS := hdn HBW.out.size
 clear HX HPS HBA HB2 HO HCL hc5
 have hnl : (ns.length : Int) ≤ 10000 := by have := HNL.out; omega
 generalize w.heap.size = bx at HX2 ⊢
 go_loopw [6, 7, 8] (fun so sj s8 wr => ∃ (j : Nat) (xs : List Int) (ao : Option Addr) (co : Nat), sj = .int .i64 j ∧ so = .slice ao xs.length co ∧ j ≤ ns.length ∧ Hid (OR wr w2.heap.size (.slice ao xs.length co) xs) ∧ Hid (xs = cal (nms s.l) (ns.take j)) ∧ Hid (Below w2.heap.size w2 wr)) (fun _ sj _ _ => ns.length - (Lib.intOf sj).toNat)
 case atStart => exact ⟨0, [], none, 0, rfl, rfl, Nat.zero_le _, hdn (World.ownsRow_nil _ _ _ _), hdn (by rw [List.take_zero]; rfl), HBR⟩
 case round =>
  clear HBR
  obtain ⟨j, xs, ao, co, rfl, rfl, hj, HR, HXS, HB⟩ := hrel
  by_cases hjl : j < ns.length
  ·obtain ⟨nm, hnm⟩ : ∃ nm, ns[j]? = some nm := ⟨_, List.getElem?_eq_getElem hjl⟩
   have HOW : Hid (wr.ownsRow 0 9 1 (.slice a2 ns.length c2) ns.length (sv ns)) := hdn (own_below HO2.out HB.out)
   have hne : ∃ g, a2 = some ⟨g, 0, none⟩ := by
    rcases HOW.out.2 with ⟨h1, h2⟩ | ⟨g, cap, cur, h1, _⟩
    ·omega
    ·injection h1 with h1; exact ⟨g, h1⟩
   obtain ⟨g2, rfl⟩ := hne
   have hcn : wr.cell? ⟨g2, j, none⟩ = some (.string nm) := by
    have := cell_sv HOW.out j hjl
    rw [List.getElem?_eq_getElem hjl] at hnm; injection hnm with hnm; rw [← hnm]; exact this
   have HTK := hdn (take_snocL hnm)
   have hbk : Bk wr bx 26 #[sv_, gv, .slice (some ⟨pb, o, none⟩) s.l.length s.cap] := HX2.out.below HB.out HX2.out.lt
   have b0 : wr.cell? ⟨bx, 0, none⟩ = some sv_ := hbk.cell 0
   have b1 : wr.cell? ⟨bx, 1, none⟩ = some gv := hbk.cell 1
   have b2 : wr.cell? ⟨bx, 2, none⟩ = some (.slice (some ⟨pb, o, none⟩) s.l.length s.cap) := hbk.cell 2
   have d0 := cell_regrown b0
   have d1 := cell_regrown b1
   have d2 := cell_regrown b2
   have dn := cell_regrown hcn
   have cF : ∀ dd os, Calls Tryz.prog 21 #[.agg #[sv_, gv, .slice (some ⟨pb, o, none⟩) s.l.length s.cap], .string nm] (grow (redrawn wr dd) os) fun en w'' => en = .returned (.int .i64 (numF (nms s.l) nm)) ∧ ∃ p : Regrown, w'' = grow (redrawn wr p.d) p.os :=
    fun dd os => Calls.regrown_of (HFN.out nm _ (pcsLie_below HPS2.out (HB.out.trans ((below_regrown _ _ _).mono HB.out.size))))
   have HXN : Hid (cal (nms s.l) (ns.take (j + 1)) = xs ++ (if isIn (nms s.l) nm = true then [(plc (nms s.l) nm : Int)] else [])) := hdn (by rw [HTK.out, cal_append, ← HXS.out]; simp [cal])
   have HNF : Hid (numF (nms s.l) nm = if isIn (nms s.l) nm = true then (plc (nms s.l) nm : Int) else -1) := hdn rfl
   have HXL : Hid (xs.length ≤ 10000) := hdn (by
    have h1 := (cal_in (nms s.l) (ns.take j)).1
    rw [← HXS.out, List.length_take] at h1; have := HNL.out; omega)
   clear hbk hnm
   rcases hin : isIn (nms s.l) nm with _ | _
   ·rw [hin] at HXN HNF
    simp only [Bool.false_eq_true, if_false, List.append_nil] at HXN HNF
    rw [HNF.out] at cF
    clear hin
    go_wp2_with fail
    refine wp_region_quiet_below (by kernel_rfl) (by kernel_rfl) ?_
    repeat (go_big_quiet_step (with_reducible exact cF _ _))
    refine wpQuiet_nil ?_
    intro _ hw'
    obtain ⟨⟨dq, osq⟩, hw''⟩ := hw'
    subst hw''
    have HB6 := hdn (below_regrown wr dq osq)
    generalize grow (redrawn wr dq) osq = w6 at HB6 ⊢
    go_wp2_with fail
    go_roundw
    case rel => exact ⟨j + 1, xs, ao, co, by go_num, rfl, by omega, hdn (own_below HR.out HB6.out), hdn HXN.out.symm, hdn (HB.out.trans (HB6.out.mono HB.out.size))⟩
    case measure => simp [Lib.intOf]; omega
   ·rw [hin] at HXN HNF
    simp only [if_true] at HXN HNF
    rw [HNF.out] at cF
    generalize plc (nms s.l) nm = pl at *
    clear hin
    go_wp2_with fail
    refine wp_region_quiet_below (by kernel_rfl) (by kernel_rfl) ?_
    repeat (go_big_quiet_step (with_reducible exact cF _ _))
    refine wpQuiet_nil ?_
    intro _ hw'
    obtain ⟨⟨dq, osq⟩, hw''⟩ := hw'
    subst hw''
    have HB6 := hdn (below_regrown wr dq osq)
    generalize grow (redrawn wr dq) osq = w6 at HB6 ⊢
    have HR6 : Hid (OR w6 w2.heap.size (.slice ao xs.length co) xs) := hdn (own_below HR.out HB6.out)
    have HBB : Hid (Below w2.heap.size w2 w6) := hdn (HB.out.trans (HB6.out.mono HB.out.size))
    have hp0 : (0 : Int) ≤ (pl : Int) := Int.natCast_nonneg _
    go_wp2_with ((with_reducible show wpList _ _ _ (Oper.mk (some 33) _ _ _ _ _ :: _) _ _); refine wpList_app_int rfl 33 und33 (.tmp 30) (.tmp 32) rfl w2.heap.size xs (.slice ao xs.length co) rfl HR6.out HBB.out.size (pl : Int) rfl (by have := HXL.out; omega) ?_; intro v' w5 hO hsh hg hto; have HO5 := hdn hO; have HG5 := hdn (HBB.out.grown hg HBB.out.size (fun q hq => (HR6.out.lt q hq).1)); obtain ⟨g5, c5, rfl⟩ := hsh; clear hO hg hto)
    go_roundw
    case rel => exact ⟨j + 1, xs ++ [(pl : Int)], _, _, by go_num, by rw [List.length_append]; rfl, by omega, hdn (by rw [List.length_append]; exact HO5.out), hdn HXN.out.symm, HG5⟩
    case measure => simp [Lib.intOf]; omega
  ·have HJE : Hid (ns.take j = ns) := hdn (List.take_of_length_le (by omega))
   have HXE : Hid (calls s.l x = xs) := hdn (by rw [HCA.out, HXS.out, HJE.out])
   go_wp2_with fail
   go_ret
   exact ⟨_, rfl, by rw [HXE.out]; exact own_down HR.out HBS.out, HBW.out.trans (HB.out.mono HBS.out)⟩
end Go.Proofs.YtmhpaacjioeknaaGreat
namespace Go.Proofs.YtmhpaacjioeknaaGreat
open Go.RowKit Go.Maps Go.Sort Go.WideMaps
/-- A row of numbers somewhere in a block of one's own. -/
def OT (w : World) (B : Nat) (v : Value) (xs : List Int) : Prop :=
 (v = .slice none 0 0 ∧ xs = []) ∨ ∃ g off cap, ∃ cur : List Value, v = .slice (some ⟨g, off, none⟩) xs.length cap ∧ B ≤ g ∧ Bk w g 3 cur.toArray ∧ xs.length ≤ cap ∧ cap ≤ maxLen ∧ off + cap ≤ cur.length ∧ (cur.drop off).take xs.length = xs.map iv
theorem OT.of_own {w : World} {B : Nat} {v : Value} {xs : List Int} (h : OR w B v xs) : OT w B v xs := by
 rcases h.2 with ⟨rfl, h0⟩ | ⟨g, cap, cur, rfl, hb, hg, hn, hc, hs, ht⟩
 ·exact .inl ⟨rfl, List.length_eq_zero_iff.1 h0⟩
 ·refine .inr ⟨g, 0, cap, cur.toList, rfl, hb, by rw [Array.toArray_toList]; exact hg, hn, hc, by rw [Array.length_toList, hs]; omega, ?_⟩
  rw [List.drop_zero, ← ht, Nat.mul_one]
theorem OT.shape {w : World} {B : Nat} {v : Value} {xs : List Int} (h : OT w B v xs) : ∃ a c, v = .slice a xs.length c := by
 rcases h with ⟨rfl, rfl⟩ | ⟨g, off, cap, cur, rfl, _⟩
 ·exact ⟨_, _, rfl⟩
 ·exact ⟨_, _, rfl⟩
theorem OT.lt {w : World} {B : Nat} {v : Value} {xs : List Int} (h : OT w B v xs) (q : Nat) (hq : v.ownBlock = some q) : B ≤ q ∧ q < w.heap.size := by
 rcases h with ⟨rfl, _⟩ | ⟨g, off, cap, cur, rfl, hb, hg, _⟩
 ·cases hq
 ·injection hq with hq; subst hq; exact ⟨hb, hg.lt⟩
theorem OT.same {w w' : World} {B : Nat} {v : Value} {xs : List Int} (h : OT w B v xs) (hh : ∀ q, v.ownBlock = some q → w'.heap[q]? = w.heap[q]?) : OT w' B v xs := by
 rcases h with h | ⟨g, off, cap, cur, rfl, hb, hg, hr⟩
 ·exact .inl h
 ·exact .inr ⟨g, off, cap, cur, rfl, hb, (hh g rfl).trans hg, hr⟩
theorem OT.below {w w' : World} {B : Nat} {v : Value} {xs : List Int} (h : OT w B v xs) (hb : Below w.heap.size w w') : OT w' B v xs := h.same fun q hq => hb.block q (h.lt q hq).2
theorem OT.put {w : World} {B : Nat} {v : Value} {xs : List Int} (h : OT w B v xs) {a : Addr} {u : Value} (ha : a.block < B) : OT (w.setCell a u) B v xs := h.same fun q hq => Below.heap_setCell w a u q (by have := (h.lt q hq).1; omega)
/-- The head of a row that is not empty. -/
theorem OT.head {w : World} {B : Nat} {v : Value} {x : Int} {xs : List Int} (h : OT w B v (x :: xs)) : ∃ g off c, v = .slice (some ⟨g, off, none⟩) (xs.length + 1) (c + 1) ∧ w.cell? ⟨g, off, none⟩ = some (.int .i64 x) ∧ OT w B (.slice (if c = 0 then some ⟨g, off, none⟩ else some ⟨g, off + 1, none⟩) xs.length c) xs := by
 rcases h with ⟨_, h⟩ | ⟨g, off, cap, cur, rfl, hb, hg, hn, hc, hs, ht⟩
 ·cases h
 ·rw [List.length_cons] at hn ht
  have hlt : off < cur.length := by omega
  rw [List.drop_eq_getElem_cons hlt, List.take_succ_cons, List.map_cons] at ht
  injection ht with ht1 ht2
  obtain ⟨c, rfl⟩ : ∃ c, cap = c + 1 := ⟨cap - 1, by omega⟩
  refine ⟨g, off, c, by rw [List.length_cons], ?_, ?_⟩
  ·rw [hg.cell]
   simp only [List.getElem?_toArray, List.getElem?_eq_getElem hlt, ht1]; rfl
  ·by_cases h0 : c = 0
   ·rw [if_pos h0]
    subst h0
    have hx : xs = [] := List.length_eq_zero_iff.1 (by omega)
    subst hx
    exact .inr ⟨g, off, 0, cur, rfl, hb, hg, Nat.le_refl _, Nat.zero_le _, by omega, by simp⟩
   ·rw [if_neg h0]
    exact .inr ⟨g, off + 1, c, cur, rfl, hb, hg, by omega, by omega, by omega, ht2⟩
theorem OR.src {w : World} {B : Nat} {v : Value} {ys : List Int} (h : OR w B v ys) : Src Tryz.prog 1 33 v ys.length (ys.map iv) w := by
 have h1 : ∀ u ∈ ys.map iv, u.oneCell' = true := by
  intro u hu
  obtain ⟨_, _, rfl⟩ := List.mem_map.1 hu
  rfl
 rcases h.2 with ⟨rfl, h0⟩ | ⟨g, cap, cur, rfl, hb, hg, hn, hc, hs, ht⟩
 ·have : ys = [] := List.length_eq_zero_iff.1 h0
  subst this
  exact Src.ofNil w und33 0
 ·refine Src.ofSlice w und33 ⟨g, 0, none⟩ ys.length cap (ys.map iv) (by simp) ?_ h1
  intro j u hu
  have hj : j < ys.length := by
   have := (List.getElem?_eq_some_iff.1 hu).1
   simpa using this
  have h2 := World.ownsRow.cellAt h j (by omega)
  rw [hu] at h2
  rw [Addr.add_lit, Nat.zero_add]
  exact h2
theorem grown_ot (w : World) (xs ys : List Int) (c B : Nat) (hB : B ≤ w.heap.size) (hl : xs.length + ys.length ≤ 100000000) (z : Value) (hz : z.cells = #[z]) :
  OT (w.drew.alloc (.cells ((xs.map iv ++ ys.map iv).toArray ++ Builtin.zeroCells z.cells (grownCap w (xs.length + ys.length) c 3 - (xs.length + ys.length))) 3)) B (.slice (some ⟨w.heap.size, 0, none⟩) (xs.length + ys.length) (grownCap w (xs.length + ys.length) c 3)) (xs ++ ys) := by
 have hge := grownCap_ge w (xs.length + ys.length) c 3
 have hcm : grownCap w (xs.length + ys.length) c 3 ≤ maxLen := grownCap_le_maxLen w _ c 3 (by unfold maxLen; omega)
 refine .inr ⟨w.heap.size, 0, _, ((xs.map iv ++ ys.map iv).toArray ++ Builtin.zeroCells z.cells (grownCap w (xs.length + ys.length) c 3 - (xs.length + ys.length))).toList, by rw [List.length_append], hB, ?_, by rw [List.length_append]; exact hge, hcm, ?_, ?_⟩
 ·rw [Array.toArray_toList]
  exact heap_alloc_new w.drew _
 ·generalize grownCap w (xs.length + ys.length) c 3 = G at hge ⊢
  obtain ⟨D, hD⟩ : ∃ D, D = G - (xs.length + ys.length) := ⟨_, rfl⟩
  rw [← hD, Array.length_toList, Array.size_append, size_zeroCells, hz]
  simp only [List.size_toArray, List.length_append, List.length_map, List.length_cons, List.length_nil]
  omega
 ·rw [List.drop_zero, Array.toList_append, List.length_append, List.map_append]
  apply List.take_left'
  simp
theorem OT.app {w : World} {B By : Nat} {v vy : Value} {xs ys : List Int} (ty : TypeId) (h : OT w B v xs) (hB : B ≤ w.heap.size) (hy : OR w By vy ys) (hl : xs.length + ys.length ≤ 100000000) :
  ∃ v' w', (Builtin.append_ #[33, 33] ty #[v, vy]).run Tryz.prog w = .ok v' w' ∧ OT w' B v' (xs ++ ys) ∧ w.grownBy w' v.ownBlock := by
 obtain ⟨i0, hi0, hz0, hz1, hz2⟩ := info_parts info3
 have hsrc := hy.src
 rcases h with ⟨rfl, rfl⟩ | ⟨g, off, cap, cur, rfl, hb, hg, hn, hc, hs, ht⟩
 ·by_cases h0 : ys.length = 0
  ·have : ys = [] := List.length_eq_zero_iff.1 h0
   subst this
   refine ⟨_, _, run_append_nothing w 33 33 ty 3 i0 und33 hi0 none 0 0 (Nat.le_refl _) vy (by rw [hz1]; exact hsrc), .inl ⟨rfl, rfl⟩, ⟨rfl, rfl, rfl, Nat.le_refl _, fun _ _ _ => rfl⟩⟩
  ·have hr := run_append_grow_src w 33 33 ty 3 i0 (.int .i64 0) und33 hi0 hz0 none 0 0 [] (run_firstCells_none _ _ _ _ _) vy ys.length (ys.map iv) (by rw [hz1]; exact hsrc) (by omega) (by omega) (growslice_fits (by omega) (by rw [hz2]; omega))
   have hg := grown_ot w [] ys 0 B hB hl (.int .i64 0) rfl
   simp only [List.map_nil, List.length_nil] at hg
   exact ⟨_, _, hr, hg, ⟨rfl, rfl, rfl, by simp, fun k hk _ => Below.heap_alloc w.drew _ k hk⟩⟩
 ·have hcell : ∀ j, j < cur.length → w.cell? ⟨g, j, none⟩ = cur[j]? := by
   intro j _
   rw [hg.cell]; simp
  by_cases hroom : xs.length + ys.length ≤ cap
  ·have hr := run_append_room_src w 33 33 ty 3 i0 und33 hi0 g off xs.length cap vy ys.length (ys.map iv) (by rw [hz1]; exact hsrc) hroom
    (by
     intro j hj
     rw [List.length_map] at hj
     rw [hz1, Nat.mul_one, hcell _ (by omega), List.getElem?_eq_getElem (by omega)]; rfl)
    (by intro j _; exact hg.frozen _)
   rw [hz1, Nat.mul_one] at hr
   have hset := Bk.setCells (ys.map iv) (off + xs.length) w cur hg
   refine ⟨_, _, hr, .inr ⟨g, off, cap, _, by rw [List.length_append], hb, hset.1, by rw [List.length_append]; exact hroom, hc, ?_, ?_⟩, hset.2⟩
   ·rw [putC_eq _ _ _ (by rw [List.length_map]; omega)]
    simp only [List.length_append, List.length_take, List.length_map, List.length_drop]
    omega
   ·rw [putC_eq _ _ _ (by rw [List.length_map]; omega), List.append_assoc, List.drop_append_of_le_length (by rw [List.length_take]; omega), List.drop_take, Nat.add_sub_cancel_left, ht, ← List.append_assoc, ← List.map_append]
    apply List.take_left'
    simp
  ·have hr := run_append_grow_src w 33 33 ty 3 i0 (.int .i64 0) und33 hi0 hz0 (some ⟨g, off, none⟩) xs.length cap (xs.map iv)
    (run_firstCells_some w.drew i0.size xs.length ⟨g, off, none⟩ xs.length cap (xs.map iv) (by rw [hz1]; simp) (by
     intro j u hu
     have hj : j < xs.length := by
      have := (List.getElem?_eq_some_iff.1 hu).1
      simpa using this
     have h1 : ((cur.drop off).take xs.length)[j]? = some u := by rw [ht]; exact hu
     rw [List.getElem?_take, if_pos hj, List.getElem?_drop] at h1
     have h2 := hcell (off + j) (by omega)
     rw [h1] at h2
     rw [Addr.add_lit]
     exact h2)) vy ys.length (ys.map iv) (by rw [hz1]; exact hsrc) (by omega) (by omega) (growslice_fits (by omega) (by rw [hz2]; omega))
   have hg2 := grown_ot w xs ys cap B hB hl (.int .i64 0) rfl
   exact ⟨_, _, hr, hg2, ⟨rfl, rfl, rfl, by simp, fun k hk _ => Below.heap_alloc w.drew _ k hk⟩⟩
end Go.Proofs.YtmhpaacjioeknaaGreat
namespace Go.Proofs.YtmhpaacjioeknaaGreat
open Go.RowKit Go.Maps Go.Sort Go.WideMaps
/-- By one call or more. -/
inductive Rt (XS : List (List Int)) (i : Nat) : Nat → Prop
 | one (c : Nat) : (c : Int) ∈ XS.getD i [] → Rt XS i c
 | step (c d : Nat) : Rt XS i c → (d : Int) ∈ XS.getD c [] → Rt XS i d
/-- While it is looked for. -/
structure Bf (XS : List (List Int)) (i : Nat) (bs : List Bool) (os : List Int) : Prop where
 len : bs.length = XS.length
 opn : ∀ x ∈ os, ∃ c : Nat, x = (c : Int) ∧ c < XS.length ∧ Rt XS i c
 seen : ∀ c, bs[c]? = some true → Rt XS i c
 first : ∀ e ∈ XS.getD i [], bs[e.toNat]? = some true ∨ e ∈ os
 clos : ∀ c, bs[c]? = some true → ∀ e ∈ XS.getD c [], bs[e.toNat]? = some true ∨ e ∈ os
def InR (XS : List (List Int)) : Prop := ∀ xs ∈ XS, ∀ e ∈ xs, 0 ≤ e ∧ e < XS.length
theorem inr_at {XS : List (List Int)} (h : InR XS) {i : Nat} {e : Int} (he : e ∈ XS.getD i []) : 0 ≤ e ∧ e < XS.length := by
 rw [List.getD_eq_getElem?_getD] at he
 cases hq : XS[i]? with
 | none => rw [hq] at he; cases he
 | some ys => rw [hq] at he; exact h ys (List.mem_of_getElem? hq) e he
theorem Bf.start {XS : List (List Int)} (h : InR XS) (i : Nat) : Bf XS i (List.replicate XS.length false) (XS.getD i []) := by
 have hno : ∀ c : Nat, ¬ (List.replicate XS.length false)[c]? = some true := by
  intro c hc
  rw [List.getElem?_replicate] at hc
  split at hc
  ·cases hc
  ·cases hc
 refine ⟨by simp, ?_, fun c hc => absurd hc (hno c), fun e he => .inr he, fun c hc => absurd hc (hno c)⟩
 intro x hx
 have h1 := inr_at h hx
 refine ⟨x.toNat, by omega, by omega, .one _ ?_⟩
 rw [show ((x.toNat : Nat) : Int) = x by omega]; exact hx
theorem Bf.skip {XS : List (List Int)} {i : Nat} {bs : List Bool} {x : Int} {os : List Int} (h : Bf XS i bs (x :: os)) (hs : bs[x.toNat]? = some true) : Bf XS i bs os := by
 have hk : ∀ e : Int, (bs[e.toNat]? = some true ∨ e ∈ x :: os) → (bs[e.toNat]? = some true ∨ e ∈ os) := by
  intro e he
  rcases he with he | he
  ·exact .inl he
  ·rcases List.mem_cons.1 he with rfl | he
   ·exact .inl hs
   ·exact .inr he
 exact ⟨h.len, fun y hy => h.opn y (by simp [hy]), h.seen, fun e he => hk e (h.first e he), fun c hc e he => hk e (h.clos c hc e he)⟩
theorem Bf.take {XS : List (List Int)} (hr : InR XS) {i c : Nat} {bs : List Bool} {os : List Int} (h : Bf XS i bs ((c : Int) :: os)) (hc : c < XS.length) : Bf XS i (bs.set c true) (os ++ XS.getD c []) := by
 have hcl : c < bs.length := by rw [h.len]; exact hc
 obtain ⟨c', hc1, _, hrt⟩ := h.opn (c : Int) (by simp)
 have : c' = c := by omega
 subst this
 have hset : ∀ d : Nat, (bs.set c' true)[d]? = some true ↔ d = c' ∨ bs[d]? = some true := by
  intro d
  by_cases hd : d = c'
  ·subst hd; rw [List.getElem?_set_self hcl]; simp
  ·rw [List.getElem?_set_ne (fun e => hd e.symm)]; simp [hd]
 have hk : ∀ e : Int, 0 ≤ e → (bs[e.toNat]? = some true ∨ e ∈ (c' : Int) :: os) → ((bs.set c' true)[e.toNat]? = some true ∨ e ∈ os ++ XS.getD c' []) := by
  intro e he0 he
  rw [hset]
  rcases he with he | he
  ·exact .inl (.inr he)
  ·rcases List.mem_cons.1 he with rfl | he
   ·exact .inl (.inl (by simp))
   ·exact .inr (by simp [he])
 refine ⟨by rw [List.length_set]; exact h.len, ?_, ?_, fun e he => hk e (inr_at hr he).1 (h.first e he), ?_⟩
 ·intro x hx
  rcases List.mem_append.1 hx with hx | hx
  ·exact h.opn x (by simp [hx])
  ·have h1 := inr_at hr hx
   refine ⟨x.toNat, by omega, by omega, .step c' _ hrt ?_⟩
   rw [show ((x.toNat : Nat) : Int) = x by omega]; exact hx
 ·intro d hd
  rcases (hset d).1 hd with rfl | hd
  ·exact hrt
  ·exact h.seen d hd
 ·intro d hd e he
  rcases (hset d).1 hd with rfl | hd
  ·exact .inr (List.mem_append.2 (.inr he))
  ·exact hk e (inr_at hr he).1 (h.clos d hd e he)
theorem Bf.end_ {XS : List (List Int)} {i : Nat} {bs : List Bool} (h : Bf XS i bs []) (c : Nat) : bs[c]? = some true ↔ Rt XS i c := by
 constructor
 ·exact h.seen c
 ·intro hr
  induction hr with
  | one c hc =>
   rcases h.first _ hc with h1 | h1
   ·simpa using h1
   ·cases h1
  | step c d _ hd ih =>
   rcases h.clos c ih _ hd with h1 | h1
   ·simpa using h1
   ·cases h1
def isF : Value → Bool
 | .bool false => true
 | _ => false
def unsOf (w : World) (sb : Nat) : Nat := match w.heap[sb]? with
 | some (.cells cur _ _) => cur.toList.countP isF
 | _ => 0
theorem unsOf_bk {w : World} {sb : Nat} {bs : List Bool} (h : Bk w sb 4 (bs.map Value.bool).toArray) : unsOf w sb = bs.countP (fun b => !b) := by
 unfold unsOf
 rw [show w.heap[sb]? = some (.cells (bs.map Value.bool).toArray 4 (0, 0)) from h]
 show (bs.map Value.bool).countP isF = _
 rw [List.countP_map]
 congr 1
 funext b
 cases b <;> rfl
theorem uns_set : ∀ (bs : List Bool) (c : Nat), bs[c]? = some false → (bs.set c true).countP (fun b => !b) + 1 = bs.countP (fun b => !b)
 | [], c, h => by simp at h
 | b :: r, 0, h => by
  simp at h
  subst h
  simp
 | b :: r, c + 1, h => by
  rw [List.getElem?_cons_succ] at h
  have ih := uns_set r c h
  rw [List.set_cons_succ, List.countP_cons, List.countP_cons]
  omega
theorem info4 : (Tryz.prog.info? 4).map (fun i => (i.zero, i.size, i.bytes)) = some (some (.bool false), 1, 1) := by kernel_rfl
theorem made_bools (w : World) (n : Nat) : Bk (w.alloc (.cells (madeCells #[.bool false] n) 4)) w.heap.size 4 ((List.replicate n false).map Value.bool).toArray := by
 have h1 : madeCells #[.bool false] n = ((List.replicate n false).map Value.bool).toArray := by
  apply Array.ext'
  rw [toList_madeCells_one, List.map_replicate]
 rw [← h1]; exact heap_alloc_new w _
theorem wpList_app_ot {ops : Array Oper} {rest : List Oper} {o : Oper} {a : Act} {w : World} {Q : Exit → Act → World → Prop} (hgd : o.guard = none) (s x : Operand)
  (hop : o.op = .call { callee := .builtin .append, args := #[s, x], argTypes := #[33, 33] }) (B By : Nat) (xs ys : List Int) (v vy : Value) (hs : a.eval s = v) (hG : OT w B v xs) (hB : B ≤ w.heap.size) (hx : a.eval x = vy) (hy : OR w By vy ys) (hl : xs.length + ys.length ≤ 100000000)
  (h : ∀ v' w', OT w' B v' (xs ++ ys) → w.grownBy w' v.ownBlock → (∃ a c, v' = .slice a (xs.length + ys.length) c) → wpList Tryz.prog ops Q rest (a.put o.dst v') w') : wpList Tryz.prog ops Q (o :: rest) a w := by
 obtain ⟨v', w', hrun, h1, h2⟩ := OT.app o.type hG hB hy hl
 refine wpList_plain hgd fun K' hK' => ?_
 unfold Oper.wp
 simp [execOp, hop, resolve, invoke, builtin, hs, hx, hrun, Result.andThen]
 exact hK' _ _ (h v' w' h1 h2 (by have := h1.shape; rwa [List.length_append] at this))
end Go.Proofs.YtmhpaacjioeknaaGreat
namespace Go.Proofs.YtmhpaacjioeknaaGreat
open Go.RowKit Go.Maps Go.Sort Go.WideMaps
theorem web_inR {l : List Pc} (h : PsOk l) : InR (web l) := fun xs hx => (web_in h xs hx).2
theorem web_at {l : List Pc} {c : Nat} {x : Pc} (h : l[c]? = some x) : (web l).getD c [] = calls l x := by
 rw [List.getD_eq_getElem?_getD, web, List.getElem?_map, h]; rfl
theorem below_set {B : Nat} {W w : World} (h : Below B W w) (a : Addr) (u : Value) (ha : B ≤ a.block) : Below B W (w.setCell a u) :=
 ⟨h.os, h.tape, h.output, by simpa [World.setCell] using h.size, fun i hi => (Below.heap_setCell w a u i (by omega)).trans (h.block i hi)⟩
theorem reach_any (sv_ gv : Value) (s : Sl Pc) (i : Nat) (w : World) (h : pcsLie w s) (hP : PsOk s.l) (hi : i < s.l.length) :
  Calls Tryz.prog 18 #[.agg #[sv_, gv, .slice s.p s.l.length s.cap], .int .i64 i] w fun e w' => ∃ (sb : Nat) (bs : List Bool), e = .returned (.slice (some ⟨sb, 0, none⟩) s.l.length s.l.length) ∧ Bk w' sb 4 (bs.map Value.bool).toArray ∧ bs.length = s.l.length ∧ Hid (∀ c, bs[c]? = some true ↔ Rt (web s.l) i c) ∧ Below w.heap.size w w' ∧ w.heap.size ≤ sb := by
 obtain ⟨x, hx⟩ : ∃ x, s.l[i]? = some x := ⟨_, List.getElem?_eq_getElem hi⟩
 have HBA : Hid (Below w.heap.size w (w.alloc (.cells #[sv_, gv, .slice s.p s.l.length s.cap] 26))) := hdn ((Below.refl _ _).alloc (Nat.le_refl _) _)
 have HX := hdn (prog_box w sv_ gv (.slice s.p s.l.length s.cap))
 have HPS : Hid (pcsLie (w.alloc (.cells #[sv_, gv, .slice s.p s.l.length s.cap] 26)) s) := hdn (pcsLie_below h HBA.out)
 have HP := hdn hP
 have HLL : Hid (s.l.length ≤ 1000) := hdn hP.len
 have hl' : (s.l.length : Int) ≤ 1000 := by have := hP.len; omega
 have HIN := hdn (web_inR hP)
 have HXI := hdn (web_at hx)
 obtain ⟨ir, hir, hz0, hz1, hz2⟩ := info_parts info4
 have HIR := hdn (And.intro hir (And.intro hz0 (And.intro hz1 hz2)))
 have HBT : ∀ o, Below (w.alloc (.cells #[sv_, gv, .slice s.p s.l.length s.cap] 26)).heap.size (w.alloc (.cells #[sv_, gv, .slice s.p s.l.length s.cap] 26)) ((w.alloc (.cells #[sv_, gv, .slice s.p s.l.length s.cap] 26)).alloc o) := fun o => (Below.refl _ _).alloc (Nat.le_refl _) _
 have d0 := fun o => (HX.out.below (HBT o) HX.out.lt).cell 0
 have d1 := fun o => (HX.out.below (HBT o) HX.out.lt).cell 1
 have d2 := fun o => (HX.out.below (HBT o) HX.out.lt).cell 2
 simp only [List.getElem?_toArray, List.getElem?_cons_zero, List.getElem?_cons_succ] at d0 d1 d2
 have HCL := hdn (fun o => called_any sv_ gv s i x ((w.alloc (.cells #[sv_, gv, .slice s.p s.l.length s.cap] 26)).alloc o) (pcsLie_below HPS.out (HBT o)) hP hx)
 have HMB := hdn (made_bools (w.alloc (.cells #[sv_, gv, .slice s.p s.l.length s.cap] 26)) s.l.length)
 have HBT2 := hdn HBT
 have HS := hdn h
 clear h hP hx hi hir hz0 hz1 hz2 HBT
 go_enter Tryz.func18, Tryz.ntmps18
 go_wp2_with (first | (at_make; refine wpList_make_row _ rfl _ _ 48 rfl 4 ir (.bool false) Tryz.underlying48 HIR.out.1 HIR.out.2.1 HIR.out.2.2.1 rfl .i64 .i64 s.l.length rfl rfl (by rw [HIR.out.2.2.2]; have := HLL.out; omega) (by have := HLL.out; omega) ?_) | (go_at_call 23; refine (HCL.out _).mono ?_; rintro en w2 ⟨v2, rfl, ho, hb⟩; have HO := hdn ho; have HB2 := hdn hb; obtain ⟨a2, c2, rfl⟩ := ho.shape; clear ho hb))
 have hs1 : (w.alloc (.cells #[sv_, gv, .slice s.p s.l.length s.cap] 26)).heap.size = w.heap.size + 1 := by simp
 have HX2 : Hid (Bk w2 w.heap.size 26 #[sv_, gv, .slice s.p s.l.length s.cap]) := hdn (by
  have h1 := HX.out.below (HBT2.out (.cells (madeCells #[.bool false] s.l.length) 4)) HX.out.lt
  exact h1.below HB2.out h1.lt)
 have HPS2 : Hid (pcsLie w2 s) := hdn (pcsLie_below (pcsLie_below HPS.out (HBT2.out _)) HB2.out)
 have HSB : Hid (Bk w2 (w.heap.size + 1) 4 ((List.replicate (web s.l).length false).map Value.bool).toArray) := hdn (by
  have h1 := HMB.out
  rw [hs1] at h1
  rw [web_len]
  exact h1.below HB2.out h1.lt)
 have HOT : Hid (OT w2 (w.heap.size + 1 + 1) (.slice a2 (calls s.l x).length c2) (calls s.l x)) := hdn (by
  have h1 := HO.out
  rw [World.size_alloc, hs1] at h1
  exact OT.of_own h1)
 have HBW : Hid (Below w.heap.size w w2) := hdn (HBA.out.trans (((HBT2.out _).trans (HB2.out.mono (HBT2.out _).size)).mono HBA.out.size))
 have HBF : Hid (Bf (web s.l) i (List.replicate (web s.l).length false) (calls s.l x)) := hdn (by
  have h1 := Bf.start HIN.out i
  rwa [HXI.out] at h1)
 have HLX : Hid ((calls s.l x).length + 10000 * (List.replicate (web s.l).length false).countP (fun b => !b) ≤ 20000000) := hdn (by
  have h1 := HXI.out
  have h2 : (calls s.l x).length ≤ 10000 := by
   rw [← h1, List.getD_eq_getElem?_getD]
   cases hq : (web s.l)[i]? with
   | none => simp
   | some ys => exact (web_in HP.out ys (List.mem_of_getElem? hq)).1
  have h3 : (List.replicate (web s.l).length false).countP (fun b => !b) ≤ (List.replicate (web s.l).length false).length := List.countP_le_length
  rw [web_len] at h3 ⊢
  rw [List.length_replicate] at h3
  have := HLL.out
  omega)
 generalize calls s.l x = os0 at *
 obtain ⟨bs0, hbs0⟩ : ∃ bs0, bs0 = List.replicate (web s.l).length false := ⟨_, rfl⟩
 rw [← hbs0] at HSB HBF HLX
 have HBS := hdn (And.intro HBW.out.size (Nat.le_of_lt HSB.out.lt))
 obtain ⟨sb, hsb⟩ : ∃ sb, sb = w.heap.size + 1 := ⟨_, rfl⟩
 have HSE := hdn hsb
 rw [← hsb] at HSB HOT ⊢
 obtain ⟨bx, hbx⟩ : ∃ bx, bx = w.heap.size := ⟨_, rfl⟩
 have HBX := hdn hbx
 rw [← hbx] at HX2 ⊢
 clear d0 d1 d2 HCL HMB HBT2 HX HPS HBA HB2 HO hs1 HXI hbs0 hsb hbx HIR
 go_loopw [6, 7] (fun so s7 wr => ∃ (bs : List Bool) (os : List Int) (ao : Option Addr) (co : Nat), so = .slice ao os.length co ∧ Hid (Bk wr sb 4 (bs.map Value.bool).toArray) ∧ Hid (OT wr (sb + 1) (.slice ao os.length co) os) ∧ Hid (Bf (web s.l) i bs os) ∧ Hid (os.length + 10000 * bs.countP (fun b => !b) ≤ 20000000) ∧ Hid (Below sb w2 wr)) (fun so _ wr => 10001 * unsOf wr sb + slen so)
 case atStart => exact ⟨bs0, os0, _, _, rfl, HSB, HOT, HBF, HLX, hdn (Below.refl _ _)⟩
 case round =>
  clear HSB HOT HBF HLX
  obtain ⟨bs, os, ao, co, rfl, HSB, HOT, HBF, HLX, HB⟩ := hrel
  cases os with
  | nil =>
   go_wp2_with fail
   go_ret
   exact ⟨sb, bs, rfl, HSB.out, by rw [HBF.out.len, web_len], hdn (fun c => HBF.out.end_ c), HBW.out.trans (HB.out.mono (by rw [HSE.out]; omega)), by rw [HSE.out]; omega⟩
  | cons x0 os =>
   obtain ⟨go_, off, cq, hsh, hcx, hot⟩ := HOT.out.head
   obtain ⟨c, hxc, hcn, _⟩ := HBF.out.opn x0 (by simp)
   subst hxc
   injection hsh with e1 e2 e3
   subst e1; subst e3
   have hbl := HBF.out.len
   have hcb : c < bs.length := by rw [hbl]; exact hcn
   obtain ⟨bb, hbb⟩ : ∃ bb, bs[c]? = some bb := ⟨_, List.getElem?_eq_getElem hcb⟩
   have hcs : wr.cell? ⟨sb, c, none⟩ = some (.bool bb) := by
    rw [HSB.out.cell]; simp [hbb]
   have hfs := HSB.out.frozen c
   rw [web_len] at hcn hbl
   have hcn' : (c : Int) < (s.l.length : Int) := by omega
   clear hbl hcb
   by_cases hcq : cq = 0
   ·subst hcq
    have HOT2 : Hid (OT wr (sb + 1) (.slice (some ⟨go_, off, none⟩) os.length 0) os) := hdn (by rw [if_pos rfl] at hot; exact hot)
    clear hot e2
    rcases bb with _ | _
    ·have hbk : Bk wr bx 26 #[sv_, gv, .slice s.p s.l.length s.cap] := HX2.out.below HB.out (by rw [HBX.out, HSE.out]; omega)
     have hbk3 : Bk (wr.setCell ⟨sb, c, none⟩ (.bool true)) bx 26 #[sv_, gv, .slice s.p s.l.length s.cap] := hbk.far (by show bx ≠ sb; rw [HBX.out, HSE.out]; omega) _
     have b0 : (wr.setCell ⟨sb, c, none⟩ (.bool true)).cell? ⟨bx, 0, none⟩ = some sv_ := hbk3.cell 0
     have b1 : (wr.setCell ⟨sb, c, none⟩ (.bool true)).cell? ⟨bx, 1, none⟩ = some gv := hbk3.cell 1
     have b2 : (wr.setCell ⟨sb, c, none⟩ (.bool true)).cell? ⟨bx, 2, none⟩ = some (.slice s.p s.l.length s.cap) := hbk3.cell 2
     obtain ⟨y, hy⟩ : ∃ y, s.l[c]? = some y := ⟨_, List.getElem?_eq_getElem hcn⟩
     have HYC := hdn (web_at hy)
     have HW3 : Hid (Below w.heap.size w (wr.setCell ⟨sb, c, none⟩ (.bool true))) := hdn (below_set (HBW.out.trans (HB.out.mono (by rw [HSE.out]; omega))) _ _ (by show w.heap.size ≤ sb; rw [HSE.out]; omega))
     have HB3 : Hid (Below sb w2 (wr.setCell ⟨sb, c, none⟩ (.bool true))) := hdn (below_set HB.out _ _ (Nat.le_refl _))
     have HCL := hdn (called_any sv_ gv s c y (wr.setCell ⟨sb, c, none⟩ (.bool true)) (pcsLie_below HS.out HW3.out) HP.out hy)
     have HSB3 : Hid (Bk (wr.setCell ⟨sb, c, none⟩ (.bool true)) sb 4 ((bs.set c true).map Value.bool).toArray) := hdn (by
      have h1 := HSB.out.set_ c (.bool true)
      rw [List.setIfInBounds_toArray] at h1
      rw [List.map_set]
      exact h1)
     have HOT3 := hdn (HOT2.out.put (a := ⟨sb, c, none⟩) (u := .bool true) (Nat.lt_succ_self _))
     have HBF2 : Hid (Bf (web s.l) i (bs.set c true) (os ++ calls s.l y)) := hdn (by
      have h1 := Bf.take HIN.out HBF.out (by rw [web_len]; exact hcn)
      rwa [HYC.out] at h1)
     have HUN := hdn (uns_set bs c hbb)
     have HUW := hdn (unsOf_bk HSB.out)
     have HYL : Hid ((calls s.l y).length ≤ 10000) := hdn ((web_in HP.out _ (List.mem_map.2 ⟨y, List.mem_of_getElem? hy, rfl⟩)).1)
     have HLX2 : Hid ((os ++ calls s.l y).length + 10000 * (bs.set c true).countP (fun b => !b) ≤ 20000000) := hdn (by have h1 := HLX.out; have h2 := HUN.out; have h3 := HYL.out; rw [List.length_cons] at h1; rw [List.length_append]; omega)
     have HLO : Hid (os.length + (calls s.l y).length ≤ 100000000) := hdn (by have h1 := HLX2.out; rw [List.length_append] at h1; omega)
     clear HBF HLX HOT HOT2 hbb hbk hbk3 hy
     generalize calls s.l y = ys at *
     go_wp2_with (first | (go_at_call 23; refine (HCL.out).mono ?_; rintro en w4 ⟨v4, rfl, ho, hb⟩; have HO4 := hdn ho; have HB4 := hdn hb; have HS4 := hdn HB3.out.size; have HOT4 := hdn (HOT3.out.below hb); have HSB4 := hdn (HSB3.out.below hb HSB3.out.lt); have HBB4 : Hid (Below sb w2 w4) := hdn (HB3.out.trans (hb.mono (Nat.le_of_lt HSB3.out.lt))); clear ho hb) | ((with_reducible show wpList _ _ _ (Oper.mk (some 35) _ _ _ _ _ :: _) _ _); refine wpList_app_ot rfl (.tmp 31) (.tmp 34) rfl (sb + 1) _ os ys _ v4 rfl HOT4.out HSB4.out.lt rfl HO4.out HLO.out ?_; intro v5 w5 hot5 hg5 hsh5; have HOT5 := hdn hot5; have HSB5 := hdn (HSB4.out.grown hg5 (fun q hq => by have := (HOT4.out.lt q hq).1; omega)); have HB5 : Hid (Below sb w2 w5) := hdn (HBB4.out.grown hg5 (Nat.le_of_lt HSB4.out.lt) (fun q hq => by have := (HOT4.out.lt q hq).1; omega)); obtain ⟨a5, c5, rfl⟩ := hsh5; clear hot5 hg5))
     have HUV := hdn (unsOf_bk HSB5.out)
     go_roundw
     case rel => exact ⟨bs.set c true, os ++ ys, a5, c5, by rw [List.length_append], HSB5, hdn (by rw [List.length_append]; exact HOT5.out), HBF2, HLX2, HB5⟩
     case measure => rw [HUV.out, HUW.out]; have h1 := HUN.out; have h2 := HYL.out; simp only [slen, List.length_cons]; omega
    ·have HBF2 : Hid (Bf (web s.l) i bs os) := hdn (HBF.out.skip (by simpa using hbb))
     have HLX2 : Hid (os.length + 10000 * bs.countP (fun b => !b) ≤ 20000000) := hdn (by have := HLX.out; rw [List.length_cons] at this; omega)
     clear HBF HLX HOT hbb
     go_wp2_with fail
     go_roundw
     case rel => exact ⟨bs, os, _, _, rfl, HSB, HOT2, HBF2, HLX2, HB⟩
     case measure => simp [slen]
   ·have HOT2 : Hid (OT wr (sb + 1) (.slice (some ⟨go_, off + 1, none⟩) os.length cq) os) := hdn (by rw [if_neg hcq] at hot; exact hot)
    clear hot e2
    rcases bb with _ | _
    ·have hbk : Bk wr bx 26 #[sv_, gv, .slice s.p s.l.length s.cap] := HX2.out.below HB.out (by rw [HBX.out, HSE.out]; omega)
     have hbk3 : Bk (wr.setCell ⟨sb, c, none⟩ (.bool true)) bx 26 #[sv_, gv, .slice s.p s.l.length s.cap] := hbk.far (by show bx ≠ sb; rw [HBX.out, HSE.out]; omega) _
     have b0 : (wr.setCell ⟨sb, c, none⟩ (.bool true)).cell? ⟨bx, 0, none⟩ = some sv_ := hbk3.cell 0
     have b1 : (wr.setCell ⟨sb, c, none⟩ (.bool true)).cell? ⟨bx, 1, none⟩ = some gv := hbk3.cell 1
     have b2 : (wr.setCell ⟨sb, c, none⟩ (.bool true)).cell? ⟨bx, 2, none⟩ = some (.slice s.p s.l.length s.cap) := hbk3.cell 2
     obtain ⟨y, hy⟩ : ∃ y, s.l[c]? = some y := ⟨_, List.getElem?_eq_getElem hcn⟩
     have HYC := hdn (web_at hy)
     have HW3 : Hid (Below w.heap.size w (wr.setCell ⟨sb, c, none⟩ (.bool true))) := hdn (below_set (HBW.out.trans (HB.out.mono (by rw [HSE.out]; omega))) _ _ (by show w.heap.size ≤ sb; rw [HSE.out]; omega))
     have HB3 : Hid (Below sb w2 (wr.setCell ⟨sb, c, none⟩ (.bool true))) := hdn (below_set HB.out _ _ (Nat.le_refl _))
     have HCL := hdn (called_any sv_ gv s c y (wr.setCell ⟨sb, c, none⟩ (.bool true)) (pcsLie_below HS.out HW3.out) HP.out hy)
     have HSB3 : Hid (Bk (wr.setCell ⟨sb, c, none⟩ (.bool true)) sb 4 ((bs.set c true).map Value.bool).toArray) := hdn (by
      have h1 := HSB.out.set_ c (.bool true)
      rw [List.setIfInBounds_toArray] at h1
      rw [List.map_set]
      exact h1)
     have HOT3 := hdn (HOT2.out.put (a := ⟨sb, c, none⟩) (u := .bool true) (Nat.lt_succ_self _))
     have HBF2 : Hid (Bf (web s.l) i (bs.set c true) (os ++ calls s.l y)) := hdn (by
      have h1 := Bf.take HIN.out HBF.out (by rw [web_len]; exact hcn)
      rwa [HYC.out] at h1)
     have HUN := hdn (uns_set bs c hbb)
     have HUW := hdn (unsOf_bk HSB.out)
     have HYL : Hid ((calls s.l y).length ≤ 10000) := hdn ((web_in HP.out _ (List.mem_map.2 ⟨y, List.mem_of_getElem? hy, rfl⟩)).1)
     have HLX2 : Hid ((os ++ calls s.l y).length + 10000 * (bs.set c true).countP (fun b => !b) ≤ 20000000) := hdn (by have h1 := HLX.out; have h2 := HUN.out; have h3 := HYL.out; rw [List.length_cons] at h1; rw [List.length_append]; omega)
     have HLO : Hid (os.length + (calls s.l y).length ≤ 100000000) := hdn (by have h1 := HLX2.out; rw [List.length_append] at h1; omega)
     clear HBF HLX HOT HOT2 hbb hbk hbk3 hy
     generalize calls s.l y = ys at *
     go_wp2_with (first | (go_at_call 23; refine (HCL.out).mono ?_; rintro en w4 ⟨v4, rfl, ho, hb⟩; have HO4 := hdn ho; have HB4 := hdn hb; have HS4 := hdn HB3.out.size; have HOT4 := hdn (HOT3.out.below hb); have HSB4 := hdn (HSB3.out.below hb HSB3.out.lt); have HBB4 : Hid (Below sb w2 w4) := hdn (HB3.out.trans (hb.mono (Nat.le_of_lt HSB3.out.lt))); clear ho hb) | ((with_reducible show wpList _ _ _ (Oper.mk (some 35) _ _ _ _ _ :: _) _ _); refine wpList_app_ot rfl (.tmp 31) (.tmp 34) rfl (sb + 1) _ os ys _ v4 rfl HOT4.out HSB4.out.lt rfl HO4.out HLO.out ?_; intro v5 w5 hot5 hg5 hsh5; have HOT5 := hdn hot5; have HSB5 := hdn (HSB4.out.grown hg5 (fun q hq => by have := (HOT4.out.lt q hq).1; omega)); have HB5 : Hid (Below sb w2 w5) := hdn (HBB4.out.grown hg5 (Nat.le_of_lt HSB4.out.lt) (fun q hq => by have := (HOT4.out.lt q hq).1; omega)); obtain ⟨a5, c5, rfl⟩ := hsh5; clear hot5 hg5))
     have HUV := hdn (unsOf_bk HSB5.out)
     go_roundw
     case rel => exact ⟨bs.set c true, os ++ ys, a5, c5, by rw [List.length_append], HSB5, hdn (by rw [List.length_append]; exact HOT5.out), HBF2, HLX2, HB5⟩
     case measure => rw [HUV.out, HUW.out]; have h1 := HUN.out; have h2 := HYL.out; simp only [slen, List.length_cons]; omega
    ·have HBF2 : Hid (Bf (web s.l) i bs os) := hdn (HBF.out.skip (by simpa using hbb))
     have HLX2 : Hid (os.length + 10000 * bs.countP (fun b => !b) ≤ 20000000) := hdn (by have := HLX.out; rw [List.length_cons] at this; omega)
     clear HBF HLX HOT hbb
     go_wp2_with fail
     go_roundw
     case rel => exact ⟨bs, os, _, _, rfl, HSB, HOT2, HBF2, HLX2, HB⟩
     case measure => simp [slen]
end Go.Proofs.YtmhpaacjioeknaaGreat
namespace Go.Proofs.YtmhpaacjioeknaaGreat
open Go.RowKit Go.Maps Go.Sort Go.WideMaps
/-- What Cycle answers. -/
def CycPost (l : List Pc) (a er : Int) : Prop :=
 (er = 0 ∧ a = 0 ∧ ∀ i, i < l.length → ¬ Rt (web l) i i) ∨ (er = 10 ∧ ∃ i x, l[i]? = some x ∧ Rt (web l) i i ∧ (∀ k, k < i → ¬ Rt (web l) k k) ∧ a = x.pos)
theorem rcycle_any (sv_ gv : Value) (s : Sl Pc) (w : World) (h : pcsLie w s) (hP : PsOk s.l) :
  Calls Tryz.prog 7 #[.agg #[sv_, gv, .slice s.p s.l.length s.cap]] w fun e w' => ∃ a er, e = .returned (.tuple #[.int .i64 a, .int .i64 er]) ∧ CycPost s.l a er ∧ Below w.heap.size w w' := by
 have HBA : Hid (Below w.heap.size w (w.alloc (.cells #[sv_, gv, .slice s.p s.l.length s.cap] 26))) := hdn ((Below.refl _ _).alloc (Nat.le_refl _) _)
 have HX := hdn (prog_box w sv_ gv (.slice s.p s.l.length s.cap))
 have HPS : Hid (pcsLie (w.alloc (.cells #[sv_, gv, .slice s.p s.l.length s.cap] 26)) s) := hdn (pcsLie_below h HBA.out)
 have HP := hdn hP
 have HLL : Hid (s.l.length ≤ 1000) := hdn hP.len
 have hl' : (s.l.length : Int) ≤ 1000 := by have := hP.len; omega
 clear h hP
 go_enter Tryz.func7, Tryz.ntmps7
 go_wp2_with fail
 have HBR := hdn (Below.refl (w.alloc (.cells #[sv_, gv, .slice s.p s.l.length s.cap] 26)).heap.size (w.alloc (.cells #[sv_, gv, .slice s.p s.l.length s.cap] 26)))
 generalize w.alloc (.cells #[sv_, gv, .slice s.p s.l.length s.cap] 26) = w1 at HX HBA HBR HPS ⊢
 have HBS := hdn HBA.out.size
 generalize w.heap.size = bx at HX ⊢
 go_loopw [4] (fun si wr => ∃ (k : Nat), si = .int .i64 k ∧ k ≤ s.l.length ∧ Hid (∀ i, i < k → ¬ Rt (web s.l) i i) ∧ Hid (Below w1.heap.size w1 wr)) (fun si _ => s.l.length - (Lib.intOf si).toNat)
 case atStart => exact ⟨0, rfl, Nat.zero_le _, hdn (by intro i hi; omega), HBR⟩
 case round =>
  clear HBR
  obtain ⟨k, rfl, hk, HNO, HB⟩ := hrel
  have hbk : Bk wr bx 26 #[sv_, gv, .slice s.p s.l.length s.cap] := HX.out.below HB.out HX.out.lt
  have b0 : wr.cell? ⟨bx, 0, none⟩ = some sv_ := hbk.cell 0
  have b1 : wr.cell? ⟨bx, 1, none⟩ = some gv := hbk.cell 1
  have b2 : wr.cell? ⟨bx, 2, none⟩ = some (.slice s.p s.l.length s.cap) := hbk.cell 2
  have HBK := hdn hbk
  clear hbk
  by_cases hlt : k < s.l.length
  ·obtain ⟨x, hx⟩ : ∃ x, s.l[k]? = some x := ⟨_, List.getElem?_eq_getElem hlt⟩
   have HXX := hdn hx
   obtain ⟨pb, o, hp, hr, hpl⟩ := pc_at HPS.out hx
   have HR := hdn hr
   have HPP := hdn hp
   have HRE := hdn (reach_any sv_ gv s k wr (pcsLie_below HPS.out HB.out) HP.out hlt)
   clear hx hr hpl hp
   by_cases hcy : Rt (web s.l) k k
   ·go_wp2_with (go_at_call 18; refine (HRE.out).mono ?_; rintro en w2 ⟨sb, bs, rfl, hsb, hbl, hrt, hb, hbs⟩; have hcs : w2.cell? ⟨sb, k, none⟩ = some (.bool true) := (by rw [hsb.cell]; simp [(hrt.out k).2 hcy]); have c2 : w2.cell? ⟨bx, 2, none⟩ = some (.slice (some ⟨pb, o, none⟩) s.l.length s.cap) := (by rw [← HPP.out]; exact (HBK.out.below hb HBK.out.lt).cell 2); have hbw := HB.out.trans (hb.mono HB.out.size); have c1 : w2.cell? ⟨pb, o + k * 6 + 1, none⟩ = some (.int .i64 x.pos) := cell_at (rangeAt_below HR.out hbw) 1 _ rfl; have HB2 := hdn hbw; clear hsb hbl hrt hb hbs hbw)
    refine bodyPost_ret (v := .tuple #[.int .i64 x.pos, .int .i64 10]) (by simp [results, Tryz.results7, go_sem]) rfl ?_
    exact ⟨_, _, rfl, .inr ⟨rfl, k, x, HXX.out, hcy, HNO.out, rfl⟩, HBA.out.trans (HB2.out.mono HBS.out)⟩
   ·have HNN : Hid (∀ i, i < k + 1 → ¬ Rt (web s.l) i i) := hdn (by
     intro i hi
     by_cases h1 : i = k
     ·subst h1; exact hcy
     ·exact HNO.out i (by omega))
    go_wp2_with (go_at_call 18; refine (HRE.out).mono ?_; rintro en w2 ⟨sb, bs, rfl, hsb, hbl, hrt, hb, hbs⟩; have hcs : w2.cell? ⟨sb, k, none⟩ = some (.bool false) := (by
     have h1 : k < bs.length := by omega
     have h2 : bs[k] = false := by
      cases h3 : bs[k] with
      | false => rfl
      | true => exact absurd ((hrt.out k).1 (by rw [List.getElem?_eq_getElem h1, h3])) hcy
     rw [hsb.cell]; simp [List.getElem?_eq_getElem h1, h2]); have HB2 := hdn (HB.out.trans (hb.mono HB.out.size)); clear hsb hbl hrt hb hbs)
    go_roundw
    case rel => exact ⟨k + 1, by go_num, by omega, HNN, HB2⟩
    case measure => simp [Lib.intOf]; omega
  ·have HKE : Hid (k = s.l.length) := hdn (by omega)
   go_wp2_with fail
   refine bodyPost_ret (v := .tuple #[.int .i64 0, .int .i64 0]) (by simp [results, Tryz.results7, go_sem]) rfl ?_
   exact ⟨_, _, rfl, .inl ⟨rfl, rfl, by rw [← HKE.out]; exact HNO.out⟩, HBA.out.trans (HB.out.mono HBS.out)⟩
end Go.Proofs.YtmhpaacjioeknaaGreat
