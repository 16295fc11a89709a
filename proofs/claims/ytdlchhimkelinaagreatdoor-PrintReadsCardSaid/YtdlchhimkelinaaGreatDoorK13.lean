/-
  The document's reader: values. The document's reader: conditions. The document's reader: structs.
-/
import Derived.Test.YtdlchhimkelinaaGreatDoorK12
import Derived.Deep.DeepCutAuto
set_option maxHeartbeats 6400000
set_option maxRecDepth 100000
namespace Go.Proofs.YtdlchhimkelinaaGreatDoor
open Go.RowKit Go.Sort
attribute [local go_sem] field72_0 field72_1 field72_2 field72_3
/-- Is a sum next? -/
def sm (z y : Tx.Sg) : Bool := (z.kind == 1 || z.kind == 2) && (y.kind == 4 && (y.text.toList == [43] || y.text.toList == [45]))
section
variable {α : Type} {rb sb cap : Nat} {l : List Tx.Sg} {o : Int} {N : Nat}
theorem sm_pr (C : RC l N) {u : Pr.St} (hi : u.i < l.length) : sm (rsg l u.i) (rsg l (u.i + 1)) = Pr.sums (Pa.ts l) u := by
 have hz : (Pr.sg (Pa.ts l) u.i).kind = (rsg l u.i).kind := by rw [rsg_lt hi, ← Pa.sg_tk]; rfl
 unfold sm Pr.sums
 rw [hz]
 by_cases h0 : (rsg l u.i).kind = 0
 ·rw [h0]; rfl
 have h1 := more_rsg C hi h0
 rw [← isNx_pr h1, ← isNx_pr h1]
 congr 1
 unfold isNx
 rw [Lib.toList_data, Lib.toList_data, Lib.toList_data]
 have hk := rsg_kind C.kinds (u.i + 1) (by omega : 0 < l.length)
 rcases q : (rsg l (u.i + 1)).text.data.toList == [43] with _ | _
 ·rcases q2 : (rsg l (u.i + 1)).text.data.toList == [45] with _ | _
  ·simp
  ·rw [Pa.kind_mark hk (by rw [eq_of_beq q2]; decide)]; rfl
 ·rw [Pa.kind_mark hk (by rw [eq_of_beq q]; decide)]; rfl
theorem later_m (w : World) (r0 : Pr.Res α) (h : RM w rb sb cap l o N r0) :
  Calls Tryz.prog 52 #[.pointer (some ⟨rb, 0, none⟩)] w fun en w' => Below w.heap.size w w' ∧ ∃ x : Tx.Sg, en = .returned (.agg #[.int .i64 x.kind, .int .i64 x.pos, .string x.text, .int .i64 x.num]) ∧ ∀ y u, r0 = .ok (y, u) → x = rsg l (u.i + 1) := by
 rcases r0 with n | ⟨x, u⟩
 ·obtain ⟨k, b, a, e, he, hk, hb0, hb1, h5⟩ := h
  refine (later_any w h5).mono ?_
  rintro en w1 ⟨rfl, hb⟩
  exact ⟨hb, _, rfl, by intro y u hc; cases hc⟩
 ·obtain ⟨h5, hi, rfl, hb0, hb1⟩ := h
  refine (later_any w h5).mono ?_
  rintro en w1 ⟨rfl, hb⟩
  exact ⟨hb, _, rfl, by intro y v hc; cases hc; rfl⟩
theorem RM.more {w : World} {r : Pr.Res α} (h : RM w rb sb cap l o N r) : RM w rb sb cap l o (N + 1) r := by
 rcases r with n | ⟨x, u⟩
 ·obtain ⟨k, b, a, e, e1, e2, e3, e4, e5⟩ := h; exact ⟨k, b, a, e, e1, by omega, e3, e4, e5⟩
 ·exact h
/-- One sign further. -/
theorem RM.bump (C : RC l N) {w : World} {r : Pr.Res α} (h : RM w rb sb cap l o N r) (hm : ∀ x u, r = .ok (x, u) → u.i + 1 < l.length) :
  ∃ k : Nat, w.cell? ⟨rb, 1, none⟩ = some (.int .i64 k) ∧ w.frozen? ⟨rb, 1, none⟩ = false ∧ (k : Int) < 1000000 ∧
   RM (w.setCell ⟨rb, 1, none⟩ (.int .i64 ((k : Int) + 1))) rb sb cap l o (N + 1) (Pr.th r fun x u => .ok (x, u.go)) := by
 have hN := C.len; have hT := C.top
 rcases r with n | ⟨x, u⟩
 ·obtain ⟨k, b, a, e, e1, e2, e3, e4, e5⟩ := h
  exact ⟨k, e5.blk.cell 1, e5.blk.frozen 1, by omega, k + 1, b, a, e, e1, by omega, e3, e4, e5.go (by omega)⟩
 ·obtain ⟨h1, h2, rfl, h3, h4⟩ := h
  exact ⟨u.i, h1.blk.cell 1, h1.blk.frozen 1, by omega, h1.go (by omega), hm x u rfl, rfl, h3, h4⟩
theorem RC.more (C : RC l N) (h : N ≤ 800000) : RC l (N + 1) := ⟨C.kinds, C.good, by have := C.len; omega, by omega⟩
theorem sums_more (C : RC l N) {u v : Pr.St} {x : Tm} (hi : u.i < l.length) (hs : Pr.sums (Pa.ts l) u = true) (ht : Pa.term l u = .ok (x, v)) : v = u.go ∧ v.i + 1 < l.length ∧ Pr.is (Pa.ts l) v.i ⟨#[45]⟩ = ((rsg l (u.i + 1)).text.toList == [45]) := by
 have hz : (Pr.sg (Pa.ts l) u.i).kind = (rsg l u.i).kind := by rw [rsg_lt hi, ← Pa.sg_tk]; rfl
 unfold Pr.sums at hs
 rw [hz, Bool.and_eq_true] at hs
 obtain ⟨hk, hn⟩ := hs
 have h0 : (rsg l u.i).kind ≠ 0 := by intro e; rw [e] at hk; exact absurd hk (by decide)
 have h1 := more_rsg C hi h0
 rw [← isNx_pr h1, ← isNx_pr h1] at hn
 have h2 : (rsg l (u.i + 1)).kind ≠ 0 := by
  rcases q : isNx l (u.i + 1) ⟨#[43]⟩ with _ | _
  ·rw [q, Bool.false_or] at hn
   rcases isNx_kind C.kinds (by omega) (by decide) hn with hh | hh <;> rw [hh] <;> decide
  ·rcases isNx_kind C.kinds (by omega) (by decide) q with hh | hh <;> rw [hh] <;> decide
 have hv : v = u.go := by
  unfold Pa.term Pa.name at ht
  rw [← rsg_lt hi] at ht
  by_cases k2 : (rsg l u.i).kind = 2
  ·rw [if_pos k2] at ht; injection ht with ht; injection ht with a b; exact b.symm
  ·rw [if_neg k2] at ht
   by_cases k1 : (rsg l u.i).kind = 1
   ·rw [if_pos k1] at ht; injection ht with ht; injection ht with a b; exact b.symm
   ·rw [if_neg k1] at ht; cases ht
 subst hv
 exact ⟨rfl, more_rsg C h1 h2, by rw [show u.go.i = u.i + 1 from rfl, ← isNx_pr h1]; unfold isNx; rw [show (⟨#[45]⟩ : ByteArray).toList = [45] from Lib.toList_data _]⟩
theorem value_m (C : RC l N) (hN8 : N ≤ 800000) (w : World) (r0 : Pr.Res α) (h : RM w rb sb cap l o N r0) :
  Calls Tryz.prog 134 #[.pointer (some ⟨rb, 0, none⟩)] w (RP (qVl.Val w.heap.size) w rb sb cap l o (N + 1) (Pr.th r0 fun _ u => Pa.value l u)) := by
 have HC := hdn C
 have HC2 := hdn (C.more hN8)
 have HI0 : Hid (∀ x u, r0 = .ok (x, u) → u.i < l.length) := hdn (by intro x u hc; subst hc; exact h.2.1)
 clear hN8
 obtain ⟨r, hr⟩ : ∃ r, r = Pr.th r0 fun _ u => Pa.value l u := ⟨_, rfl⟩
 rw [← hr]
 have HR := hdn hr
 have hn : Below w.heap.size w (w.alloc (.cells #[.int .i64 0, .int .i64 0, .string ByteArray.empty, .int .i64 0, .slice none 0 0, .string ByteArray.empty, .string ByteArray.empty, .int .i64 0, .int .i64 0, .string ByteArray.empty, .int .i64 0, .int .i64 0] 49)) := (Below.refl _ _).alloc (Nat.le_refl _) _
 have HM := hdn (h.below hn)
 have HK : Hid (Bk (w.alloc (.cells #[.int .i64 0, .int .i64 0, .string ByteArray.empty, .int .i64 0, .slice none 0 0, .string ByteArray.empty, .string ByteArray.empty, .int .i64 0, .int .i64 0, .string ByteArray.empty, .int .i64 0, .int .i64 0] 49)) w.heap.size 49 (Vl.cells Pr.noVl).toArray) := hdn (heap_alloc_new _ _)
 have HNE : Hid (w.heap.size ≠ rb ∧ w.heap.size ≠ sb) := hdn ⟨by have := h.rb_lt; omega, by have := h.sb_lt; omega⟩
 have HG : Hid (w.grownBy (w.alloc (.cells #[.int .i64 0, .int .i64 0, .string ByteArray.empty, .int .i64 0, .slice none 0 0, .string ByteArray.empty, .string ByteArray.empty, .int .i64 0, .int .i64 0, .string ByteArray.empty, .int .i64 0, .int .i64 0] 49)) (some rb)) := hdn (grownBy_of hn _)
 generalize hwA : w.alloc (.cells #[.int .i64 0, .int .i64 0, .string ByteArray.empty, .int .i64 0, .slice none 0 0, .string ByteArray.empty, .string ByteArray.empty, .int .i64 0, .int .i64 0, .string ByteArray.empty, .int .i64 0, .int .i64 0] 49) = wA at HM HK HG
 clear h hr hn
 go_enter Tryz.func134, Tryz.ntmps134
 go_upto_region 1 with fail
 rw [show w.alloc (.cells #[.int .i64 0, .int .i64 0, .string ⟨#[]⟩, .int .i64 0, .slice none 0 0, .string ⟨#[]⟩, .string ⟨#[]⟩, .int .i64 0, .int .i64 0, .string ⟨#[]⟩, .int .i64 0, .int .i64 0] 49) = wA from hwA]
 clear hwA
 obtain ⟨A, hA⟩ : ∃ A, A = w.heap.size := ⟨_, rfl⟩
 have HA := hdn hA
 rw [← hA] at HK HNE ⊢
 clear hA
 go_wp2_with fail
 refine (now_m wA r0 HM.out).mono ?_
 rintro en w0 ⟨hb, z, rfl, hz⟩
 have HZ := hdn hz
 have HM0 := hdn (HM.out.below hb); have HK0 := hdn (HK.out.below hb HK.out.lt); have HG0 := hdn (grownBy_below HG.out hb)
 clear hb hz HM HK HG
 go_wp2_with fail
 refine (later_m w0 r0 HM0.out).mono ?_
 rintro en w1 ⟨hb, y, rfl, hy⟩
 have HY := hdn hy
 have HM1 := hdn (HM0.out.below hb); have HK1 := hdn (HK0.out.below hb HK0.out.lt); have HG1 := hdn (grownBy_below HG0.out hb)
 clear hb hy HM0 HK0 HG0
 go_upto_region 2 with fail
 have hm : Below w1.heap.size w1 (w1.alloc (.cells #[.int .i64 z.kind, .int .i64 z.pos, .string z.text, .int .i64 z.num] 72)) := (Below.refl _ _).alloc (Nat.le_refl _) _
 have HMa := hdn (HM1.out.below hm)
 have HKa := hdn (HK1.out.below hm HK1.out.lt)
 have HFa : Hid (Bk (w1.alloc (.cells #[.int .i64 z.kind, .int .i64 z.pos, .string z.text, .int .i64 z.num] 72)) w1.heap.size 72 #[.int .i64 z.kind, .int .i64 z.pos, .string z.text, .int .i64 z.num]) := hdn (heap_alloc_new _ _)
 have HGa := hdn (grownBy_below HG1.out hm)
 have HFN : Hid (w1.heap.size ≠ rb ∧ w1.heap.size ≠ A) := hdn ⟨by have := HM1.out.rb_lt; omega, by have := HK1.out.lt; omega⟩
 obtain ⟨G, hG⟩ : ∃ G, G = w1.heap.size + 1 := ⟨_, rfl⟩
 have hG' : G = (w1.alloc (.cells #[.int .i64 z.kind, .int .i64 z.pos, .string z.text, .int .i64 z.num] 72)).heap.size := by rw [hG]; simp
 rw [← hG]
 clear hG
 generalize w1.alloc (.cells #[.int .i64 z.kind, .int .i64 z.pos, .string z.text, .int .i64 z.num] 72) = wB at HMa HKa HFa HGa hG' ⊢
 clear hm HM1 HK1 HG1
 generalize w1.heap.size = F at *
 have hm : Below wB.heap.size wB (wB.alloc (.cells #[.int .i64 y.kind, .int .i64 y.pos, .string y.text, .int .i64 y.num] 72)) := (Below.refl _ _).alloc (Nat.le_refl _) _
 have HM2 := hdn (HMa.out.below hm)
 have HK2 := hdn (HKa.out.below hm HKa.out.lt)
 have HF2 := hdn (HFa.out.below hm HFa.out.lt)
 have HY2 : Hid (Bk (wB.alloc (.cells #[.int .i64 y.kind, .int .i64 y.pos, .string y.text, .int .i64 y.num] 72)) G 72 #[.int .i64 y.kind, .int .i64 y.pos, .string y.text, .int .i64 y.num]) := hdn (by rw [hG']; exact heap_alloc_new _ _)
 have HG2 := hdn (grownBy_below HGa.out hm)
 have HGN : Hid (G ≠ rb ∧ G ≠ A) := hdn ⟨by have := HMa.out.rb_lt; omega, by have := HKa.out.lt; omega⟩
 generalize wB.alloc (.cells #[.int .i64 y.kind, .int .i64 y.pos, .string y.text, .int .i64 y.num] 72) = w2 at HM2 HK2 HF2 HY2 HG2 ⊢
 clear hm hG' HMa HKa HFa HGa
 have t1 : w2.cell? ⟨F, 1, none⟩ = some (.int .i64 z.pos) := HF2.out.cell 1
 go_upto_region 3 with fail
 clear t1
 change Code.wp _ _ _ _ (w2.alloc (.cells (Vl.cells { Pr.noVl with pos := (z.pos : Int) }).toArray 49))
 have hm : Below w2.heap.size w2 (w2.alloc (.cells (Vl.cells { Pr.noVl with pos := (z.pos : Int) }).toArray 49)) := (Below.refl _ _).alloc (Nat.le_refl _) _
 have HM3 := hdn (HM2.out.below hm)
 have HK3 := hdn (HK2.out.below hm HK2.out.lt)
 have HF3 := hdn (HF2.out.below hm HF2.out.lt)
 have HY3 := hdn (HY2.out.below hm HY2.out.lt)
 have HS3 : Hid (Bk (w2.alloc (.cells (Vl.cells { Pr.noVl with pos := (z.pos : Int) }).toArray 49)) w2.heap.size 49 (Vl.cells { Pr.noVl with pos := (z.pos : Int) }).toArray) := hdn (heap_alloc_new _ _)
 have HG3 := hdn (grownBy_below HG2.out hm)
 have HNS : Hid (w2.heap.size ≠ rb ∧ w2.heap.size ≠ sb ∧ A ≠ w2.heap.size ∧ w.heap.size ≤ w2.heap.size ∧ G ≠ w2.heap.size) := hdn ⟨by have := HM2.out.rb_lt; omega, by have := HM2.out.sb_lt; omega, by have := HK2.out.lt; omega, HG2.out.size, by have := HY2.out.lt; omega⟩
 generalize w2.alloc (.cells (Vl.cells { Pr.noVl with pos := (z.pos : Int) }).toArray 49) = w3 at HM3 HK3 HF3 HS3 HY3 HG3 ⊢
 clear hm HM2 HK2 HF2 HG2 HY2
 generalize w2.heap.size = S at *
 have HSM : Hid (∀ x u, r0 = .ok (x, u) → sm z y = Pr.sums (Pa.ts l) u) := hdn (by
  intro x u hc
  have hi := HI0.out x u hc
  rw [HZ.out x u hc, HY.out x u hc, ← rsg_lt hi, sm_pr HC.out hi])
 have tz : w3.cell? ⟨F, 0, none⟩ = some (.int .i64 z.kind) := HF3.out.cell 0
 have ty : w3.cell? ⟨G, 0, none⟩ = some (.int .i64 y.kind) := HY3.out.cell 0
 have tt : w3.cell? ⟨G, 2, none⟩ = some (.string y.text) := HY3.out.cell 2
 go_cut [6] from 6 to 36 (fun c wx => c = .bool (sm z y) ∧ wx = w3)
 case first =>
  rcases k1 : (z.kind == 1) with _ | _
  ·rcases k2 : (z.kind == 2) with _ | _
   ·(go_wp2_with fail; go_meet; exact ⟨by simp [sm, k1, k2], rfl⟩)
   ·(rcases k4 : (y.kind == 4) with _ | _; (· (go_wp2_with fail; go_meet; exact ⟨by simp [sm, k1, k2, k4], rfl⟩)); (· rcases kp : (y.text.toList == [43]) with _ | _; (· rcases km : (y.text.toList == [45]) with _ | _; (· (go_wp2_with fail; go_meet; exact ⟨by simp [sm, k1, k2, k4, kp, km], rfl⟩)); (· (go_wp2_with fail; go_meet; exact ⟨by simp [sm, k1, k2, k4, kp, km], rfl⟩))); (· (go_wp2_with fail; go_meet; exact ⟨by simp [sm, k1, k2, k4, kp], rfl⟩))))
  ·(rcases k4 : (y.kind == 4) with _ | _; (· (go_wp2_with fail; go_meet; exact ⟨by simp [sm, k1, k4], rfl⟩)); (· rcases kp : (y.text.toList == [43]) with _ | _; (· rcases km : (y.text.toList == [45]) with _ | _; (· (go_wp2_with fail; go_meet; exact ⟨by simp [sm, k1, k4, kp, km], rfl⟩)); (· (go_wp2_with fail; go_meet; exact ⟨by simp [sm, k1, k4, kp, km], rfl⟩))); (· (go_wp2_with fail; go_meet; exact ⟨by simp [sm, k1, k4, kp], rfl⟩))))
 case rest =>
  obtain ⟨rfl, rfl⟩ := hcut
  clear tz ty tt
  go_wp2_with fail
  refine (take_m HC.out ⟨#[110, 101, 119]⟩ (by decide) wc r0 HM3.out).mono ?_
  rintro en w4 ⟨g4, hh⟩
  have HK4 := hdn (HK3.out.kept g4 HNE.out.1)
  have HS4 := hdn (HS3.out.kept g4 HNS.out.1)
  have HY4 := hdn (HY3.out.kept g4 HGN.out.1)
  have HG4 := hdn (grownBy_tr HG3.out g4)
  clear g4 HM3 HK3 HS3 HF3 HG3 HY3
  rcases hh with ⟨rfl, x0, u, hr0, hi, hm⟩ | ⟨rfl, hf, hm⟩
  ·have HR0 := hdn hr0
   have HI := hdn hi
   have HM4 := hdn hm
   clear hr0 hi hm
   have f0 := HS4.out.frozen 0
   have c0 := HS4.out.cell 0
   simp only [List.getElem?_toArray, List.getElem?_cons_zero] at c0
   go_upto_region 7 with fail
   clear f0 c0
   have gs : w4.grownBy (w4.setCell ⟨S, 0, none⟩ (.int .i64 2)) (some S) := grownBy_setC _ ⟨S, 0, none⟩ _
   have HS5 : Hid (Bk (w4.setCell ⟨S, 0, none⟩ (.int .i64 2)) S 49 (Vl.cells { Pr.noVl with kind := 2, pos := (z.pos : Int) }).toArray) := hdn (HS4.out.set_ 0 _)
   have HM5 := hdn (HM4.out.far gs HNS.out.1 HNS.out.2.1)
   have HK5 := hdn (HK4.out.kept gs HNS.out.2.2.1)
   have HY5 := hdn (HY4.out.kept gs HNS.out.2.2.2.2)
   have HG5 := hdn (grownBy_up HG4.out gs (fun q hq => by injection hq with hq; have := HNS.out; omega))
   clear gs HM4 HS4 HK4 HG4 HY4
   generalize (w4.setCell ⟨S, 0, none⟩ (.int .i64 2)) = w5 at HS5 HM5 HK5 HG5 HY5 ⊢
   go_wp2_with fail
   refine (name_m HC.out w5 _ HM5.out).mono ?_
   rintro en w6 ⟨g6, _, x, rfl, rfl, hx, hm⟩
   have HX := hdn hx
   have HM6 := hdn hm
   have HK6 := hdn (HK5.out.kept g6 HNE.out.1)
   have HS6 := hdn (HS5.out.kept g6 HNS.out.1)
   have HY6 := hdn (HY5.out.kept g6 HGN.out.1)
   have HG6 := hdn (grownBy_tr HG5.out g6)
   clear hx hm g6 HM5 HK5 HS5 HG5 HY5
   have f5 := HS6.out.frozen 5
   have c5 := HS6.out.cell 5
   simp only [List.getElem?_toArray, List.getElem?_cons_zero, List.getElem?_cons_succ] at c5
   go_upto_region 17 with fail
   clear f5 c5
   have gs : w6.grownBy (w6.setCell ⟨S, 5, none⟩ (.string x.text)) (some S) := grownBy_setC _ ⟨S, 5, none⟩ _
   have HS7 : Hid (Bk (w6.setCell ⟨S, 5, none⟩ (.string x.text)) S 49 (Vl.cells { Pr.noVl with kind := 2, pos := (z.pos : Int), type := x.text }).toArray) := hdn (HS6.out.set_ 5 _)
   have HM7 := hdn (HM6.out.far gs HNS.out.1 HNS.out.2.1)
   have HK7 := hdn (HK6.out.kept gs HNS.out.2.2.1)
   have HY7 := hdn (HY6.out.kept gs HNS.out.2.2.2.2)
   have HG7 := hdn (grownBy_up HG6.out gs (fun q hq => by injection hq with hq; have := HNS.out; omega))
   clear gs HM6 HS6 HK6 HG6 HY6
   generalize (w6.setCell ⟨S, 5, none⟩ (.string x.text)) = w7 at HS7 HM7 HK7 HG7 HY7 ⊢
   go_wp2_with (first | ((with_reducible show wpList _ _ _ (Oper.mk (some 73) (Op.load 49 _) _ _ _ _ :: _) _ _); refine wpList_load_bk rfl 49 (.tmp 5) rfl S 49 (Vl.cells { Pr.noVl with kind := 2, pos := (z.pos : Int), type := x.text }).toArray rfl _ HS7.out Tryz.underlying49 rfl size47 ?_) | ((with_reducible show wpList _ _ _ (Oper.mk none (Op.store 49 (Operand.tmp 2) _) _ _ _ _ :: _) _ _); refine wpList_store_bk rfl 49 (.tmp 2) (.tmp 73) rfl A 49 _ (Vl.cells { Pr.noVl with kind := 2, pos := (z.pos : Int), type := x.text }).toArray rfl rfl HK7.out size47 rfl (by simp [Value.oneCell']) ?_; intro wZ hB hF; have HB := hdn hB; have HF' := hdn hF; clear hB hF))
   have hm := HM7.out.far HF'.out HNE.out.1 HNE.out.2
   have hg := grownBy_up HG7.out HF'.out (fun q hq => by injection hq with hq; have := HA.out; omega)
   refine bodyPost_ret (results_cell_row Tryz.results134 _ wZ A 49 (Vl.cells { Pr.noVl with kind := 2, pos := (z.pos : Int), type := x.text }).toArray (0, 0) _ rfl HB.out Tryz.underlying49 rfl size47) rfl ?_
   have hx := HX.out
   have hrr : r = Pr.th (Pa.name l u.go) fun x v => .ok ({ Pr.noVl with kind := 2, pos := ((Pa.sg l u.i).pos : Int), type := x.text }, v) := by
    rw [HR.out, HR0.out]; show Pa.value l u = _; unfold Pa.value; rw [if_pos HI.out]
   have hz := HZ.out _ _ HR0.out
   rw [hrr, ← hz]
   refine ⟨hg, _, _, rfl, ⟨{ Pr.noVl with kind := 2, pos := (z.pos : Int), type := x.text }, rfl, rfl, no_hops⟩, ?_, ?_⟩
   ·intro y v hc
    rcases q : Pa.name l u.go with n | ⟨x1, u1⟩
    ·rw [q] at hc; cases hc
    ·rw [q] at hc; injection hc with hc; injection hc with h3 h4
     rw [← h3, hx x1 u1 q]; rfl
   ·refine hm.more.as _ (.inl ?_)
    show Pr.th (Pa.name l u.go) _ = _
    rcases Pa.name l u.go with n | ⟨x1, u1⟩ <;> rfl
  have HF0 := hdn hf
  have HM4 := hdn hm
  clear hf hm
  go_wp2_with fail
  refine (take_m HC.out ⟨#[105, 110, 112, 117, 116]⟩ (by decide) w4 r0 HM4.out).mono ?_
  rintro en w5 ⟨g5, hh⟩
  have HK5 := hdn (HK4.out.kept g5 HNE.out.1)
  have HS5 := hdn (HS4.out.kept g5 HNS.out.1)
  have HY5 := hdn (HY4.out.kept g5 HGN.out.1)
  have HG5 := hdn (grownBy_tr HG4.out g5)
  clear g5 HM4 HK4 HS4 HG4 HY4
  rcases hh with ⟨rfl, x0, u, hr0, hi, hm⟩ | ⟨rfl, hf, hm⟩
  ·have HR0 := hdn hr0
   have HI := hdn hi
   have HM5 := hdn hm
   clear hr0 hi hm
   have f0 := HS5.out.frozen 0
   have c0 := HS5.out.cell 0
   simp only [List.getElem?_toArray, List.getElem?_cons_zero] at c0
   go_upto_region 17 with fail
   clear f0 c0
   have gs : w5.grownBy (w5.setCell ⟨S, 0, none⟩ (.int .i64 3)) (some S) := grownBy_setC _ ⟨S, 0, none⟩ _
   have HS6 : Hid (Bk (w5.setCell ⟨S, 0, none⟩ (.int .i64 3)) S 49 (Vl.cells { Pr.noVl with kind := 3, pos := (z.pos : Int) }).toArray) := hdn (HS5.out.set_ 0 _)
   have HM6 := hdn (HM5.out.far gs HNS.out.1 HNS.out.2.1)
   have HK6 := hdn (HK5.out.kept gs HNS.out.2.2.1)
   have HY6 := hdn (HY5.out.kept gs HNS.out.2.2.2.2)
   have HG6 := hdn (grownBy_up HG5.out gs (fun q hq => by injection hq with hq; have := HNS.out; omega))
   clear gs HM5 HS5 HK5 HG5 HY5
   generalize (w5.setCell ⟨S, 0, none⟩ (.int .i64 3)) = w6 at HS6 HM6 HK6 HG6 HY6 ⊢
   go_wp2_with (first | ((with_reducible show wpList _ _ _ (Oper.mk (some 73) (Op.load 49 _) _ _ _ _ :: _) _ _); refine wpList_load_bk rfl 49 (.tmp 5) rfl S 49 (Vl.cells { Pr.noVl with kind := 3, pos := (z.pos : Int) }).toArray rfl _ HS6.out Tryz.underlying49 rfl size47 ?_) | ((with_reducible show wpList _ _ _ (Oper.mk none (Op.store 49 (Operand.tmp 2) _) _ _ _ _ :: _) _ _); refine wpList_store_bk rfl 49 (.tmp 2) (.tmp 73) rfl A 49 _ (Vl.cells { Pr.noVl with kind := 3, pos := (z.pos : Int) }).toArray rfl rfl HK6.out size47 rfl (by simp [Value.oneCell']) ?_; intro wZ hB hF; have HB := hdn hB; have HF' := hdn hF; clear hB hF))
   have hm := HM6.out.far HF'.out HNE.out.1 HNE.out.2
   have hg := grownBy_up HG6.out HF'.out (fun q hq => by injection hq with hq; have := HA.out; omega)
   refine bodyPost_ret (results_cell_row Tryz.results134 _ wZ A 49 (Vl.cells { Pr.noVl with kind := 3, pos := (z.pos : Int) }).toArray (0, 0) _ rfl HB.out Tryz.underlying49 rfl size47) rfl ?_
   have hrr : r = .ok ({ Pr.noVl with kind := 3, pos := ((Pa.sg l u.i).pos : Int) }, u.go) := by
    rw [HR.out, HR0.out]; show Pa.value l u = _; unfold Pa.value; rw [if_neg (by rw [HF0.out _ _ HR0.out]; decide), if_pos HI.out]
   have hz := HZ.out _ _ HR0.out
   rw [hrr, ← hz]
   exact ⟨hg, _, _, rfl, ⟨{ Pr.noVl with kind := 3, pos := (z.pos : Int) }, rfl, rfl, no_hops⟩, (fun y v hc => by injection hc with hc; injection hc), hm.more.as _ (.inl rfl)⟩
  have HF1 := hdn hf
  have HM5 := hdn hm
  clear hf hm
  rcases hs : sm z y with _ | _
  ·have HSF := hdn hs
   clear hs
   go_wp2_with fail
   refine (side_m HC.out w5 r0 HM5.out).mono ?_
   rintro en w6 ⟨g6, v6, x, rfl, ⟨y0, hv, hye, hyl⟩, hx, hm⟩
   have hv6 : v6 = .agg y0.cells.toArray := hv
   clear hv
   subst hv6
   have HX := hdn hx
   have HM6 := hdn hm
   have HYE := hdn hye
   have HYL := hdn hyl
   have HLT := hdn (⟨HG5.out.size, HK5.out.lt⟩ : w.heap.size ≤ w5.heap.size ∧ A < w5.heap.size)
   have HK6 := hdn (HK5.out.kept g6 HNE.out.1)
   have HS6 := hdn (HS5.out.kept g6 HNS.out.1)
   have HY6 := hdn (HY5.out.kept g6 HGN.out.1)
   have HG6 := hdn (grownBy_tr HG5.out g6)
   clear hx hm g6 HM5 HK5 HS5 HG5 HY5 hye hyl
   go_wp2_with ((with_reducible show wpList _ _ _ (Oper.mk none (Op.store 49 (Operand.tmp 2) _) _ _ _ _ :: _) _ _); refine wpList_store_bk rfl 49 (.tmp 2) (.tmp 38) rfl A 49 _ (Vl.cells y0).toArray rfl rfl HK6.out size47 rfl (by simp [Value.oneCell']) ?_; intro wZ hB hF; have HB := hdn hB; have HF' := hdn hF; clear hB hF)
   have hx := HX.out
   have hz := HZ.out
   have hf0 := HF0.out
   have hf1 := HF1.out
   have hsm := HSM.out
   have hsf := HSF.out
   have hm := HM6.out.far HF'.out HNE.out.1 HNE.out.2
   have hg := grownBy_up HG6.out HF'.out (fun q hq => by injection hq with hq; have := HA.out; omega)
   refine bodyPost_ret (results_cell_row Tryz.results134 _ wZ A 49 (Vl.cells y0).toArray (0, 0) _ rfl HB.out Tryz.underlying49 rfl size47) rfl ?_
   have hrr : r = Pr.th r0 fun _ u => Pa.side l u := by
    rw [HR.out]
    rcases r0 with n | ⟨x0, u⟩
    ·rfl
    ·show Pa.value l u = Pa.side l u
     unfold Pa.value
     rw [if_neg (by rw [hf0 _ _ rfl]; decide), if_neg (by rw [hf1 _ _ rfl]; decide), if_neg (by rw [← hsm _ _ rfl, hsf]; decide)]
   rw [hrr]
   exact ⟨hg, _, x, rfl, ⟨y0, rfl, HYE.out, vlLies_ext ((fresh_par HF'.out HLT.out.2).trans (fresh_mono HLT.out.1 _)) HYL.out⟩, hx, hm.more⟩
  ·have HSF := hdn hs
   clear hs
   go_upto_region 11 with fail
   have f0 := HS5.out.frozen 0
   have c0 := HS5.out.cell 0
   simp only [List.getElem?_toArray, List.getElem?_cons_zero] at c0
   go_upto_region 12 with fail
   clear f0 c0
   have gs : w5.grownBy (w5.setCell ⟨S, 0, none⟩ (.int .i64 5)) (some S) := grownBy_setC _ ⟨S, 0, none⟩ _
   have HS6 : Hid (Bk (w5.setCell ⟨S, 0, none⟩ (.int .i64 5)) S 49 (Vl.cells { Pr.noVl with kind := 5, pos := (z.pos : Int) }).toArray) := hdn (HS5.out.set_ 0 _)
   have HM6 := hdn (HM5.out.far gs HNS.out.1 HNS.out.2.1)
   have HK6 := hdn (HK5.out.kept gs HNS.out.2.2.1)
   have HY6 := hdn (HY5.out.kept gs HNS.out.2.2.2.2)
   have HG6 := hdn (grownBy_up HG5.out gs (fun q hq => by injection hq with hq; have := HNS.out; omega))
   clear gs HM5 HS5 HK5 HG5 HY5
   generalize (w5.setCell ⟨S, 0, none⟩ (.int .i64 5)) = w6 at HS6 HM6 HK6 HG6 HY6 ⊢
   have t2 : w6.cell? ⟨G, 2, none⟩ = some (.string y.text) := HY6.out.cell 2
   rcases km : (y.text.toList == [45]) with _ | _
   ·have HKM := hdn km
    go_upto_region 14 with fail
    clear km t2
    go_wp2_with fail
    refine (term_m HC.out w6 r0 HM6.out).mono ?_
    rintro en w8 ⟨g8, _, x, rfl, rfl, hx, hm⟩
    have HX := hdn hx
    have HM8 := hdn hm
    have HK8 := hdn (HK6.out.kept g8 HNE.out.1)
    have HS8 := hdn (HS6.out.kept g8 HNS.out.1)
    have HY8 := hdn (HY6.out.kept g8 HGN.out.1)
    have HG8 := hdn (grownBy_tr HG6.out g8)
    clear hx hm g8 HM6 HK6 HS6 HG6 HY6
    have f6 := HS8.out.frozen 6
    have c6 := HS8.out.cell 6
    have f7 := HS8.out.frozen 7
    have c7 := HS8.out.cell 7
    have f8 := HS8.out.frozen 8
    have c8 := HS8.out.cell 8
    simp only [List.getElem?_toArray, List.getElem?_cons_zero, List.getElem?_cons_succ] at c6 c7 c8
    go_upto_region 15 with fail
    clear f6 c6 f7 c7 f8 c8
    have gs : w8.grownBy (((w8.setCell ⟨S, 6, none⟩ (.string x.name)).setCell ⟨S, 7, none⟩ (.int .i64 x.n)).setCell ⟨S, 8, none⟩ (.int .i64 x.pos)) (some S) := grownBy_tr (grownBy_tr (grownBy_setC _ ⟨S, 6, none⟩ _) (grownBy_setC _ ⟨S, 7, none⟩ _)) (grownBy_setC _ ⟨S, 8, none⟩ _)
    have HS9 : Hid (Bk (((w8.setCell ⟨S, 6, none⟩ (.string x.name)).setCell ⟨S, 7, none⟩ (.int .i64 x.n)).setCell ⟨S, 8, none⟩ (.int .i64 x.pos)) S 49 (Vl.cells { Pr.noVl with kind := 5, pos := (z.pos : Int), left := x }).toArray) := hdn (((HS8.out.set_ 6 _).set_ 7 _).set_ 8 _)
    have HM9 := hdn (HM8.out.far gs HNS.out.1 HNS.out.2.1)
    have HK9 := hdn (HK8.out.kept gs HNS.out.2.2.1)
    have HY9 := hdn (HY8.out.kept gs HNS.out.2.2.2.2)
    have HG9 := hdn (grownBy_up HG8.out gs (fun q hq => by injection hq with hq; have := HNS.out; omega))
    clear gs HM8 HS8 HK8 HG8 HY8
    generalize (((w8.setCell ⟨S, 6, none⟩ (.string x.name)).setCell ⟨S, 7, none⟩ (.int .i64 x.n)).setCell ⟨S, 8, none⟩ (.int .i64 x.pos)) = w9 at HS9 HM9 HK9 HG9 HY9 ⊢
    obtain ⟨k, c1, f1, hk2, hm⟩ := HM9.out.bump HC.out (by
     intro x' u' hc
     have hsm := HSM.out
     have hsf := HSF.out
     have hi0 := HI0.out
     rcases r0 with n | ⟨x0, u⟩
     ·cases hc
     ·exact (sums_more HC.out (hi0 x0 u rfl) (by rw [← hsm x0 u rfl, hsf]) hc).2.1)
    have HM10 := hdn hm
    have hk0 : (0 : Int) ≤ (k : Int) := Int.natCast_nonneg _
    have g10 : w9.grownBy (w9.setCell ⟨rb, 1, none⟩ (.int .i64 ((k : Int) + 1))) (some rb) := grownBy_setC w9 ⟨rb, 1, none⟩ _
    have HK10 := hdn (HK9.out.kept g10 HNE.out.1)
    have HS10 := hdn (HS9.out.kept g10 HNS.out.1)
    have HY10 := hdn (HY9.out.kept g10 HGN.out.1)
    have HG10 := hdn (grownBy_tr HG9.out g10)
    clear hm g10 HM9 HK9 HS9 HG9 HY9
    go_upto_region 16 with fail
    clear c1 f1 hk2 hk0
    generalize w9.setCell ⟨rb, 1, none⟩ (.int .i64 ((k : Int) + 1)) = w10 at HM10 HK10 HS10 HG10 HY10 ⊢
    go_wp2_with fail
    refine (term_m HC2.out w10 _ HM10.out).mono ?_
    rintro en w11 ⟨g11, _, x2, rfl, rfl, hx, hm⟩
    have HX2 := hdn hx
    have HM11 := hdn hm
    have HK11 := hdn (HK10.out.kept g11 HNE.out.1)
    have HS11 := hdn (HS10.out.kept g11 HNS.out.1)
    have HY11 := hdn (HY10.out.kept g11 HGN.out.1)
    have HG11 := hdn (grownBy_tr HG10.out g11)
    clear hx hm g11 HM10 HK10 HS10 HG10 HY10
    have f9 := HS11.out.frozen 9
    have c9 := HS11.out.cell 9
    have f10 := HS11.out.frozen 10
    have c10 := HS11.out.cell 10
    have f11 := HS11.out.frozen 11
    have c11 := HS11.out.cell 11
    simp only [List.getElem?_toArray, List.getElem?_cons_zero, List.getElem?_cons_succ] at c9 c10 c11
    go_upto_region 17 with fail
    clear f9 c9 f10 c10 f11 c11
    have gs : w11.grownBy (((w11.setCell ⟨S, 9, none⟩ (.string x2.name)).setCell ⟨S, 10, none⟩ (.int .i64 x2.n)).setCell ⟨S, 11, none⟩ (.int .i64 x2.pos)) (some S) := grownBy_tr (grownBy_tr (grownBy_setC _ ⟨S, 9, none⟩ _) (grownBy_setC _ ⟨S, 10, none⟩ _)) (grownBy_setC _ ⟨S, 11, none⟩ _)
    have HS12 : Hid (Bk (((w11.setCell ⟨S, 9, none⟩ (.string x2.name)).setCell ⟨S, 10, none⟩ (.int .i64 x2.n)).setCell ⟨S, 11, none⟩ (.int .i64 x2.pos)) S 49 (Vl.cells { Pr.noVl with kind := 5, pos := (z.pos : Int), left := x, right := x2 }).toArray) := hdn (((HS11.out.set_ 9 _).set_ 10 _).set_ 11 _)
    have HM12 := hdn (HM11.out.far gs HNS.out.1 HNS.out.2.1)
    have HK12 := hdn (HK11.out.kept gs HNS.out.2.2.1)
    have HY12 := hdn (HY11.out.kept gs HNS.out.2.2.2.2)
    have HG12 := hdn (grownBy_up HG11.out gs (fun q hq => by injection hq with hq; have := HNS.out; omega))
    clear gs HM11 HS11 HK11 HG11 HY11
    generalize (((w11.setCell ⟨S, 9, none⟩ (.string x2.name)).setCell ⟨S, 10, none⟩ (.int .i64 x2.n)).setCell ⟨S, 11, none⟩ (.int .i64 x2.pos)) = w12 at HS12 HM12 HK12 HG12 HY12 ⊢
    go_wp2_with (first | ((with_reducible show wpList _ _ _ (Oper.mk (some 73) (Op.load 49 _) _ _ _ _ :: _) _ _); refine wpList_load_bk rfl 49 (.tmp 5) rfl S 49 (Vl.cells { Pr.noVl with kind := 5, pos := (z.pos : Int), left := x, right := x2 }).toArray rfl _ HS12.out Tryz.underlying49 rfl size47 ?_) | ((with_reducible show wpList _ _ _ (Oper.mk none (Op.store 49 (Operand.tmp 2) _) _ _ _ _ :: _) _ _); refine wpList_store_bk rfl 49 (.tmp 2) (.tmp 73) rfl A 49 _ (Vl.cells { Pr.noVl with kind := 5, pos := (z.pos : Int), left := x, right := x2 }).toArray rfl rfl HK12.out size47 rfl (by simp [Value.oneCell']) ?_; intro wZ hB hF; have HB := hdn hB; have HF' := hdn hF; clear hB hF))
    have hm := HM12.out.far HF'.out HNE.out.1 HNE.out.2
    have hg := grownBy_up HG12.out HF'.out (fun q hq => by injection hq with hq; have := HA.out; omega)
    refine bodyPost_ret (results_cell_row Tryz.results134 _ wZ A 49 (Vl.cells { Pr.noVl with kind := 5, pos := (z.pos : Int), left := x, right := x2 }).toArray (0, 0) _ rfl HB.out Tryz.underlying49 rfl size47) rfl ?_
    have hx := HX.out
    have hx2 := HX2.out
    have hz := HZ.out
    have hy := HY.out
    have hf0 := HF0.out
    have hf1 := HF1.out
    have hsm := HSM.out
    have hsf := HSF.out
    have hi0 := HI0.out
    have hkm := HKM.out
    rw [HR.out]
    clear HX HX2 HZ HY HF0 HF1 HSM HSF HI0 HM12 HR
    rcases r0 with n | ⟨x0, u⟩
    ·exact ⟨hg, _, _, rfl, ⟨{ Pr.noVl with kind := 5, pos := (z.pos : Int), left := x, right := x2 }, rfl, rfl, no_hops⟩, (by intro y v hc; cases hc), hm⟩
    have hvl : Pr.th (.ok (x0, u)) (fun _ u => Pa.value l u) = Pa.sum l u := by
     show Pa.value l u = Pa.sum l u
     unfold Pa.value
     rw [if_neg (by rw [hf0 _ _ rfl]; decide), if_neg (by rw [hf1 _ _ rfl]; decide), if_pos (by rw [← hsm _ _ rfl, hsf])]
    rw [hvl]
    unfold Pa.sum
    refine ⟨hg, _, _, rfl, ⟨{ Pr.noVl with kind := 5, pos := (z.pos : Int), left := x, right := x2 }, rfl, rfl, no_hops⟩, ?_, ?_⟩
    ·intro y' v hc
     rcases q : Pa.term l u with n | ⟨x1, u1⟩
     ·rw [q] at hc; cases hc
     ·rw [q] at hc
      have hs3 := sums_more HC.out (hi0 x0 u rfl) (by rw [← hsm x0 u rfl, hsf]) q
      change Pr.th (Pa.term l u1.go) _ = _ at hc
      rcases q2 : Pa.term l u1.go with n | ⟨x3, u3⟩
      ·rw [q2] at hc; cases hc
      ·rw [q2] at hc; injection hc with hc; injection hc with h3 h4
       rw [← h3, hx x1 u1 q, hx2 x3 u3 (by show Pr.th (Pr.th (Pa.term l u) _) _ = _; rw [q]; exact q2), hz x0 u rfl, hs3.2.2, ← hy x0 u rfl, hkm]; rfl
    ·refine hm.as _ (.inl ?_)
     show Pr.th (Pr.th (Pr.th (Pa.term l u) _) _) _ = _
     rcases Pa.term l u with n | ⟨x1, u1⟩
     ·rfl
     ·show Pr.th (Pa.term l u1.go) _ = Pr.th (Pr.th (Pa.term l u1.go) _) _
      rcases Pa.term l u1.go with n | ⟨x3, u3⟩ <;> rfl
   ·have HKM := hdn km
    go_upto_region 13 with fail
    clear km t2
    have f0 := HS6.out.frozen 0
    have c0 := HS6.out.cell 0
    simp only [List.getElem?_toArray, List.getElem?_cons_zero] at c0
    go_upto_region 14 with fail
    clear f0 c0
    have gs : w6.grownBy (w6.setCell ⟨S, 0, none⟩ (.int .i64 6)) (some S) := grownBy_setC _ ⟨S, 0, none⟩ _
    have HS7 : Hid (Bk (w6.setCell ⟨S, 0, none⟩ (.int .i64 6)) S 49 (Vl.cells { Pr.noVl with kind := 6, pos := (z.pos : Int) }).toArray) := hdn (HS6.out.set_ 0 _)
    have HM7 := hdn (HM6.out.far gs HNS.out.1 HNS.out.2.1)
    have HK7 := hdn (HK6.out.kept gs HNS.out.2.2.1)
    have HY7 := hdn (HY6.out.kept gs HNS.out.2.2.2.2)
    have HG7 := hdn (grownBy_up HG6.out gs (fun q hq => by injection hq with hq; have := HNS.out; omega))
    clear gs HM6 HS6 HK6 HG6 HY6
    generalize (w6.setCell ⟨S, 0, none⟩ (.int .i64 6)) = w7 at HS7 HM7 HK7 HG7 HY7 ⊢
    go_wp2_with fail
    refine (term_m HC.out w7 r0 HM7.out).mono ?_
    rintro en w8 ⟨g8, _, x, rfl, rfl, hx, hm⟩
    have HX := hdn hx
    have HM8 := hdn hm
    have HK8 := hdn (HK7.out.kept g8 HNE.out.1)
    have HS8 := hdn (HS7.out.kept g8 HNS.out.1)
    have HY8 := hdn (HY7.out.kept g8 HGN.out.1)
    have HG8 := hdn (grownBy_tr HG7.out g8)
    clear hx hm g8 HM7 HK7 HS7 HG7 HY7
    have f6 := HS8.out.frozen 6
    have c6 := HS8.out.cell 6
    have f7 := HS8.out.frozen 7
    have c7 := HS8.out.cell 7
    have f8 := HS8.out.frozen 8
    have c8 := HS8.out.cell 8
    simp only [List.getElem?_toArray, List.getElem?_cons_zero, List.getElem?_cons_succ] at c6 c7 c8
    go_upto_region 15 with fail
    clear f6 c6 f7 c7 f8 c8
    have gs : w8.grownBy (((w8.setCell ⟨S, 6, none⟩ (.string x.name)).setCell ⟨S, 7, none⟩ (.int .i64 x.n)).setCell ⟨S, 8, none⟩ (.int .i64 x.pos)) (some S) := grownBy_tr (grownBy_tr (grownBy_setC _ ⟨S, 6, none⟩ _) (grownBy_setC _ ⟨S, 7, none⟩ _)) (grownBy_setC _ ⟨S, 8, none⟩ _)
    have HS9 : Hid (Bk (((w8.setCell ⟨S, 6, none⟩ (.string x.name)).setCell ⟨S, 7, none⟩ (.int .i64 x.n)).setCell ⟨S, 8, none⟩ (.int .i64 x.pos)) S 49 (Vl.cells { Pr.noVl with kind := 6, pos := (z.pos : Int), left := x }).toArray) := hdn (((HS8.out.set_ 6 _).set_ 7 _).set_ 8 _)
    have HM9 := hdn (HM8.out.far gs HNS.out.1 HNS.out.2.1)
    have HK9 := hdn (HK8.out.kept gs HNS.out.2.2.1)
    have HY9 := hdn (HY8.out.kept gs HNS.out.2.2.2.2)
    have HG9 := hdn (grownBy_up HG8.out gs (fun q hq => by injection hq with hq; have := HNS.out; omega))
    clear gs HM8 HS8 HK8 HG8 HY8
    generalize (((w8.setCell ⟨S, 6, none⟩ (.string x.name)).setCell ⟨S, 7, none⟩ (.int .i64 x.n)).setCell ⟨S, 8, none⟩ (.int .i64 x.pos)) = w9 at HS9 HM9 HK9 HG9 HY9 ⊢
    obtain ⟨k, c1, f1, hk2, hm⟩ := HM9.out.bump HC.out (by
     intro x' u' hc
     have hsm := HSM.out
     have hsf := HSF.out
     have hi0 := HI0.out
     rcases r0 with n | ⟨x0, u⟩
     ·cases hc
     ·exact (sums_more HC.out (hi0 x0 u rfl) (by rw [← hsm x0 u rfl, hsf]) hc).2.1)
    have HM10 := hdn hm
    have hk0 : (0 : Int) ≤ (k : Int) := Int.natCast_nonneg _
    have g10 : w9.grownBy (w9.setCell ⟨rb, 1, none⟩ (.int .i64 ((k : Int) + 1))) (some rb) := grownBy_setC w9 ⟨rb, 1, none⟩ _
    have HK10 := hdn (HK9.out.kept g10 HNE.out.1)
    have HS10 := hdn (HS9.out.kept g10 HNS.out.1)
    have HY10 := hdn (HY9.out.kept g10 HGN.out.1)
    have HG10 := hdn (grownBy_tr HG9.out g10)
    clear hm g10 HM9 HK9 HS9 HG9 HY9
    go_upto_region 16 with fail
    clear c1 f1 hk2 hk0
    generalize w9.setCell ⟨rb, 1, none⟩ (.int .i64 ((k : Int) + 1)) = w10 at HM10 HK10 HS10 HG10 HY10 ⊢
    go_wp2_with fail
    refine (term_m HC2.out w10 _ HM10.out).mono ?_
    rintro en w11 ⟨g11, _, x2, rfl, rfl, hx, hm⟩
    have HX2 := hdn hx
    have HM11 := hdn hm
    have HK11 := hdn (HK10.out.kept g11 HNE.out.1)
    have HS11 := hdn (HS10.out.kept g11 HNS.out.1)
    have HY11 := hdn (HY10.out.kept g11 HGN.out.1)
    have HG11 := hdn (grownBy_tr HG10.out g11)
    clear hx hm g11 HM10 HK10 HS10 HG10 HY10
    have f9 := HS11.out.frozen 9
    have c9 := HS11.out.cell 9
    have f10 := HS11.out.frozen 10
    have c10 := HS11.out.cell 10
    have f11 := HS11.out.frozen 11
    have c11 := HS11.out.cell 11
    simp only [List.getElem?_toArray, List.getElem?_cons_zero, List.getElem?_cons_succ] at c9 c10 c11
    go_upto_region 17 with fail
    clear f9 c9 f10 c10 f11 c11
    have gs : w11.grownBy (((w11.setCell ⟨S, 9, none⟩ (.string x2.name)).setCell ⟨S, 10, none⟩ (.int .i64 x2.n)).setCell ⟨S, 11, none⟩ (.int .i64 x2.pos)) (some S) := grownBy_tr (grownBy_tr (grownBy_setC _ ⟨S, 9, none⟩ _) (grownBy_setC _ ⟨S, 10, none⟩ _)) (grownBy_setC _ ⟨S, 11, none⟩ _)
    have HS12 : Hid (Bk (((w11.setCell ⟨S, 9, none⟩ (.string x2.name)).setCell ⟨S, 10, none⟩ (.int .i64 x2.n)).setCell ⟨S, 11, none⟩ (.int .i64 x2.pos)) S 49 (Vl.cells { Pr.noVl with kind := 6, pos := (z.pos : Int), left := x, right := x2 }).toArray) := hdn (((HS11.out.set_ 9 _).set_ 10 _).set_ 11 _)
    have HM12 := hdn (HM11.out.far gs HNS.out.1 HNS.out.2.1)
    have HK12 := hdn (HK11.out.kept gs HNS.out.2.2.1)
    have HY12 := hdn (HY11.out.kept gs HNS.out.2.2.2.2)
    have HG12 := hdn (grownBy_up HG11.out gs (fun q hq => by injection hq with hq; have := HNS.out; omega))
    clear gs HM11 HS11 HK11 HG11 HY11
    generalize (((w11.setCell ⟨S, 9, none⟩ (.string x2.name)).setCell ⟨S, 10, none⟩ (.int .i64 x2.n)).setCell ⟨S, 11, none⟩ (.int .i64 x2.pos)) = w12 at HS12 HM12 HK12 HG12 HY12 ⊢
    go_wp2_with (first | ((with_reducible show wpList _ _ _ (Oper.mk (some 73) (Op.load 49 _) _ _ _ _ :: _) _ _); refine wpList_load_bk rfl 49 (.tmp 5) rfl S 49 (Vl.cells { Pr.noVl with kind := 6, pos := (z.pos : Int), left := x, right := x2 }).toArray rfl _ HS12.out Tryz.underlying49 rfl size47 ?_) | ((with_reducible show wpList _ _ _ (Oper.mk none (Op.store 49 (Operand.tmp 2) _) _ _ _ _ :: _) _ _); refine wpList_store_bk rfl 49 (.tmp 2) (.tmp 73) rfl A 49 _ (Vl.cells { Pr.noVl with kind := 6, pos := (z.pos : Int), left := x, right := x2 }).toArray rfl rfl HK12.out size47 rfl (by simp [Value.oneCell']) ?_; intro wZ hB hF; have HB := hdn hB; have HF' := hdn hF; clear hB hF))
    have hm := HM12.out.far HF'.out HNE.out.1 HNE.out.2
    have hg := grownBy_up HG12.out HF'.out (fun q hq => by injection hq with hq; have := HA.out; omega)
    refine bodyPost_ret (results_cell_row Tryz.results134 _ wZ A 49 (Vl.cells { Pr.noVl with kind := 6, pos := (z.pos : Int), left := x, right := x2 }).toArray (0, 0) _ rfl HB.out Tryz.underlying49 rfl size47) rfl ?_
    have hx := HX.out
    have hx2 := HX2.out
    have hz := HZ.out
    have hy := HY.out
    have hf0 := HF0.out
    have hf1 := HF1.out
    have hsm := HSM.out
    have hsf := HSF.out
    have hi0 := HI0.out
    have hkm := HKM.out
    rw [HR.out]
    clear HX HX2 HZ HY HF0 HF1 HSM HSF HI0 HM12 HR
    rcases r0 with n | ⟨x0, u⟩
    ·exact ⟨hg, _, _, rfl, ⟨{ Pr.noVl with kind := 6, pos := (z.pos : Int), left := x, right := x2 }, rfl, rfl, no_hops⟩, (by intro y v hc; cases hc), hm⟩
    have hvl : Pr.th (.ok (x0, u)) (fun _ u => Pa.value l u) = Pa.sum l u := by
     show Pa.value l u = Pa.sum l u
     unfold Pa.value
     rw [if_neg (by rw [hf0 _ _ rfl]; decide), if_neg (by rw [hf1 _ _ rfl]; decide), if_pos (by rw [← hsm _ _ rfl, hsf])]
    rw [hvl]
    unfold Pa.sum
    refine ⟨hg, _, _, rfl, ⟨{ Pr.noVl with kind := 6, pos := (z.pos : Int), left := x, right := x2 }, rfl, rfl, no_hops⟩, ?_, ?_⟩
    ·intro y' v hc
     rcases q : Pa.term l u with n | ⟨x1, u1⟩
     ·rw [q] at hc; cases hc
     ·rw [q] at hc
      have hs3 := sums_more HC.out (hi0 x0 u rfl) (by rw [← hsm x0 u rfl, hsf]) q
      change Pr.th (Pa.term l u1.go) _ = _ at hc
      rcases q2 : Pa.term l u1.go with n | ⟨x3, u3⟩
      ·rw [q2] at hc; cases hc
      ·rw [q2] at hc; injection hc with hc; injection hc with h3 h4
       rw [← h3, hx x1 u1 q, hx2 x3 u3 (by show Pr.th (Pr.th (Pa.term l u) _) _ = _; rw [q]; exact q2), hz x0 u rfl, hs3.2.2, ← hy x0 u rfl, hkm]; rfl
    ·refine hm.as _ (.inl ?_)
     show Pr.th (Pr.th (Pr.th (Pa.term l u) _) _) _ = _
     rcases Pa.term l u with n | ⟨x1, u1⟩
     ·rfl
     ·show Pr.th (Pa.term l u1.go) _ = Pr.th (Pr.th (Pa.term l u1.go) _) _
      rcases Pa.term l u1.go with n | ⟨x3, u3⟩ <;> rfl
end
end Go.Proofs.YtdlchhimkelinaaGreatDoor
namespace Go.Proofs.YtdlchhimkelinaaGreatDoor
open Go.RowKit Go.Sort
attribute [local go_sem] field72_0 field72_1 field72_2 field72_3
/-- A value, addresses struck, places kept. -/
def Vl.pl (x : Vl) : Vl := { x with path := ⟨x.path.name, x.path.pos, ⟨none, 0, x.path.hops.l⟩⟩ }
def qCd : Kd Cd := ⟨51, 26, 304, Cd.cells, fun x => ⟨x.kind, x.pos, x.left.pl, x.right.pl⟩, fun w x => vlLies w x.left ∧ vlLies w x.right, fun _ => rfl, fun _ => by simp [Value.oneCell'], fun _ h k => ⟨vlLies_ext h k.1, vlLies_ext h k.2⟩⟩
section
variable {α : Type} {rb sb cap : Nat} {l : List Tx.Sg} {o : Int} {N : Nat}
theorem cond_fin {β : Type} {r0 : Pr.Res α} {rR : Pr.Res β} {k : Int} {z : Tx.Sg} {x1 x2 : Vl} (hf : ∀ x u, r0 = .ok (x, u) → Pr.is (Pa.ts l) u.i ⟨#[63]⟩ = false) (hz : ∀ x u, r0 = .ok (x, u) → z = Pa.sg l u.i)
  (hx1 : ∀ y u, (Pr.th r0 fun _ u => Pa.side l u) = .ok (y, u) → x1 = y) (hrel : (Pr.th (Pr.th r0 fun _ u => Pa.side l u) fun _ u => Pr.relation (Pa.ts l) u) = Pr.th rR fun _ u => .ok (k, u))
  (hx2 : ∀ y u, (Pr.th rR fun _ u => Pa.side l u) = .ok (y, u) → x2 = y) :
  (∀ c v, (Pr.th r0 fun _ u => Pa.cond l u) = .ok (c, v) → (⟨k, z.pos, x1, x2⟩ : Cd) = c) ∧
  ((Pr.th (Pr.th rR fun _ u => Pa.side l u) fun _ u => .ok ((), u)) = (Pr.th (Pr.th r0 fun _ u => Pa.cond l u) fun _ u => .ok ((), u)) ∨ ((∃ n, (Pr.th rR fun _ u => Pa.side l u) = .error n) ∧ ∃ n, (Pr.th r0 fun _ u => Pa.cond l u) = .error n)) := by
 have herr : ∀ n, (.error n : Pr.Res Int) = (Pr.th rR fun _ u => .ok (k, u)) → ∃ m, rR = .error m := by
  intro n hn; rcases rR with m | ⟨y, u⟩
  ·exact ⟨m, rfl⟩
  ·cases hn
 rcases r0 with n | ⟨x0, u⟩
 ·obtain ⟨m, rfl⟩ := herr n hrel
  exact ⟨(by intro c v hc; cases hc), .inr ⟨⟨m, rfl⟩, ⟨n, rfl⟩⟩⟩
 have hv : (Pr.th (Except.ok (x0, u)) fun _ u => Pa.cond l u) = Pr.th (Pa.side l u) fun x v => Pr.th (Pr.relation (Pa.ts l) v) fun k v => Pr.th (Pa.side l v) fun y v => .ok (⟨k, (Pa.sg l u.i).pos, x, y⟩, v) := by
  show Pa.cond l u = _; unfold Pa.cond; rw [if_neg (by rw [hf _ _ rfl]; decide)]
 rw [hv]
 change (Pr.th (Pa.side l u) _) = _ at hrel
 change ∀ y v, Pa.side l u = .ok (y, v) → x1 = y at hx1
 rcases q1 : Pa.side l u with n | ⟨y1, u1⟩
 ·rw [q1] at hrel
  obtain ⟨m, rfl⟩ := herr n hrel
  exact ⟨(by intro c v hc; cases hc), .inr ⟨⟨m, rfl⟩, ⟨n, rfl⟩⟩⟩
 rw [q1] at hrel
 change Pr.relation (Pa.ts l) u1 = _ at hrel
 show (∀ c v, (Pr.th (Pr.relation (Pa.ts l) u1) _) = _ → _) ∧ (_ = Pr.th (Pr.th (Pr.relation (Pa.ts l) u1) _) _ ∨ (_ ∧ ∃ n, Pr.th (Pr.relation (Pa.ts l) u1) _ = _))
 rw [hrel]
 rcases rR with n | ⟨b, u2⟩
 ·exact ⟨(by intro c v hc; cases hc), .inr ⟨⟨n, rfl⟩, ⟨n, rfl⟩⟩⟩
 change ∀ y v, Pa.side l u2 = .ok (y, v) → x2 = y at hx2
 show (∀ c v, (Pr.th (Pa.side l u2) _) = _ → _) ∧ (Pr.th (Pa.side l u2) _ = Pr.th (Pr.th (Pa.side l u2) _) _ ∨ _)
 rcases q2 : Pa.side l u2 with n | ⟨y2, u3⟩
 ·exact ⟨(by intro c v hc; cases hc), .inl rfl⟩
 ·refine ⟨?_, .inl rfl⟩
  intro c v hc
  injection hc with hc; injection hc with h3 h4
  rw [← h3, hx1 y1 u1 q1, hx2 y2 u3 q2, hz x0 u rfl]
theorem cond_m (C : RC l N) (w : World) (r0 : Pr.Res α) (h : RM w rb sb cap l o N r0) :
  Calls Tryz.prog 132 #[.pointer (some ⟨rb, 0, none⟩)] w (RP (qCd.Val w.heap.size) w rb sb cap l o N (Pr.th r0 fun _ u => Pa.cond l u)) := by
 have HC := hdn C
 obtain ⟨r, hr⟩ : ∃ r, r = Pr.th r0 fun _ u => Pa.cond l u := ⟨_, rfl⟩
 rw [← hr]
 have HR := hdn hr
 have hn : Below w.heap.size w (w.alloc (.cells #[.int .i64 0, .int .i64 0, .int .i64 0, .int .i64 0, .string ByteArray.empty, .int .i64 0, .slice none 0 0, .string ByteArray.empty, .string ByteArray.empty, .int .i64 0, .int .i64 0, .string ByteArray.empty, .int .i64 0, .int .i64 0, .int .i64 0, .int .i64 0, .string ByteArray.empty, .int .i64 0, .slice none 0 0, .string ByteArray.empty, .string ByteArray.empty, .int .i64 0, .int .i64 0, .string ByteArray.empty, .int .i64 0, .int .i64 0] 51)) := (Below.refl _ _).alloc (Nat.le_refl _) _
 have HM := hdn (h.below hn)
 have HK : Hid (Bk (w.alloc (.cells #[.int .i64 0, .int .i64 0, .int .i64 0, .int .i64 0, .string ByteArray.empty, .int .i64 0, .slice none 0 0, .string ByteArray.empty, .string ByteArray.empty, .int .i64 0, .int .i64 0, .string ByteArray.empty, .int .i64 0, .int .i64 0, .int .i64 0, .int .i64 0, .string ByteArray.empty, .int .i64 0, .slice none 0 0, .string ByteArray.empty, .string ByteArray.empty, .int .i64 0, .int .i64 0, .string ByteArray.empty, .int .i64 0, .int .i64 0] 51)) w.heap.size 51 (Cd.cells Pr.noCd).toArray) := hdn (heap_alloc_new _ _)
 have HNE : Hid (w.heap.size ≠ rb ∧ w.heap.size ≠ sb) := hdn ⟨by have := h.rb_lt; omega, by have := h.sb_lt; omega⟩
 have HG : Hid (w.grownBy (w.alloc (.cells #[.int .i64 0, .int .i64 0, .int .i64 0, .int .i64 0, .string ByteArray.empty, .int .i64 0, .slice none 0 0, .string ByteArray.empty, .string ByteArray.empty, .int .i64 0, .int .i64 0, .string ByteArray.empty, .int .i64 0, .int .i64 0, .int .i64 0, .int .i64 0, .string ByteArray.empty, .int .i64 0, .slice none 0 0, .string ByteArray.empty, .string ByteArray.empty, .int .i64 0, .int .i64 0, .string ByteArray.empty, .int .i64 0, .int .i64 0] 51)) (some rb)) := hdn (grownBy_of hn _)
 generalize hwA : w.alloc (.cells #[.int .i64 0, .int .i64 0, .int .i64 0, .int .i64 0, .string ByteArray.empty, .int .i64 0, .slice none 0 0, .string ByteArray.empty, .string ByteArray.empty, .int .i64 0, .int .i64 0, .string ByteArray.empty, .int .i64 0, .int .i64 0, .int .i64 0, .int .i64 0, .string ByteArray.empty, .int .i64 0, .slice none 0 0, .string ByteArray.empty, .string ByteArray.empty, .int .i64 0, .int .i64 0, .string ByteArray.empty, .int .i64 0, .int .i64 0] 51) = wA at HM HK HG
 clear h hr hn
 go_enter Tryz.func132, Tryz.ntmps132
 go_upto_region 1 with fail
 rw [show w.alloc (.cells #[.int .i64 0, .int .i64 0, .int .i64 0, .int .i64 0, .string ⟨#[]⟩, .int .i64 0, .slice none 0 0, .string ⟨#[]⟩, .string ⟨#[]⟩, .int .i64 0, .int .i64 0, .string ⟨#[]⟩, .int .i64 0, .int .i64 0, .int .i64 0, .int .i64 0, .string ⟨#[]⟩, .int .i64 0, .slice none 0 0, .string ⟨#[]⟩, .string ⟨#[]⟩, .int .i64 0, .int .i64 0, .string ⟨#[]⟩, .int .i64 0, .int .i64 0] 51) = wA from hwA]
 clear hwA
 obtain ⟨A, hA⟩ : ∃ A, A = w.heap.size := ⟨_, rfl⟩
 have HA := hdn hA
 rw [← hA] at HK HNE ⊢
 clear hA
 go_wp2_with fail
 refine (now_m wA r0 HM.out).mono ?_
 rintro en w2 ⟨hb, z, rfl, hz⟩
 have HZ := hdn hz
 have HM2 := hdn (HM.out.below hb); have HK2 := hdn (HK.out.below hb HK.out.lt); have HG2 := hdn (grownBy_below HG.out hb)
 clear hb hz HM HK HG
 go_upto_region 2 with (first | ((with_reducible show wpList _ _ _ (Oper.mk none (Op.store 51 _ _) _ _ _ _ :: _) _ _); refine wpList_store_new rfl 51 (.tmp 3) (.tmp 7) rfl _ #[.int .i64 0, .int .i64 z.pos, .int .i64 0, .int .i64 0, .string ⟨#[]⟩, .int .i64 0, .slice none 0 0, .string ⟨#[]⟩, .string ⟨#[]⟩, .int .i64 0, .int .i64 0, .string ⟨#[]⟩, .int .i64 0, .int .i64 0, .int .i64 0, .int .i64 0, .string ⟨#[]⟩, .int .i64 0, .slice none 0 0, .string ⟨#[]⟩, .string ⟨#[]⟩, .int .i64 0, .int .i64 0, .string ⟨#[]⟩, .int .i64 0, .int .i64 0] rfl rfl size49 rfl (kCd.one { Pr.noCd with pos := (z.pos : Int) }) ?_))
 change Code.wp _ _ _ _ (w2.alloc (.cells (Cd.cells { Pr.noCd with pos := (z.pos : Int) }).toArray 51))
 have hm : Below w2.heap.size w2 (w2.alloc (.cells (Cd.cells { Pr.noCd with pos := (z.pos : Int) }).toArray 51)) := (Below.refl _ _).alloc (Nat.le_refl _) _
 have HM3 := hdn (HM2.out.below hm)
 have HK3 := hdn (HK2.out.below hm HK2.out.lt)
 have HS3 : Hid (Bk (w2.alloc (.cells (Cd.cells { Pr.noCd with pos := (z.pos : Int) }).toArray 51)) w2.heap.size 51 (Cd.cells { Pr.noCd with pos := (z.pos : Int) }).toArray) := hdn (heap_alloc_new _ _)
 have HG3 := hdn (grownBy_below HG2.out hm)
 have HNS : Hid (w2.heap.size ≠ rb ∧ w2.heap.size ≠ sb ∧ A ≠ w2.heap.size ∧ w.heap.size ≤ w2.heap.size) := hdn ⟨by have := HM2.out.rb_lt; omega, by have := HM2.out.sb_lt; omega, by have := HK2.out.lt; omega, HG2.out.size⟩
 generalize w2.alloc (.cells (Cd.cells { Pr.noCd with pos := (z.pos : Int) }).toArray 51) = w3 at HM3 HK3 HS3 HG3 ⊢
 clear hm HM2 HK2 HG2
 generalize w2.heap.size = S at *
 obtain ⟨c1, hc1⟩ : ∃ c1 : Cd, c1 = { Pr.noCd with pos := (z.pos : Int) } := ⟨_, rfl⟩
 have HC1 := hdn hc1
 rw [← hc1] at HS3
 clear hc1
 go_wp2_with fail
 refine (take_m HC.out ⟨#[63]⟩ (by decide) w3 r0 HM3.out).mono ?_
 rintro en w4 ⟨g4, hh⟩
 have HK4 := hdn (HK3.out.kept g4 HNE.out.1)
 have HS4 := hdn (HS3.out.kept g4 HNS.out.1)
 have HG4 := hdn (grownBy_tr HG3.out g4)
 clear g4 HM3 HK3 HS3 HG3
 rcases hh with ⟨rfl, x0, u, hr0, hi, hm⟩ | ⟨rfl, hf, hm⟩
 ·have HR0 := hdn hr0
  have HI := hdn hi
  have HM4 := hdn hm
  clear hr0 hi hm
  go_wp2_with (first | ((with_reducible show wpList _ _ _ (Oper.mk (some _) (Op.load 51 _) _ _ _ _ :: _) _ _); refine wpList_load_bk rfl 51 (.tmp 3) rfl S 51 (Cd.cells c1).toArray rfl _ HS4.out Tryz.underlying51 rfl size49 ?_) | ((with_reducible show wpList _ _ _ (Oper.mk none (Op.store 51 (Operand.tmp 2) _) _ _ _ _ :: _) _ _); refine wpList_store_bk rfl 51 (.tmp 2) _ rfl A 51 _ (Cd.cells c1).toArray rfl rfl HK4.out size49 rfl (kCd.one _) ?_; intro wZ hB hF; have HB := hdn hB; have HF' := hdn hF; clear hB hF))
  have hm := HM4.out.far HF'.out HNE.out.1 HNE.out.2
  have hg := grownBy_up HG4.out HF'.out (fun q hq => by injection hq with hq; have := HA.out; omega)
  refine bodyPost_ret (results_cell_row Tryz.results132 _ wZ A 51 (Cd.cells c1).toArray (0, 0) _ rfl HB.out Tryz.underlying51 rfl size49) rfl ?_
  have hrr : r = .ok ({ Pr.noCd with pos := ((Pa.sg l u.i).pos : Int) }, u.go) := by
   rw [HR.out, HR0.out]; show Pa.cond l u = _; unfold Pa.cond; rw [if_pos HI.out]
  have hz := HZ.out _ _ HR0.out
  rw [hrr, ← hz]
  exact ⟨hg, _, _, rfl, ⟨c1, rfl, (by rw [HC1.out]; rfl : qCd.er c1 = { Pr.noCd with pos := (z.pos : Int) }), by rw [HC1.out]; exact ⟨no_hops, no_hops⟩⟩, (fun y v hc => by injection hc with hc; injection hc), hm.as _ (.inl rfl)⟩
 have HF0 := hdn hf
 have HM4 := hdn hm
 clear hf hm
 go_wp2_with fail
 refine (side_m HC.out w4 r0 HM4.out).mono ?_
 rintro en w5 ⟨g5, v5, x1, rfl, ⟨y0, hv, hye, hyl⟩, hx, hm⟩
 have hv5 : v5 = .agg y0.cells.toArray := hv
 clear hv
 subst hv5
 have HX := hdn hx
 have HM5 := hdn hm
 have HYE := hdn hye
 have HYL5 := hdn hyl
 have HLT : Hid (rb < w4.heap.size ∧ S < w4.heap.size ∧ A < w4.heap.size ∧ w.heap.size ≤ w4.heap.size) := hdn ⟨HM4.out.rb_lt, HS4.out.lt, HK4.out.lt, HG4.out.size⟩
 have HK5 := hdn (HK4.out.kept g5 HNE.out.1)
 have HS5 := hdn (HS4.out.kept g5 HNS.out.1)
 have HG5 := hdn (grownBy_tr HG4.out g5)
 clear g5 hx hm hye hyl HM4 HK4 HS4 HG4
 go_upto_region 7 with ((with_reducible show wpList _ _ _ (Oper.mk none (Op.store 49 _ _) _ _ _ _ :: _) _ _); refine wpList_store_part rfl 49 (.tmp 13) (.tmp 12) rfl S 2 51 (Cd.cells c1) (Vl.cells y0) rfl rfl HS5.out size47 (by show 14 ≤ 26; decide) (kVl.one y0) ?_; intro w6 hB hF; have HB6 := hdn hB; have HF6 := hdn hF; clear hB hF)
 obtain ⟨c2, hc2⟩ : ∃ c2 : Cd, c2 = { c1 with left := y0 } := ⟨_, rfl⟩
 have HC2 := hdn hc2
 have HS6 : Hid (Bk w6 S 51 (Cd.cells c2).toArray) := hdn (by rw [hc2]; exact cd_put1 HB6.out)
 have g6 := HF6.out
 clear hc2 HB6 HF6
 have HM6 := hdn (HM5.out.far g6 HNS.out.1 HNS.out.2.1)
 have HK6 := hdn (HK5.out.kept g6 HNS.out.2.2.1)
 have HG6 := hdn (grownBy_up HG5.out g6 (fun q hq => by injection hq with hq; have := HNS.out; omega))
 have HYL6 := hdn (vlLies_ext (fresh_par g6 HLT.out.2.1) HYL5.out)
 clear g6 HM5 HK5 HS5 HG5 HYL5
 go_wp2_with fail
 refine (take_m HC.out ⟨#[61, 61]⟩ (by decide) w6 _ HM6.out).mono ?_
 rintro en w7 ⟨g7, hh⟩
 have HK7 := hdn (HK6.out.kept g7 HNE.out.1)
 have HS7 := hdn (HS6.out.kept g7 HNS.out.1)
 have HG7 := hdn (grownBy_tr HG6.out g7)
 have HYL7 := hdn (vlLies_ext (fresh_par g7 HLT.out.1) HYL6.out)
 clear g7 HM6 HK6 HS6 HG6 HYL6
 rcases hh with ⟨rfl, y1, u1, hS, hi, hm⟩ | ⟨rfl, hf, hm⟩
 ·have HSS := hdn hS
  have HI := hdn hi
  have HM7 := hdn hm
  clear hS hi hm
  have f0 := HS7.out.frozen 0
  have c0 : w7.cell? ⟨S, 0, none⟩ = some (.int .i64 c2.kind) := HS7.out.cell 0
  go_upto_region 13 with fail
  clear f0 c0
  have gs : w7.grownBy (w7.setCell ⟨S, 0, none⟩ (.int .i64 1)) (some S) := grownBy_setC _ ⟨S, 0, none⟩ _
  obtain ⟨c3, hc3⟩ : ∃ c3 : Cd, c3 = { c2 with kind := 1 } := ⟨_, rfl⟩
  have HC3 := hdn hc3
  have HS19 : Hid (Bk (w7.setCell ⟨S, 0, none⟩ (.int .i64 1)) S 51 (Cd.cells c3).toArray) := hdn (by rw [hc3]; exact cd_set0 HS7.out 1)
  have HM19 := hdn (HM7.out.far gs HNS.out.1 HNS.out.2.1)
  have HK19 := hdn (HK7.out.kept gs HNS.out.2.2.1)
  have HG19 := hdn (grownBy_up HG7.out gs (fun q hq => by injection hq with hq; have := HNS.out; omega))
  have HYL19 := hdn (vlLies_ext (fresh_par gs HLT.out.2.1) HYL7.out)
  clear gs hc3 HM7 HK7 HS7 HG7 HYL7
  generalize w7.setCell ⟨S, 0, none⟩ (.int .i64 1) = w19 at HS19 HM19 HK19 HG19 HYL19 ⊢
  have HREL := hdn (show (Pr.th (Pr.th r0 fun _ u => Pa.side l u) fun _ u => Pr.relation (Pa.ts l) u) = Pr.th (Except.ok (y1, u1.go) : Pr.Res Vl) fun _ u => .ok ((1 : Int), u) by rw [HSS.out]; show Pr.relation (Pa.ts l) u1 = _; unfold Pr.relation; rw [if_pos HI.out]; rfl)
  go_wp2_with fail
  refine (side_m HC.out w19 _ HM19.out).mono ?_
  rintro en w20 ⟨g20, v5, x2, rfl, ⟨y2, hv, hye, hyl⟩, hx, hm⟩
  have hv5 : v5 = .agg y2.cells.toArray := hv
  clear hv
  subst hv5
  have HX2 := hdn hx
  have HM20 := hdn hm
  have HYE2 := hdn hye
  have HYB20 := hdn hyl
  have HLT2 : Hid (S < w19.heap.size ∧ A < w19.heap.size ∧ w.heap.size ≤ w19.heap.size) := hdn ⟨HS19.out.lt, HK19.out.lt, HG19.out.size⟩
  have HK20 := hdn (HK19.out.kept g20 HNE.out.1)
  have HS20 := hdn (HS19.out.kept g20 HNS.out.1)
  have HG20 := hdn (grownBy_tr HG19.out g20)
  have HYL20 := hdn (vlLies_ext (fresh_par g20 HLT.out.1) HYL19.out)
  clear g20 hx hm hye hyl HM19 HK19 HS19 HG19 HYL19
  go_upto_region 14 with ((with_reducible show wpList _ _ _ (Oper.mk none (Op.store 49 _ _) _ _ _ _ :: _) _ _); refine wpList_store_part rfl 49 (.tmp 31) (.tmp 30) rfl S 14 51 (Cd.cells c3) (Vl.cells y2) rfl rfl HS20.out size47 (by show 26 ≤ 26; decide) (kVl.one y2) ?_; intro w21 hB hF; have HB6 := hdn hB; have HF6 := hdn hF; clear hB hF)
  obtain ⟨c4, hc4⟩ : ∃ c4 : Cd, c4 = { c3 with right := y2 } := ⟨_, rfl⟩
  have HC4 := hdn hc4
  have HS21 : Hid (Bk w21 S 51 (Cd.cells c4).toArray) := hdn (by rw [hc4]; exact cd_put2 HB6.out)
  have g6 := HF6.out
  clear hc4 HB6 HF6
  have HM21 := hdn (HM20.out.far g6 HNS.out.1 HNS.out.2.1)
  have HK21 := hdn (HK20.out.kept g6 HNS.out.2.2.1)
  have HG21 := hdn (grownBy_up HG20.out g6 (fun q hq => by injection hq with hq; have := HNS.out; omega))
  have HYL21 := hdn (vlLies_ext (fresh_par g6 HLT.out.2.1) HYL20.out)
  have HYB21 := hdn (vlLies_ext (fresh_par g6 HLT2.out.1) HYB20.out)
  clear g6 HM20 HK20 HS20 HG20 HYL20 HYB20
  go_wp2_with (first | ((with_reducible show wpList _ _ _ (Oper.mk (some _) (Op.load 51 _) _ _ _ _ :: _) _ _); refine wpList_load_bk rfl 51 (.tmp 3) rfl S 51 (Cd.cells c4).toArray rfl _ HS21.out Tryz.underlying51 rfl size49 ?_) | ((with_reducible show wpList _ _ _ (Oper.mk none (Op.store 51 (Operand.tmp 2) _) _ _ _ _ :: _) _ _); refine wpList_store_bk rfl 51 (.tmp 2) _ rfl A 51 _ (Cd.cells c4).toArray rfl rfl HK21.out size49 rfl (kCd.one _) ?_; intro wZ hB hF; have HB := hdn hB; have HF' := hdn hF; clear hB hF))
  have hm := HM21.out.far HF'.out HNE.out.1 HNE.out.2
  have hg := grownBy_up HG21.out HF'.out (fun q hq => by injection hq with hq; have := HA.out; omega)
  refine bodyPost_ret (results_cell_row Tryz.results132 _ wZ A 51 (Cd.cells c4).toArray (0, 0) _ rfl HB.out Tryz.underlying51 rfl size49) rfl ?_
  have hfin := cond_fin HF0.out HZ.out HX.out HREL.out HX2.out
  rw [HR.out]
  exact ⟨hg, _, ⟨1, z.pos, x1, x2⟩, rfl, ⟨c4, rfl, (by rw [HC4.out, HC3.out, HC2.out, HC1.out, ← HYE.out, ← HYE2.out]; rfl), (by rw [HC4.out, HC3.out, HC2.out]; exact ⟨vlLies_ext ((fresh_par HF'.out HLT.out.2.2.1).trans (fresh_mono HLT.out.2.2.2 _)) HYL21.out, vlLies_ext ((fresh_par HF'.out HLT2.out.2.1).trans (fresh_mono HLT2.out.2.2 _)) HYB21.out⟩)⟩, hfin.1, hm.as _ hfin.2⟩
 have HF1 := hdn hf
 have HM7 := hdn hm
 clear hf hm
 go_wp2_with fail
 refine (take_m HC.out ⟨#[33, 61]⟩ (by decide) w7 _ HM7.out).mono ?_
 rintro en w8 ⟨g8, hh⟩
 have HK8 := hdn (HK7.out.kept g8 HNE.out.1)
 have HS8 := hdn (HS7.out.kept g8 HNS.out.1)
 have HG8 := hdn (grownBy_tr HG7.out g8)
 have HYL8 := hdn (vlLies_ext (fresh_par g8 HLT.out.1) HYL7.out)
 clear g8 HM7 HK7 HS7 HG7 HYL7
 rcases hh with ⟨rfl, y1, u1, hS, hi, hm⟩ | ⟨rfl, hf, hm⟩
 ·have HSS := hdn hS
  have HI := hdn hi
  have HM8 := hdn hm
  clear hS hi hm
  have f0 := HS8.out.frozen 0
  have c0 : w8.cell? ⟨S, 0, none⟩ = some (.int .i64 c2.kind) := HS8.out.cell 0
  go_upto_region 13 with fail
  clear f0 c0
  have gs : w8.grownBy (w8.setCell ⟨S, 0, none⟩ (.int .i64 2)) (some S) := grownBy_setC _ ⟨S, 0, none⟩ _
  obtain ⟨c3, hc3⟩ : ∃ c3 : Cd, c3 = { c2 with kind := 2 } := ⟨_, rfl⟩
  have HC3 := hdn hc3
  have HS19 : Hid (Bk (w8.setCell ⟨S, 0, none⟩ (.int .i64 2)) S 51 (Cd.cells c3).toArray) := hdn (by rw [hc3]; exact cd_set0 HS8.out 2)
  have HM19 := hdn (HM8.out.far gs HNS.out.1 HNS.out.2.1)
  have HK19 := hdn (HK8.out.kept gs HNS.out.2.2.1)
  have HG19 := hdn (grownBy_up HG8.out gs (fun q hq => by injection hq with hq; have := HNS.out; omega))
  have HYL19 := hdn (vlLies_ext (fresh_par gs HLT.out.2.1) HYL8.out)
  clear gs hc3 HM8 HK8 HS8 HG8 HYL8
  generalize w8.setCell ⟨S, 0, none⟩ (.int .i64 2) = w19 at HS19 HM19 HK19 HG19 HYL19 ⊢
  have HREL := hdn (show (Pr.th (Pr.th r0 fun _ u => Pa.side l u) fun _ u => Pr.relation (Pa.ts l) u) = Pr.th (Except.ok (y1, u1.go) : Pr.Res Vl) fun _ u => .ok ((2 : Int), u) by rw [HSS.out]; show Pr.relation (Pa.ts l) u1 = _; unfold Pr.relation; rw [if_neg (by rw [HF1.out _ _ HSS.out]; decide), if_pos HI.out]; rfl)
  go_wp2_with fail
  refine (side_m HC.out w19 _ HM19.out).mono ?_
  rintro en w20 ⟨g20, v5, x2, rfl, ⟨y2, hv, hye, hyl⟩, hx, hm⟩
  have hv5 : v5 = .agg y2.cells.toArray := hv
  clear hv
  subst hv5
  have HX2 := hdn hx
  have HM20 := hdn hm
  have HYE2 := hdn hye
  have HYB20 := hdn hyl
  have HLT2 : Hid (S < w19.heap.size ∧ A < w19.heap.size ∧ w.heap.size ≤ w19.heap.size) := hdn ⟨HS19.out.lt, HK19.out.lt, HG19.out.size⟩
  have HK20 := hdn (HK19.out.kept g20 HNE.out.1)
  have HS20 := hdn (HS19.out.kept g20 HNS.out.1)
  have HG20 := hdn (grownBy_tr HG19.out g20)
  have HYL20 := hdn (vlLies_ext (fresh_par g20 HLT.out.1) HYL19.out)
  clear g20 hx hm hye hyl HM19 HK19 HS19 HG19 HYL19
  go_upto_region 14 with ((with_reducible show wpList _ _ _ (Oper.mk none (Op.store 49 _ _) _ _ _ _ :: _) _ _); refine wpList_store_part rfl 49 (.tmp 31) (.tmp 30) rfl S 14 51 (Cd.cells c3) (Vl.cells y2) rfl rfl HS20.out size47 (by show 26 ≤ 26; decide) (kVl.one y2) ?_; intro w21 hB hF; have HB6 := hdn hB; have HF6 := hdn hF; clear hB hF)
  obtain ⟨c4, hc4⟩ : ∃ c4 : Cd, c4 = { c3 with right := y2 } := ⟨_, rfl⟩
  have HC4 := hdn hc4
  have HS21 : Hid (Bk w21 S 51 (Cd.cells c4).toArray) := hdn (by rw [hc4]; exact cd_put2 HB6.out)
  have g6 := HF6.out
  clear hc4 HB6 HF6
  have HM21 := hdn (HM20.out.far g6 HNS.out.1 HNS.out.2.1)
  have HK21 := hdn (HK20.out.kept g6 HNS.out.2.2.1)
  have HG21 := hdn (grownBy_up HG20.out g6 (fun q hq => by injection hq with hq; have := HNS.out; omega))
  have HYL21 := hdn (vlLies_ext (fresh_par g6 HLT.out.2.1) HYL20.out)
  have HYB21 := hdn (vlLies_ext (fresh_par g6 HLT2.out.1) HYB20.out)
  clear g6 HM20 HK20 HS20 HG20 HYL20 HYB20
  go_wp2_with (first | ((with_reducible show wpList _ _ _ (Oper.mk (some _) (Op.load 51 _) _ _ _ _ :: _) _ _); refine wpList_load_bk rfl 51 (.tmp 3) rfl S 51 (Cd.cells c4).toArray rfl _ HS21.out Tryz.underlying51 rfl size49 ?_) | ((with_reducible show wpList _ _ _ (Oper.mk none (Op.store 51 (Operand.tmp 2) _) _ _ _ _ :: _) _ _); refine wpList_store_bk rfl 51 (.tmp 2) _ rfl A 51 _ (Cd.cells c4).toArray rfl rfl HK21.out size49 rfl (kCd.one _) ?_; intro wZ hB hF; have HB := hdn hB; have HF' := hdn hF; clear hB hF))
  have hm := HM21.out.far HF'.out HNE.out.1 HNE.out.2
  have hg := grownBy_up HG21.out HF'.out (fun q hq => by injection hq with hq; have := HA.out; omega)
  refine bodyPost_ret (results_cell_row Tryz.results132 _ wZ A 51 (Cd.cells c4).toArray (0, 0) _ rfl HB.out Tryz.underlying51 rfl size49) rfl ?_
  have hfin := cond_fin HF0.out HZ.out HX.out HREL.out HX2.out
  rw [HR.out]
  exact ⟨hg, _, ⟨2, z.pos, x1, x2⟩, rfl, ⟨c4, rfl, (by rw [HC4.out, HC3.out, HC2.out, HC1.out, ← HYE.out, ← HYE2.out]; rfl), (by rw [HC4.out, HC3.out, HC2.out]; exact ⟨vlLies_ext ((fresh_par HF'.out HLT.out.2.2.1).trans (fresh_mono HLT.out.2.2.2 _)) HYL21.out, vlLies_ext ((fresh_par HF'.out HLT2.out.2.1).trans (fresh_mono HLT2.out.2.2 _)) HYB21.out⟩)⟩, hfin.1, hm.as _ hfin.2⟩
 have HF2 := hdn hf
 have HM8 := hdn hm
 clear hf hm
 go_wp2_with fail
 refine (take_m HC.out ⟨#[60]⟩ (by decide) w8 _ HM8.out).mono ?_
 rintro en w9 ⟨g9, hh⟩
 have HK9 := hdn (HK8.out.kept g9 HNE.out.1)
 have HS9 := hdn (HS8.out.kept g9 HNS.out.1)
 have HG9 := hdn (grownBy_tr HG8.out g9)
 have HYL9 := hdn (vlLies_ext (fresh_par g9 HLT.out.1) HYL8.out)
 clear g9 HM8 HK8 HS8 HG8 HYL8
 rcases hh with ⟨rfl, y1, u1, hS, hi, hm⟩ | ⟨rfl, hf, hm⟩
 ·have HSS := hdn hS
  have HI := hdn hi
  have HM9 := hdn hm
  clear hS hi hm
  have f0 := HS9.out.frozen 0
  have c0 : w9.cell? ⟨S, 0, none⟩ = some (.int .i64 c2.kind) := HS9.out.cell 0
  go_upto_region 13 with fail
  clear f0 c0
  have gs : w9.grownBy (w9.setCell ⟨S, 0, none⟩ (.int .i64 3)) (some S) := grownBy_setC _ ⟨S, 0, none⟩ _
  obtain ⟨c3, hc3⟩ : ∃ c3 : Cd, c3 = { c2 with kind := 3 } := ⟨_, rfl⟩
  have HC3 := hdn hc3
  have HS19 : Hid (Bk (w9.setCell ⟨S, 0, none⟩ (.int .i64 3)) S 51 (Cd.cells c3).toArray) := hdn (by rw [hc3]; exact cd_set0 HS9.out 3)
  have HM19 := hdn (HM9.out.far gs HNS.out.1 HNS.out.2.1)
  have HK19 := hdn (HK9.out.kept gs HNS.out.2.2.1)
  have HG19 := hdn (grownBy_up HG9.out gs (fun q hq => by injection hq with hq; have := HNS.out; omega))
  have HYL19 := hdn (vlLies_ext (fresh_par gs HLT.out.2.1) HYL9.out)
  clear gs hc3 HM9 HK9 HS9 HG9 HYL9
  generalize w9.setCell ⟨S, 0, none⟩ (.int .i64 3) = w19 at HS19 HM19 HK19 HG19 HYL19 ⊢
  have HREL := hdn (show (Pr.th (Pr.th r0 fun _ u => Pa.side l u) fun _ u => Pr.relation (Pa.ts l) u) = Pr.th (Except.ok (y1, u1.go) : Pr.Res Vl) fun _ u => .ok ((3 : Int), u) by rw [HSS.out]; show Pr.relation (Pa.ts l) u1 = _; unfold Pr.relation; rw [if_neg (by rw [HF1.out _ _ HSS.out]; decide), if_neg (by rw [HF2.out _ _ HSS.out]; decide), if_pos HI.out]; rfl)
  go_wp2_with fail
  refine (side_m HC.out w19 _ HM19.out).mono ?_
  rintro en w20 ⟨g20, v5, x2, rfl, ⟨y2, hv, hye, hyl⟩, hx, hm⟩
  have hv5 : v5 = .agg y2.cells.toArray := hv
  clear hv
  subst hv5
  have HX2 := hdn hx
  have HM20 := hdn hm
  have HYE2 := hdn hye
  have HYB20 := hdn hyl
  have HLT2 : Hid (S < w19.heap.size ∧ A < w19.heap.size ∧ w.heap.size ≤ w19.heap.size) := hdn ⟨HS19.out.lt, HK19.out.lt, HG19.out.size⟩
  have HK20 := hdn (HK19.out.kept g20 HNE.out.1)
  have HS20 := hdn (HS19.out.kept g20 HNS.out.1)
  have HG20 := hdn (grownBy_tr HG19.out g20)
  have HYL20 := hdn (vlLies_ext (fresh_par g20 HLT.out.1) HYL19.out)
  clear g20 hx hm hye hyl HM19 HK19 HS19 HG19 HYL19
  go_upto_region 14 with ((with_reducible show wpList _ _ _ (Oper.mk none (Op.store 49 _ _) _ _ _ _ :: _) _ _); refine wpList_store_part rfl 49 (.tmp 31) (.tmp 30) rfl S 14 51 (Cd.cells c3) (Vl.cells y2) rfl rfl HS20.out size47 (by show 26 ≤ 26; decide) (kVl.one y2) ?_; intro w21 hB hF; have HB6 := hdn hB; have HF6 := hdn hF; clear hB hF)
  obtain ⟨c4, hc4⟩ : ∃ c4 : Cd, c4 = { c3 with right := y2 } := ⟨_, rfl⟩
  have HC4 := hdn hc4
  have HS21 : Hid (Bk w21 S 51 (Cd.cells c4).toArray) := hdn (by rw [hc4]; exact cd_put2 HB6.out)
  have g6 := HF6.out
  clear hc4 HB6 HF6
  have HM21 := hdn (HM20.out.far g6 HNS.out.1 HNS.out.2.1)
  have HK21 := hdn (HK20.out.kept g6 HNS.out.2.2.1)
  have HG21 := hdn (grownBy_up HG20.out g6 (fun q hq => by injection hq with hq; have := HNS.out; omega))
  have HYL21 := hdn (vlLies_ext (fresh_par g6 HLT.out.2.1) HYL20.out)
  have HYB21 := hdn (vlLies_ext (fresh_par g6 HLT2.out.1) HYB20.out)
  clear g6 HM20 HK20 HS20 HG20 HYL20 HYB20
  go_wp2_with (first | ((with_reducible show wpList _ _ _ (Oper.mk (some _) (Op.load 51 _) _ _ _ _ :: _) _ _); refine wpList_load_bk rfl 51 (.tmp 3) rfl S 51 (Cd.cells c4).toArray rfl _ HS21.out Tryz.underlying51 rfl size49 ?_) | ((with_reducible show wpList _ _ _ (Oper.mk none (Op.store 51 (Operand.tmp 2) _) _ _ _ _ :: _) _ _); refine wpList_store_bk rfl 51 (.tmp 2) _ rfl A 51 _ (Cd.cells c4).toArray rfl rfl HK21.out size49 rfl (kCd.one _) ?_; intro wZ hB hF; have HB := hdn hB; have HF' := hdn hF; clear hB hF))
  have hm := HM21.out.far HF'.out HNE.out.1 HNE.out.2
  have hg := grownBy_up HG21.out HF'.out (fun q hq => by injection hq with hq; have := HA.out; omega)
  refine bodyPost_ret (results_cell_row Tryz.results132 _ wZ A 51 (Cd.cells c4).toArray (0, 0) _ rfl HB.out Tryz.underlying51 rfl size49) rfl ?_
  have hfin := cond_fin HF0.out HZ.out HX.out HREL.out HX2.out
  rw [HR.out]
  exact ⟨hg, _, ⟨3, z.pos, x1, x2⟩, rfl, ⟨c4, rfl, (by rw [HC4.out, HC3.out, HC2.out, HC1.out, ← HYE.out, ← HYE2.out]; rfl), (by rw [HC4.out, HC3.out, HC2.out]; exact ⟨vlLies_ext ((fresh_par HF'.out HLT.out.2.2.1).trans (fresh_mono HLT.out.2.2.2 _)) HYL21.out, vlLies_ext ((fresh_par HF'.out HLT2.out.2.1).trans (fresh_mono HLT2.out.2.2 _)) HYB21.out⟩)⟩, hfin.1, hm.as _ hfin.2⟩
 have HF3 := hdn hf
 have HM9 := hdn hm
 clear hf hm
 go_wp2_with fail
 refine (want_m HC.out ⟨#[62, 61]⟩ (by decide) w9 _ HM9.out).mono ?_
 rintro en w10 ⟨rfl, g10, hm⟩
 have HK10 := hdn (HK9.out.kept g10 HNE.out.1)
 have HS10 := hdn (HS9.out.kept g10 HNS.out.1)
 have HG10 := hdn (grownBy_tr HG9.out g10)
 have HYL10 := hdn (vlLies_ext (fresh_par g10 HLT.out.1) HYL9.out)
 have HM10 := hdn hm
 clear g10 hm HM9 HK9 HS9 HG9 HYL9
 have f0 := HS10.out.frozen 0
 have c0 : w10.cell? ⟨S, 0, none⟩ = some (.int .i64 c2.kind) := HS10.out.cell 0
 go_upto_region 13 with fail
 clear f0 c0
 have gs : w10.grownBy (w10.setCell ⟨S, 0, none⟩ (.int .i64 4)) (some S) := grownBy_setC _ ⟨S, 0, none⟩ _
 obtain ⟨c3, hc3⟩ : ∃ c3 : Cd, c3 = { c2 with kind := 4 } := ⟨_, rfl⟩
 have HC3 := hdn hc3
 have HS19 : Hid (Bk (w10.setCell ⟨S, 0, none⟩ (.int .i64 4)) S 51 (Cd.cells c3).toArray) := hdn (by rw [hc3]; exact cd_set0 HS10.out 4)
 have HM19 := hdn (HM10.out.far gs HNS.out.1 HNS.out.2.1)
 have HK19 := hdn (HK10.out.kept gs HNS.out.2.2.1)
 have HG19 := hdn (grownBy_up HG10.out gs (fun q hq => by injection hq with hq; have := HNS.out; omega))
 have HYL19 := hdn (vlLies_ext (fresh_par gs HLT.out.2.1) HYL10.out)
 clear gs hc3 HM10 HK10 HS10 HG10 HYL10
 generalize w10.setCell ⟨S, 0, none⟩ (.int .i64 4) = w19 at HS19 HM19 HK19 HG19 HYL19 ⊢
 have HREL := hdn (show (Pr.th (Pr.th r0 fun _ u => Pa.side l u) fun _ u => Pr.relation (Pa.ts l) u) = Pr.th (Pr.th (Pr.th r0 fun _ u => Pa.side l u) fun _ u => Pr.must (Pa.ts l) ⟨#[62, 61]⟩ u) fun _ u => .ok ((4 : Int), u) by have f1 := HF1.out; have f2 := HF2.out; have f3 := HF3.out; rcases q : (Pr.th r0 fun _ u => Pa.side l u) with n | ⟨y1, u1⟩; (· rfl); (· show Pr.relation (Pa.ts l) u1 = Pr.th (Pr.must (Pa.ts l) ⟨#[62, 61]⟩ u1) _; unfold Pr.relation; rw [if_neg (by rw [f1 _ _ q]; decide), if_neg (by rw [f2 _ _ q]; decide), if_neg (by rw [f3 _ _ q]; decide)]))
 go_wp2_with fail
 refine (side_m HC.out w19 _ HM19.out).mono ?_
 rintro en w20 ⟨g20, v5, x2, rfl, ⟨y2, hv, hye, hyl⟩, hx, hm⟩
 have hv5 : v5 = .agg y2.cells.toArray := hv
 clear hv
 subst hv5
 have HX2 := hdn hx
 have HM20 := hdn hm
 have HYE2 := hdn hye
 have HYB20 := hdn hyl
 have HLT2 : Hid (S < w19.heap.size ∧ A < w19.heap.size ∧ w.heap.size ≤ w19.heap.size) := hdn ⟨HS19.out.lt, HK19.out.lt, HG19.out.size⟩
 have HK20 := hdn (HK19.out.kept g20 HNE.out.1)
 have HS20 := hdn (HS19.out.kept g20 HNS.out.1)
 have HG20 := hdn (grownBy_tr HG19.out g20)
 have HYL20 := hdn (vlLies_ext (fresh_par g20 HLT.out.1) HYL19.out)
 clear g20 hx hm hye hyl HM19 HK19 HS19 HG19 HYL19
 go_upto_region 14 with ((with_reducible show wpList _ _ _ (Oper.mk none (Op.store 49 _ _) _ _ _ _ :: _) _ _); refine wpList_store_part rfl 49 (.tmp 31) (.tmp 30) rfl S 14 51 (Cd.cells c3) (Vl.cells y2) rfl rfl HS20.out size47 (by show 26 ≤ 26; decide) (kVl.one y2) ?_; intro w21 hB hF; have HB6 := hdn hB; have HF6 := hdn hF; clear hB hF)
 obtain ⟨c4, hc4⟩ : ∃ c4 : Cd, c4 = { c3 with right := y2 } := ⟨_, rfl⟩
 have HC4 := hdn hc4
 have HS21 : Hid (Bk w21 S 51 (Cd.cells c4).toArray) := hdn (by rw [hc4]; exact cd_put2 HB6.out)
 have g6 := HF6.out
 clear hc4 HB6 HF6
 have HM21 := hdn (HM20.out.far g6 HNS.out.1 HNS.out.2.1)
 have HK21 := hdn (HK20.out.kept g6 HNS.out.2.2.1)
 have HG21 := hdn (grownBy_up HG20.out g6 (fun q hq => by injection hq with hq; have := HNS.out; omega))
 have HYL21 := hdn (vlLies_ext (fresh_par g6 HLT.out.2.1) HYL20.out)
 have HYB21 := hdn (vlLies_ext (fresh_par g6 HLT2.out.1) HYB20.out)
 clear g6 HM20 HK20 HS20 HG20 HYL20 HYB20
 go_wp2_with (first | ((with_reducible show wpList _ _ _ (Oper.mk (some _) (Op.load 51 _) _ _ _ _ :: _) _ _); refine wpList_load_bk rfl 51 (.tmp 3) rfl S 51 (Cd.cells c4).toArray rfl _ HS21.out Tryz.underlying51 rfl size49 ?_) | ((with_reducible show wpList _ _ _ (Oper.mk none (Op.store 51 (Operand.tmp 2) _) _ _ _ _ :: _) _ _); refine wpList_store_bk rfl 51 (.tmp 2) _ rfl A 51 _ (Cd.cells c4).toArray rfl rfl HK21.out size49 rfl (kCd.one _) ?_; intro wZ hB hF; have HB := hdn hB; have HF' := hdn hF; clear hB hF))
 have hm := HM21.out.far HF'.out HNE.out.1 HNE.out.2
 have hg := grownBy_up HG21.out HF'.out (fun q hq => by injection hq with hq; have := HA.out; omega)
 refine bodyPost_ret (results_cell_row Tryz.results132 _ wZ A 51 (Cd.cells c4).toArray (0, 0) _ rfl HB.out Tryz.underlying51 rfl size49) rfl ?_
 have hfin := cond_fin HF0.out HZ.out HX.out HREL.out HX2.out
 rw [HR.out]
 exact ⟨hg, _, ⟨4, z.pos, x1, x2⟩, rfl, ⟨c4, rfl, (by rw [HC4.out, HC3.out, HC2.out, HC1.out, ← HYE.out, ← HYE2.out]; rfl), (by rw [HC4.out, HC3.out, HC2.out]; exact ⟨vlLies_ext ((fresh_par HF'.out HLT.out.2.2.1).trans (fresh_mono HLT.out.2.2.2 _)) HYL21.out, vlLies_ext ((fresh_par HF'.out HLT2.out.2.1).trans (fresh_mono HLT2.out.2.2 _)) HYB21.out⟩)⟩, hfin.1, hm.as _ hfin.2⟩
end
end Go.Proofs.YtdlchhimkelinaaGreatDoor
namespace Go.Proofs.YtdlchhimkelinaaGreatDoor
open Go.RowKit Go.Sort
def qDc : Kd Dc := ⟨77, 3, 40, Dc.cells, id, fun _ _ => True, fun _ => rfl, fun _ => by simp [Value.oneCell'], fun _ _ _ => trivial⟩
def qSr : Kd Sr := ⟨37, 3, 48, Sr.cells, fun x => ⟨x.name, x.pos, ⟨none, 0, x.fields.l⟩⟩, fun w x => declsLie w x.fields, fun _ => rfl, fun _ => by simp [Value.oneCell'], fun _ h k => declsLie_ext h k⟩
theorem qinfDc : ∃ i, qDc.Inf Tryz.prog 23 i (.agg #[.string ByteArray.empty, .string ByteArray.empty, .int .i64 0]) := by
 obtain ⟨i, h1, h2, h3, h4⟩ := info_parts zinfoDc
 exact ⟨i, Tryz.underlying23, h1, h2, h3, h4, rfl, by decide⟩
theorem dc_aside {B : Nat} {xs : List Dc} {v : Value} {w w' : World} {D : Nat} (h : qDc.Gr B xs v w) (hg : w.grownBy w' (some D)) (hne : ∀ q, v.ownBlock = some q → q ≠ D) : qDc.Gr B xs v w' := by
 obtain ⟨ys, h1, h2, h3⟩ := h
 refine ⟨ys, h1, h2.kept hg ?_, fun _ _ => trivial⟩
 cases hv : v.ownBlock with
 | none => exact .inl rfl
 | some b => right; intro e; injection e with e; exact hne b hv e
namespace Pa
/-- A struct, behind its first word. -/
def strct (l : List Tx.Sg) (u : Pr.St) : Pr.Res Sr :=
 Pr.th (name l u) fun x u =>
 Pr.th (Pr.must (ts l) ⟨#[123]⟩ u) fun _ u =>
 Pr.th (fields l ((ts l).length + 1) [] u) fun a u =>
 .ok (⟨x.text, x.pos, ⟨none, 0, a⟩⟩, u)
theorem structure_strct (l : List Tx.Sg) (u : Pr.St) : structure_ l u = Pr.th (Pr.must (ts l) ⟨#[115, 116, 114, 117, 99, 116]⟩ u) fun _ u => strct l u := rfl
end Pa
section
variable {α : Type} {rb sb cap : Nat} {l : List Tx.Sg} {o : Int} {N : Nat}
theorem name_go {u v : Pr.St} {x : Tx.Sg} (h : Pa.name l u = .ok (x, v)) : v.i = u.i + 1 := by
 unfold Pa.name at h
 split at h
 ·injection h with h; injection h with a b; rw [← b]; rfl
 ·cases h
theorem must_go {u v : Pr.St} {x : Pr.Tk} {s : ByteArray} (h : Pr.must (Pa.ts l) s u = .ok (x, v)) : v.i = u.i + 1 := by
 unfold Pr.must at h
 split at h
 ·injection h with h; injection h with a b; rw [← b]; rfl
 ·cases h
theorem ptr_of {u u2 : Pr.St} {a1 a : List Dc} (h : (Pr.th (Pa.pointer l u) (fun d v => Pr.th (Pr.must (Pa.ts l) ⟨#[59]⟩ v) fun _ v => .ok (a1 ++ [d], v))) = .ok (a, u2)) :
  ∃ ya ua yb ub yc uc yd, Pa.name l u = .ok (ya, ua) ∧ Pr.must (Pa.ts l) ⟨#[42]⟩ ua = .ok (yb, ub) ∧ Pa.name l ub = .ok (yc, uc) ∧ Pr.must (Pa.ts l) ⟨#[59]⟩ uc = .ok (yd, u2) ∧ a = a1 ++ [⟨ya.text, yc.text, yc.pos⟩] := by
 unfold Pa.pointer at h
 rcases q1 : Pa.name l u with n | ⟨ya, ua⟩
 ·rw [q1] at h; cases h
 rcases q2 : Pr.must (Pa.ts l) ⟨#[42]⟩ ua with n | ⟨yb, ub⟩
 ·rw [q1] at h; simp only [Pr.th, q2] at h; cases h
 rcases q3 : Pa.name l ub with n | ⟨yc, uc⟩
 ·rw [q1] at h; simp only [Pr.th, q2, q3] at h; cases h
 rcases q4 : Pr.must (Pa.ts l) ⟨#[59]⟩ uc with n | ⟨yd, ud⟩
 ·rw [q1] at h; simp only [Pr.th, q2, q3, q4] at h; cases h
 ·rw [q1] at h; simp only [Pr.th, q2, q3, q4] at h
  injection h with h; injection h with h1 h2; subst h2
  exact ⟨ya, ua, yb, ub, yc, uc, yd, rfl, q2, q3, q4, h1.symm⟩
theorem struct_fin {r1 : Pr.Res Tx.Sg} {rn : Pr.Res (List Dc)} {x : Tx.Sg} {acc : List Dc} (hx : ∀ y u, r1 = .ok (y, u) → x = y) (hac : ∀ a u, rn = .ok (a, u) → acc = a)
  (h2 : (Pr.th (Pr.th r1 fun _ u => Pr.must (Pa.ts l) ⟨#[123]⟩ u) fun _ u => Pa.fields l ((Pa.ts l).length + 1) [] u) = Pr.th rn fun a u => Pr.th (Pr.must (Pa.ts l) ⟨#[125]⟩ u) fun _ v => .ok (a, v)) :
  (∀ s v, (Pr.th r1 fun x u => Pr.th (Pr.must (Pa.ts l) ⟨#[123]⟩ u) fun _ u => Pr.th (Pa.fields l ((Pa.ts l).length + 1) [] u) fun a u => .ok ((⟨x.text, x.pos, ⟨none, 0, a⟩⟩ : Sr), u)) = .ok (s, v) → (⟨x.text, x.pos, ⟨none, 0, acc⟩⟩ : Sr) = s) ∧
  ((Pr.th (Pr.th rn fun _ u => Pr.must (Pa.ts l) ⟨#[125]⟩ u) fun _ u => .ok ((), u)) = (Pr.th (Pr.th r1 fun x u => Pr.th (Pr.must (Pa.ts l) ⟨#[123]⟩ u) fun _ u => Pr.th (Pa.fields l ((Pa.ts l).length + 1) [] u) fun a u => .ok ((⟨x.text, x.pos, ⟨none, 0, a⟩⟩ : Sr), u)) fun _ u => .ok ((), u)) ∨
   ((∃ n, (Pr.th rn fun _ u => Pr.must (Pa.ts l) ⟨#[125]⟩ u) = .error n) ∧ ∃ n, (Pr.th r1 fun x u => Pr.th (Pr.must (Pa.ts l) ⟨#[123]⟩ u) fun _ u => Pr.th (Pa.fields l ((Pa.ts l).length + 1) [] u) fun a u => .ok ((⟨x.text, x.pos, ⟨none, 0, a⟩⟩ : Sr), u)) = .error n)) := by
 have herr : ∀ n, (.error n : Pr.Res (List Dc)) = (Pr.th rn fun a u => Pr.th (Pr.must (Pa.ts l) ⟨#[125]⟩ u) fun _ v => .ok (a, v)) → ∃ m, (Pr.th rn fun _ u => Pr.must (Pa.ts l) ⟨#[125]⟩ u) = .error m := by
  intro n hn
  rcases rn with m | ⟨a, u⟩
  ·exact ⟨m, rfl⟩
  ·show ∃ m, Pr.must (Pa.ts l) ⟨#[125]⟩ u = _
   change _ = Pr.th (Pr.must (Pa.ts l) ⟨#[125]⟩ u) _ at hn
   rcases q : Pr.must (Pa.ts l) ⟨#[125]⟩ u with m | ⟨b, v⟩
   ·exact ⟨m, rfl⟩
   ·rw [q] at hn; cases hn
 rcases r1 with n | ⟨y, u1⟩
 ·exact ⟨(by intro s v hs; cases hs), .inr ⟨herr n h2, ⟨n, rfl⟩⟩⟩
 change (Pr.th (Pr.must (Pa.ts l) ⟨#[123]⟩ u1) _) = _ at h2
 show (∀ s v, (Pr.th (Pr.must (Pa.ts l) ⟨#[123]⟩ u1) _) = _ → _) ∧ (_ = (Pr.th (Pr.th (Pr.must (Pa.ts l) ⟨#[123]⟩ u1) _) _) ∨ _ ∧ ∃ n, (Pr.th (Pr.must (Pa.ts l) ⟨#[123]⟩ u1) _) = _)
 rcases q : Pr.must (Pa.ts l) ⟨#[123]⟩ u1 with n | ⟨t, u2⟩
 ·rw [q] at h2
  exact ⟨(by intro s v hs; cases hs), .inr ⟨herr n h2, ⟨n, rfl⟩⟩⟩
 rw [q] at h2
 change Pa.fields l ((Pa.ts l).length + 1) [] u2 = _ at h2
 show (∀ s v, (Pr.th (Pa.fields l ((Pa.ts l).length + 1) [] u2) _) = _ → _) ∧ (_ = (Pr.th (Pr.th (Pa.fields l ((Pa.ts l).length + 1) [] u2) _) _) ∨ _ ∧ ∃ n, (Pr.th (Pa.fields l ((Pa.ts l).length + 1) [] u2) _) = _)
 rw [h2]
 rcases rn with n | ⟨a, u⟩
 ·exact ⟨(by intro s v hs; cases hs), .inl rfl⟩
 show (∀ s v, (Pr.th (Pr.th (Pr.must (Pa.ts l) ⟨#[125]⟩ u) _) _) = _ → _) ∧ ((Pr.th (Pr.must (Pa.ts l) ⟨#[125]⟩ u) _) = (Pr.th (Pr.th (Pr.th (Pr.must (Pa.ts l) ⟨#[125]⟩ u) _) _) _) ∨ _)
 rcases Pr.must (Pa.ts l) ⟨#[125]⟩ u with n | ⟨b, v⟩
 ·exact ⟨(by intro s v hs; cases hs), .inl rfl⟩
 ·refine ⟨?_, .inl rfl⟩
  intro s v' hs
  injection hs with hs; injection hs with h3 h4
  rw [← h3, hx y u1 rfl, hac a u rfl]
theorem struct_m (C : RC l N) (w : World) (r0 : Pr.Res α) (h : RM w rb sb cap l o N r0) :
  Calls Tryz.prog 23 #[.pointer (some ⟨rb, 0, none⟩)] w (RP (qSr.Val w.heap.size) w rb sb cap l o N (Pr.th r0 fun _ u => Pa.strct l u)) := by
 have HC := hdn C
 obtain ⟨r, hr⟩ : ∃ r, r = Pr.th r0 fun _ u => Pa.strct l u := ⟨_, rfl⟩
 rw [← hr]
 have HR := hdn hr
 have hn : Below w.heap.size w (w.alloc (.cells #[.string ByteArray.empty, .int .i64 0, .slice none 0 0] 37)) := (Below.refl _ _).alloc (Nat.le_refl _) _
 have HM := hdn (h.below hn)
 have HK : Hid (Bk (w.alloc (.cells #[.string ByteArray.empty, .int .i64 0, .slice none 0 0] 37)) w.heap.size 37 #[.string ByteArray.empty, .int .i64 0, .slice none 0 0]) := hdn (heap_alloc_new _ _)
 have HNE : Hid (w.heap.size ≠ rb ∧ w.heap.size ≠ sb) := hdn ⟨by have := h.rb_lt; omega, by have := h.sb_lt; omega⟩
 have HG : Hid (w.grownBy (w.alloc (.cells #[.string ByteArray.empty, .int .i64 0, .slice none 0 0] 37)) (some rb)) := hdn (grownBy_of hn _)
 generalize hwA : w.alloc (.cells #[.string ByteArray.empty, .int .i64 0, .slice none 0 0] 37) = wA at HM HK HG
 clear h hr hn
 go_enter Tryz.func23, Tryz.ntmps23
 go_upto_region 1 with fail
 rw [show w.alloc (.cells #[.string ⟨#[]⟩, .int .i64 0, .slice none 0 0] 37) = wA from hwA]
 clear hwA
 obtain ⟨A, hA⟩ : ∃ A, A = w.heap.size := ⟨_, rfl⟩
 have HA := hdn hA
 rw [← hA] at HK HNE ⊢
 clear hA
 go_upto_region 2 with fail
 have hn : Below wA.heap.size wA (wA.alloc (.cells #[.string ByteArray.empty, .int .i64 0, .slice none 0 0] 37)) := (Below.refl _ _).alloc (Nat.le_refl _) _
 have HM1 := hdn (HM.out.below hn)
 have HK1 := hdn (HK.out.below hn HK.out.lt)
 have HS1 : Hid (Bk (wA.alloc (.cells #[.string ByteArray.empty, .int .i64 0, .slice none 0 0] 37)) wA.heap.size 37 #[.string ByteArray.empty, .int .i64 0, .slice none 0 0]) := hdn (heap_alloc_new _ _)
 have HNS : Hid (wA.heap.size ≠ rb ∧ wA.heap.size ≠ sb ∧ A ≠ wA.heap.size ∧ w.heap.size ≤ wA.heap.size ∧ rb < wA.heap.size ∧ A < wA.heap.size) := hdn ⟨by have := HM.out.rb_lt; omega, by have := HM.out.sb_lt; omega, by have := HK.out.lt; omega, HG.out.size, HM.out.rb_lt, HK.out.lt⟩
 have HG1 := hdn (grownBy_below HG.out hn)
 change Code.wp _ _ _ _ (wA.alloc (.cells #[.string ByteArray.empty, .int .i64 0, .slice none 0 0] 37))
 generalize wA.alloc (.cells #[.string ByteArray.empty, .int .i64 0, .slice none 0 0] 37) = w1 at HM1 HK1 HS1 HG1 ⊢
 clear hn HM HK HG
 generalize wA.heap.size = S at *
 go_wp2_with fail
 refine (name_m HC.out w1 r0 HM1.out).mono ?_
 rintro en w2 ⟨g2, _, x, rfl, rfl, hx, hm⟩
 have HX := hdn hx
 have HM2 := hdn hm
 have HK2 := hdn (HK1.out.kept g2 HNE.out.1)
 have HS2 := hdn (HS1.out.kept g2 HNS.out.1)
 have HG2 := hdn (grownBy_tr HG1.out g2)
 clear hx hm g2 HM1 HK1 HS1 HG1
 obtain ⟨r1, hr1⟩ : ∃ r1, r1 = Pr.th r0 fun _ u => Pa.name l u := ⟨_, rfl⟩
 rw [← hr1] at HM2 HX
 have HR1 : Hid (r = Pr.th r1 fun x u => Pr.th (Pr.must (Pa.ts l) ⟨#[123]⟩ u) fun _ u => Pr.th (Pa.fields l ((Pa.ts l).length + 1) [] u) fun a u => .ok ((⟨x.text, x.pos, ⟨none, 0, a⟩⟩ : Sr), u)) := hdn (by
  rw [HR.out, hr1]; rcases r0 with n | ⟨y, u⟩ <;> rfl)
 clear hr1 HR
 have f0 := HS2.out.frozen 0
 have c0 := HS2.out.cell 0
 have f1 := HS2.out.frozen 1
 have c1 := HS2.out.cell 1
 go_upto_region 3 with fail
 clear f0 c0 f1 c1
 have gs : w2.grownBy ((w2.setCell ⟨S, 0, none⟩ (.string x.text)).setCell ⟨S, 1, none⟩ (.int .i64 x.pos)) (some S) := grownBy_tr (grownBy_setC _ ⟨S, 0, none⟩ _) (grownBy_setC _ ⟨S, 1, none⟩ _)
 have HS2b : Hid (Bk ((w2.setCell ⟨S, 0, none⟩ (.string x.text)).setCell ⟨S, 1, none⟩ (.int .i64 x.pos)) S 37 #[.string x.text, .int .i64 x.pos, .slice none 0 0]) := hdn ((HS2.out.set_ 0 _).set_ 1 _)
 have HM2b := hdn (HM2.out.far gs HNS.out.1 HNS.out.2.1)
 have HK2b := hdn (HK2.out.kept gs HNS.out.2.2.1)
 have HG2b := hdn (grownBy_up HG2.out gs (fun q hq => by injection hq with hq; have := HNS.out; omega))
 clear gs HM2 HK2 HS2 HG2
 generalize (w2.setCell ⟨S, 0, none⟩ (.string x.text)).setCell ⟨S, 1, none⟩ (.int .i64 x.pos) = w2b at HS2b HM2b HK2b HG2b ⊢
 go_wp2_with fail
 refine (want_m HC.out ⟨#[123]⟩ (by decide) w2b _ HM2b.out).mono ?_
 rintro en w3 ⟨rfl, g3, hm⟩
 have HM3 := hdn hm
 have HK3 := hdn (HK2b.out.kept g3 HNE.out.1)
 have HS3 := hdn (HS2b.out.kept g3 HNS.out.1)
 have HG3 := hdn (grownBy_tr HG2b.out g3)
 clear hm g3 HM2b HK2b HS2b HG2b
 obtain ⟨r2, hr2⟩ : ∃ r2, r2 = Pr.th r1 fun _ u => Pr.must (Pa.ts l) ⟨#[123]⟩ u := ⟨_, rfl⟩
 have HR2 := hdn hr2
 rw [← hr2] at HM3
 clear hr2
 have HSZ : Hid (S < w3.heap.size) := hdn HS3.out.lt
 have HSB : Hid (sb < w3.heap.size) := hdn HM3.out.sb_lt
 have HLEN : Hid ((Pa.ts l).length = l.length) := hdn (by simp)
 have HM3' : Hid (RM w3 rb sb cap l o N (Pr.th r2 fun _ u => (.ok ([], u) : Pr.Res (List Dc)))) := hdn (HM3.out.as _ (by rcases r2 with n | ⟨y, u⟩ <;> exact .inl rfl))
 obtain ⟨iDc, hI⟩ := qinfDc
 have HI := hdn hI
 clear hI
 go_wp2_with fail
 go_loopg [] (l.length + 1) (fun g wr => ∃ (acc : List Dc) (v : Value) (rn : Pr.Res (List Dc)), g + acc.length = l.length + 1 ∧ Hid (∀ a u, rn = .ok (a, u) → acc = a) ∧ Hid (Pr.th rn (fun a u => Pa.fields l g a u) = Pr.th r2 (fun _ u => Pa.fields l ((Pa.ts l).length + 1) [] u)) ∧ Hid (∀ a u, rn = .ok (a, u) → l.length < g + u.i) ∧ Hid (qDc.Gr w3.heap.size acc v wr) ∧ Hid (Bk wr S 37 #[.string x.text, .int .i64 x.pos, v]) ∧ Hid (RM wr rb sb cap l o N rn) ∧ Hid (Bk wr A 37 #[.string ByteArray.empty, .int .i64 0, .slice none 0 0]) ∧ Hid (w.grownBy wr (some rb)) ∧ Hid (w3.heap.size ≤ wr.heap.size))
 case atStart => exact ⟨[], .slice none 0 0, _, rfl, hdn (by intro a u ha; rcases r2 with n | ⟨y, v⟩; (· cases ha); (· cases ha; rfl)), hdn (by have hl := HLEN.out; rcases r2 with n | ⟨y, v⟩; (· rfl); (· show Pa.fields l (l.length + 1) [] v = Pa.fields l ((Pa.ts l).length + 1) [] v; rw [hl])), hdn (by intro a u ha; omega), hdn (Kd.Gr.nil qDc (World.ownsRow_nil _ _ _ _)), HS3, HM3', HK3, HG3, hdn (Nat.le_refl _)⟩
 case round =>
  obtain ⟨acc, v, rn, hg8, HAC, HH, HFU, HGrr, HSr, HMr, HKr, HGr, HLEr⟩ := hrel
  obtain ⟨ys, hy1, hy2, hy3⟩ := HGrr.out
  obtain ⟨a0, c0, rfl⟩ := own_shape hy2
  have HOW := hdn hy2
  clear hy1 hy2 hy3
  rcases rn with n | ⟨a1, u⟩
  ·obtain ⟨k, b, a, e, he, hk, hb0, hb1, h5⟩ := HMr.out
   have c5 : wr.cell? ⟨rb, 5, none⟩ = some (.int .i64 e) := h5.blk.cell 5
   have he' : (e == 0) = false := by rw [beq_eq_false_iff_ne]; exact he
   clear he hk hb0 hb1 h5
   go_upto_region 11 with fail
   clear c5 he'
   have HMq := HMr; have HKq := HKr; have HSq := HSr; have HGq := HGr; have HGrq := HGrr; have HLEq := HLEr
   obtain ⟨wq, hwq⟩ : ∃ wq, wq = wr := ⟨_, rfl⟩
   rw [← hwq] at HMq HKq HSq HGq HGrq HLEq ⊢
   clear hwq HMr HKr HSr HGr HGrr HLEr HOW
   go_wp2_with fail
   refine (want_m HC.out ⟨#[125]⟩ (by decide) wq (Except.error n) HMq.out).mono ?_
   rintro en w30 ⟨rfl, g30, hm⟩
   have HM30 := hdn hm
   have HK30 := hdn (HKq.out.kept g30 HNE.out.1)
   have HS30 := hdn (HSq.out.kept g30 HNS.out.1)
   have HG30 := hdn (grownBy_tr HGq.out g30)
   have HGr30 := hdn (HGrq.out.par g30 (by have := HSZ.out; have := HNS.out; omega))
   have HLE30 := hdn (Nat.le_trans HLEq.out g30.size)
   clear g30 hm HKq HSq HGq HGrq HLEq HMq
   have s0 := HS30.out.cell 0
   have s1 := HS30.out.cell 1
   have s2 := HS30.out.cell 2
   have r0' := HK30.out.cell 0
   have r1' := HK30.out.cell 1
   have r2' := HK30.out.cell 2
   have f0 := HK30.out.frozen 0
   have f1 := HK30.out.frozen 1
   have f2 := HK30.out.frozen 2
   simp only [List.getElem?_toArray, List.getElem?_cons_zero, List.getElem?_cons_succ] at s0 s1 s2 r0' r1' r2'
   go_wp2_with fail
   clear s0 s1 s2 r0' r1' r2' f0 f1 f2
   have hBF : Bk (((w30.setCell ⟨A, 0, none⟩ (.string x.text)).setCell ⟨A, 1, none⟩ (.int .i64 x.pos)).setCell ⟨A, 2, none⟩ (.slice a0 acc.length c0)) A 37 #[.string x.text, .int .i64 x.pos, .slice a0 acc.length c0] ∧ w30.grownBy (((w30.setCell ⟨A, 0, none⟩ (.string x.text)).setCell ⟨A, 1, none⟩ (.int .i64 x.pos)).setCell ⟨A, 2, none⟩ (.slice a0 acc.length c0)) (some A) := ⟨((HK30.out.set_ 0 _).set_ 1 _).set_ 2 _, grownBy_tr (grownBy_tr (grownBy_setC _ ⟨A, 0, none⟩ _) (grownBy_setC _ ⟨A, 1, none⟩ _)) (grownBy_setC _ ⟨A, 2, none⟩ _)⟩
   generalize ((w30.setCell ⟨A, 0, none⟩ (.string x.text)).setCell ⟨A, 1, none⟩ (.int .i64 x.pos)).setCell ⟨A, 2, none⟩ (.slice a0 acc.length c0) = wZ at hBF ⊢
   obtain ⟨hB, hF⟩ := hBF
   have e0 := hB.cell 0
   have e1 := hB.cell 1
   have e2 := hB.cell 2
   have hgr := HGr30.out.par hF (by have := HSZ.out; have := HNS.out; omega)
   obtain ⟨sl, hv, hsl, hly⟩ := Kd.fin qDc (by show acc.length * 40 ≤ _; have := HC.out.len; have := HC.out.top; omega) hgr
   have hm := HM30.out.far hF HNE.out.1 HNE.out.2
   have hg := grownBy_up HG30.out hF (fun q hq => by injection hq with hq; have := HA.out; omega)
   refine bodyPost_ret (v := .agg #[.string x.text, .int .i64 x.pos, .slice a0 acc.length c0]) (by simp [results, Tryz.results23, go_sem, e0, e1, e2]) rfl ?_
   have hval : qSr.Val w.heap.size wZ (.agg #[.string x.text, .int .i64 x.pos, .slice a0 acc.length c0]) ⟨x.text, x.pos, ⟨none, 0, acc⟩⟩ := by
    refine ⟨⟨x.text, x.pos, sl⟩, by rw [hv]; rfl, ?_, ?_⟩
    ·show (⟨x.text, x.pos, ⟨none, 0, sl.l⟩⟩ : Sr) = _
     rw [show sl.l = acc by rw [← hsl]; exact (List.map_id _).symm]
    ·exact declsLie_ext (fresh_rest (r := none) (B' := w.heap.size) (by have := HSZ.out; have := HNS.out; omega) (by simp) |>.trans rest_fresh) hly
   have hfin := struct_fin (rn := (Except.error n)) HX.out HAC.out (by rw [← HR2.out, ← HH.out]; rfl)
   rw [HR1.out]
   exact ⟨hg, _, _, rfl, hval, hfin.1, hm.as _ hfin.2⟩
  ·have c5 : wr.cell? ⟨rb, 5, none⟩ = some (.int .i64 0) := HMr.out.1.blk.cell 5
   go_wp2_with fail
   refine (is_m HC.out ⟨#[125]⟩ (by decide) wr _ HMr.out).mono ?_
   rintro en w4 ⟨hb, hh⟩
   have HM4 := hdn (HMr.out.below hb); have HK4 := hdn (HKr.out.below hb HKr.out.lt); have HS4 := hdn (HSr.out.below hb HSr.out.lt); have HG4 := hdn (grownBy_below HGr.out hb); have HGr4 := hdn (HGrr.out.below hb); have HLE4 := hdn (Nat.le_trans HLEr.out hb.size)
   have HOB0 : Hid (∀ q, (Value.slice a0 acc.length c0).ownBlock = some q → q < w4.heap.size) := hdn (fun q hq => Nat.lt_of_lt_of_le (HOW.out.lt q hq).2 hb.size)
   have HN1 : Hid (0 < gk) := hdn (by have := HFU.out a1 u rfl; have := HMr.out.2.1; omega)
   clear hb c5 HMr HKr HSr HGr HGrr HLEr HOW
   rcases hh with ⟨rfl, a2, u2, hrn, hi, hlt⟩ | ⟨rfl, hf⟩
   ·have HI2 : Hid (Pr.is (Pa.ts l) u.i ⟨#[125]⟩ = true) := hdn (by injection hrn with hrn; injection hrn with h1 h2; rw [h2]; exact hi)
    clear hrn hi hlt
    go_upto_region 11 with fail
    go_wp2_with fail
    refine (want_m HC.out ⟨#[125]⟩ (by decide) w4 (Except.ok (a1, u)) HM4.out).mono ?_
    rintro en w30 ⟨rfl, g30, hm⟩
    have HM30 := hdn hm
    have HK30 := hdn (HK4.out.kept g30 HNE.out.1)
    have HS30 := hdn (HS4.out.kept g30 HNS.out.1)
    have HG30 := hdn (grownBy_tr HG4.out g30)
    have HGr30 := hdn (HGr4.out.par g30 (by have := HSZ.out; have := HNS.out; omega))
    have HLE30 := hdn (Nat.le_trans HLE4.out g30.size)
    clear g30 hm HK4 HS4 HG4 HGr4 HLE4 HM4
    have s0 := HS30.out.cell 0
    have s1 := HS30.out.cell 1
    have s2 := HS30.out.cell 2
    have r0' := HK30.out.cell 0
    have r1' := HK30.out.cell 1
    have r2' := HK30.out.cell 2
    have f0 := HK30.out.frozen 0
    have f1 := HK30.out.frozen 1
    have f2 := HK30.out.frozen 2
    simp only [List.getElem?_toArray, List.getElem?_cons_zero, List.getElem?_cons_succ] at s0 s1 s2 r0' r1' r2'
    go_wp2_with fail
    clear s0 s1 s2 r0' r1' r2' f0 f1 f2
    have hBF : Bk (((w30.setCell ⟨A, 0, none⟩ (.string x.text)).setCell ⟨A, 1, none⟩ (.int .i64 x.pos)).setCell ⟨A, 2, none⟩ (.slice a0 acc.length c0)) A 37 #[.string x.text, .int .i64 x.pos, .slice a0 acc.length c0] ∧ w30.grownBy (((w30.setCell ⟨A, 0, none⟩ (.string x.text)).setCell ⟨A, 1, none⟩ (.int .i64 x.pos)).setCell ⟨A, 2, none⟩ (.slice a0 acc.length c0)) (some A) := ⟨((HK30.out.set_ 0 _).set_ 1 _).set_ 2 _, grownBy_tr (grownBy_tr (grownBy_setC _ ⟨A, 0, none⟩ _) (grownBy_setC _ ⟨A, 1, none⟩ _)) (grownBy_setC _ ⟨A, 2, none⟩ _)⟩
    generalize ((w30.setCell ⟨A, 0, none⟩ (.string x.text)).setCell ⟨A, 1, none⟩ (.int .i64 x.pos)).setCell ⟨A, 2, none⟩ (.slice a0 acc.length c0) = wZ at hBF ⊢
    obtain ⟨hB, hF⟩ := hBF
    have e0 := hB.cell 0
    have e1 := hB.cell 1
    have e2 := hB.cell 2
    have hgr := HGr30.out.par hF (by have := HSZ.out; have := HNS.out; omega)
    obtain ⟨sl, hv, hsl, hly⟩ := Kd.fin qDc (by show acc.length * 40 ≤ _; have := HC.out.len; have := HC.out.top; omega) hgr
    have hm := HM30.out.far hF HNE.out.1 HNE.out.2
    have hg := grownBy_up HG30.out hF (fun q hq => by injection hq with hq; have := HA.out; omega)
    refine bodyPost_ret (v := .agg #[.string x.text, .int .i64 x.pos, .slice a0 acc.length c0]) (by simp [results, Tryz.results23, go_sem, e0, e1, e2]) rfl ?_
    have hval : qSr.Val w.heap.size wZ (.agg #[.string x.text, .int .i64 x.pos, .slice a0 acc.length c0]) ⟨x.text, x.pos, ⟨none, 0, acc⟩⟩ := by
     refine ⟨⟨x.text, x.pos, sl⟩, by rw [hv]; rfl, ?_, ?_⟩
     ·show (⟨x.text, x.pos, ⟨none, 0, sl.l⟩⟩ : Sr) = _
      rw [show sl.l = acc by rw [← hsl]; exact (List.map_id _).symm]
     ·exact declsLie_ext (fresh_rest (r := none) (B' := w.heap.size) (by have := HSZ.out; have := HNS.out; omega) (by simp) |>.trans rest_fresh) hly
    have hfin := struct_fin (rn := (Except.ok (a1, u))) HX.out HAC.out (by rw [← HR2.out, ← HH.out]; show Pa.fields l gk a1 u = Pr.th (Pr.must (Pa.ts l) ⟨#[125]⟩ u) _; obtain ⟨gj, hj⟩ : ∃ k, gk = k + 1 := ⟨gk - 1, by have := HN1.out; omega⟩; rw [hj]; simp only [Pa.fields, Pr.must, HI2.out, if_true, Pr.th])
    rw [HR1.out]
    exact ⟨hg, _, _, rfl, hval, hfin.1, hm.as _ hfin.2⟩
   ·have HF := hdn hf
    clear hf
    go_upto_region 6 with fail
    have hn : Below w4.heap.size w4 (w4.alloc (.cells #[.string ByteArray.empty, .string ByteArray.empty, .int .i64 0] 77)) := (Below.refl _ _).alloc (Nat.le_refl _) _
    have HM5 := hdn (HM4.out.below hn); have HK5 := hdn (HK4.out.below hn HK4.out.lt); have HS5 := hdn (HS4.out.below hn HS4.out.lt); have HG5 := hdn (grownBy_below HG4.out hn); have HGr5 := hdn (HGr4.out.below hn); have HLE5 := hdn (Nat.le_trans HLE4.out hn.size)
    have HD5 : Hid (Bk (w4.alloc (.cells #[.string ByteArray.empty, .string ByteArray.empty, .int .i64 0] 77)) w4.heap.size 77 #[.string ByteArray.empty, .string ByteArray.empty, .int .i64 0]) := hdn (heap_alloc_new _ _)
    have HDN : Hid (w4.heap.size ≠ rb ∧ w4.heap.size ≠ sb ∧ A ≠ w4.heap.size ∧ S ≠ w4.heap.size ∧ w.heap.size ≤ w4.heap.size) := hdn ⟨by have := HM4.out.rb_lt; omega, by have := HM4.out.sb_lt; omega, by have := HK4.out.lt; omega, by have := HS4.out.lt; omega, HG4.out.size⟩
    change Code.wp _ _ _ _ (w4.alloc (.cells #[.string ByteArray.empty, .string ByteArray.empty, .int .i64 0] 77))
    generalize w4.alloc (.cells #[.string ByteArray.empty, .string ByteArray.empty, .int .i64 0] 77) = w5 at HM5 HK5 HS5 HG5 HGr5 HLE5 HD5 ⊢
    clear hn HK4 HS4 HG4 HGr4 HLE4 HM4
    generalize hD : w4.heap.size = D at *
    have HOB := HOB0
    clear HOB0 hD
    go_wp2_with fail
    refine (name_m HC.out w5 _ HM5.out).mono ?_
    rintro en w6 ⟨g6, _, xa, rfl, rfl, hx, hm⟩
    have HXA := hdn hx
    have HM6 := hdn hm
    have HK6 := hdn (HK5.out.kept g6 HNE.out.1)
    have HS6 := hdn (HS5.out.kept g6 HNS.out.1)
    have HG6 := hdn (grownBy_tr HG5.out g6)
    have HGr6 := hdn (HGr5.out.par g6 (by have := HSZ.out; have := HNS.out; omega))
    have HLE6 := hdn (Nat.le_trans HLE5.out g6.size)
    have HD6 := hdn (HD5.out.kept g6 HDN.out.1)
    clear hx hm g6 HK5 HS5 HG5 HGr5 HLE5 HM5 HD5
    have f0 := HD6.out.frozen 0
    have c0 := HD6.out.cell 0
    go_upto_region 7 with fail
    clear f0 c0
    have gs : w6.grownBy (w6.setCell ⟨D, 0, none⟩ (.string xa.text)) (some D) := grownBy_setC _ ⟨D, 0, none⟩ _
    have HD7 : Hid (Bk (w6.setCell ⟨D, 0, none⟩ (.string xa.text)) D 77 #[.string xa.text, .string ByteArray.empty, .int .i64 0]) := hdn (HD6.out.set_ 0 _)
    have HM7 := hdn (HM6.out.far gs HDN.out.1 HDN.out.2.1)
    have HK7 := hdn (HK6.out.kept gs HDN.out.2.2.1)
    have HS7 := hdn (HS6.out.kept gs HDN.out.2.2.2.1)
    have HG7 := hdn (grownBy_up HG6.out gs (fun q hq => by injection hq with hq; have := HDN.out; omega))
    have HGr7 := hdn (dc_aside HGr6.out gs (fun q hq => Nat.ne_of_lt (HOB.out q hq)))
    have HLE7 := hdn (Nat.le_trans HLE6.out gs.size)
    clear gs HK6 HS6 HG6 HGr6 HLE6 HM6 HD6
    generalize (w6.setCell ⟨D, 0, none⟩ (.string xa.text)) = w7 at HD7 HM7 HK7 HS7 HG7 HGr7 HLE7 ⊢
    go_wp2_with fail
    refine (want_m HC.out ⟨#[42]⟩ (by decide) w7 _ HM7.out).mono ?_
    rintro en w8 ⟨rfl, g8, hm⟩
    have HM8 := hdn hm
    have HK8 := hdn (HK7.out.kept g8 HNE.out.1)
    have HS8 := hdn (HS7.out.kept g8 HNS.out.1)
    have HG8 := hdn (grownBy_tr HG7.out g8)
    have HGr8 := hdn (HGr7.out.par g8 (by have := HSZ.out; have := HNS.out; omega))
    have HLE8 := hdn (Nat.le_trans HLE7.out g8.size)
    have HD8 := hdn (HD7.out.kept g8 HDN.out.1)
    clear hm g8 HK7 HS7 HG7 HGr7 HLE7 HM7 HD7
    go_wp2_with fail
    refine (name_m HC.out w8 _ HM8.out).mono ?_
    rintro en w9 ⟨g9, _, xc, rfl, rfl, hx, hm⟩
    have HXC := hdn hx
    have HM9 := hdn hm
    have HK9 := hdn (HK8.out.kept g9 HNE.out.1)
    have HS9 := hdn (HS8.out.kept g9 HNS.out.1)
    have HG9 := hdn (grownBy_tr HG8.out g9)
    have HGr9 := hdn (HGr8.out.par g9 (by have := HSZ.out; have := HNS.out; omega))
    have HLE9 := hdn (Nat.le_trans HLE8.out g9.size)
    have HD9 := hdn (HD8.out.kept g9 HDN.out.1)
    clear hx hm g9 HK8 HS8 HG8 HGr8 HLE8 HM8 HD8
    have f1 := HD9.out.frozen 1
    have c1 := HD9.out.cell 1
    have f2 := HD9.out.frozen 2
    have c2 := HD9.out.cell 2
    go_upto_region 9 with fail
    clear f1 c1 f2 c2
    have gs : w9.grownBy ((w9.setCell ⟨D, 1, none⟩ (.string xc.text)).setCell ⟨D, 2, none⟩ (.int .i64 xc.pos)) (some D) := grownBy_tr (grownBy_setC _ ⟨D, 1, none⟩ _) (grownBy_setC _ ⟨D, 2, none⟩ _)
    have HD10 : Hid (Bk ((w9.setCell ⟨D, 1, none⟩ (.string xc.text)).setCell ⟨D, 2, none⟩ (.int .i64 xc.pos)) D 77 #[.string xa.text, .string xc.text, .int .i64 xc.pos]) := hdn ((HD9.out.set_ 1 _).set_ 2 _)
    have HM10 := hdn (HM9.out.far gs HDN.out.1 HDN.out.2.1)
    have HK10 := hdn (HK9.out.kept gs HDN.out.2.2.1)
    have HS10 := hdn (HS9.out.kept gs HDN.out.2.2.2.1)
    have HG10 := hdn (grownBy_up HG9.out gs (fun q hq => by injection hq with hq; have := HDN.out; omega))
    have HGr10 := hdn (dc_aside HGr9.out gs (fun q hq => Nat.ne_of_lt (HOB.out q hq)))
    have HLE10 := hdn (Nat.le_trans HLE9.out gs.size)
    clear gs HK9 HS9 HG9 HGr9 HLE9 HM9 HD9
    generalize ((w9.setCell ⟨D, 1, none⟩ (.string xc.text)).setCell ⟨D, 2, none⟩ (.int .i64 xc.pos)) = w10 at HD10 HM10 HK10 HS10 HG10 HGr10 HLE10 ⊢
    go_wp2_with fail
    refine (want_m HC.out ⟨#[59]⟩ (by decide) w10 _ HM10.out).mono ?_
    rintro en w11 ⟨rfl, g11, hm⟩
    have HM11 := hdn hm
    have HK11 := hdn (HK10.out.kept g11 HNE.out.1)
    have HS11 := hdn (HS10.out.kept g11 HNS.out.1)
    have HG11 := hdn (grownBy_tr HG10.out g11)
    have HGr11 := hdn (HGr10.out.par g11 (by have := HSZ.out; have := HNS.out; omega))
    have HLE11 := hdn (Nat.le_trans HLE10.out g11.size)
    have HD11 := hdn (HD10.out.kept g11 HDN.out.1)
    clear hm g11 HK10 HS10 HG10 HGr10 HLE10 HM10 HD10
    go_upto_region 10 with fail
    have s2 : w11.cell? ⟨S, 2, none⟩ = some (.slice a0 acc.length c0) := HS11.out.cell 2
    have d0 : w11.cell? ⟨D, 0, none⟩ = some (.string xa.text) := HD11.out.cell 0
    have d1 : w11.cell? ⟨D, 1, none⟩ = some (.string xc.text) := HD11.out.cell 1
    have d2 : w11.cell? ⟨D, 2, none⟩ = some (.int .i64 xc.pos) := HD11.out.cell 2
    go_wp2_with (first | ((with_reducible show wpList _ _ _ (Oper.mk (some 44) _ _ _ _ _ :: _) _ _); refine wpList_one rfl 23 77 (.tmp 43) rfl (qDc.cells ⟨xa.text, xc.text, xc.pos⟩).toArray rfl HI.out.und iDc _ qDc.size HI.out.info HI.out.zero HI.out.size HI.out.pos (by decide) rfl ?_) | ((with_reducible show wpList _ _ _ (Oper.mk (some 45) _ _ _ _ _ :: _) _ _); refine Kd.wpList_push qDc rfl 23 iDc _ HI.out (.tmp 42) (.tmp 44) rfl w3.heap.size acc (.slice a0 acc.length c0) rfl HGr11.out HLE11.out ⟨xa.text, xc.text, xc.pos⟩ rfl trivial (by have := HC.out.len; have := HC.out.top; unfold maxLen; omega) (by show (acc.length + 1) * 40 ≤ _; have := HC.out.len; have := HC.out.top; omega) ?_; rintro v' w12 hG8 ⟨gg, cc, rfl⟩ hgr8 hown8; have HGr12 := hdn hG8; have HM12 := hdn (HM11.out.grown hgr8 (fun q hq => by have := hown8 q hq; have := HSZ.out; have := HNS.out; have := HSB.out; omega)); have HK12 := hdn (HK11.out.grown hgr8 (fun q hq => by have := hown8 q hq; have := HSZ.out; have := HNS.out; omega)); have HS12 := hdn (HS11.out.grown hgr8 (fun q hq => by have := hown8 q hq; have := HSZ.out; omega)); have HG12 := hdn (grownBy_up HG11.out hgr8 (fun q hq => by have := hown8 q hq; have := HSZ.out; have := HNS.out; omega)); have HLE12 : Hid (w3.heap.size ≤ w12.heap.size) := hdn (Nat.le_trans HLE11.out hgr8.size); have s28 : w12.cell? ⟨S, 2, none⟩ = some (.slice a0 acc.length c0) := HS12.out.cell 2; have f28 : w12.frozen? ⟨S, 2, none⟩ = false := HS12.out.frozen 2; clear hG8 hgr8 hown8 s2 d0 d1 d2 HM11 HK11 HS11 HG11 HGr11 HLE11 HD11))
    clear s28 f28
    have gs : w12.grownBy (w12.setCell ⟨S, 2, none⟩ (.slice (some ⟨gg, 0, none⟩) (acc.length + 1) cc)) (some S) := grownBy_setC w12 ⟨S, 2, none⟩ _
    have HS13 : Hid (Bk (w12.setCell ⟨S, 2, none⟩ (.slice (some ⟨gg, 0, none⟩) (acc.length + 1) cc)) S 37 #[.string x.text, .int .i64 x.pos, .slice (some ⟨gg, 0, none⟩) (acc.length + 1) cc]) := hdn (HS12.out.set_ 2 _)
    have HM13 := hdn (HM12.out.far gs HNS.out.1 HNS.out.2.1)
    have HK13 := hdn (HK12.out.kept gs HNS.out.2.2.1)
    have HG13 := hdn (grownBy_up HG12.out gs (fun q hq => by injection hq with hq; have := HNS.out; omega))
    have HGr13 := hdn (HGr12.out.par gs (by have := HSZ.out; exact this))
    have HLE13 := hdn (Nat.le_trans HLE12.out gs.size)
    clear gs HM12 HK12 HS12 HG12 HGr12 HLE12
    generalize w12.setCell ⟨S, 2, none⟩ (.slice (some ⟨gg, 0, none⟩) (acc.length + 1) cc) = w13 at HM13 HK13 HS13 HG13 HGr13 HLE13 ⊢
    go_roundg (gk - 1)
    case measure => have := HN1.out; omega
    case rel =>
     have hac := HAC.out; have hxa := HXA.out; have hxc := HXC.out; have hh := HH.out; have his := HF.out; have hm := HM13.out; have hfu := HFU.out
     obtain ⟨gj, hj⟩ : ∃ k, gk = k + 1 := ⟨gk - 1, by have := HN1.out; omega⟩
     subst hj
     refine ⟨acc ++ [qDc.er ⟨xa.text, xc.text, xc.pos⟩], .slice (some ⟨gg, 0, none⟩) (acc.length + 1) cc, Pr.th (Pa.pointer l u) (fun d v => Pr.th (Pr.must (Pa.ts l) ⟨#[59]⟩ v) fun _ v => .ok (a1 ++ [d], v)), by simp only [List.length_append, List.length_singleton]; omega, hdn ?_, hdn ?_, hdn ?_, HGr13, HS13, hdn ?_, HK13, HG13, HLE13⟩
     ·intro a u2 ha
      have h3 := ptr_of ha
      obtain ⟨ya, ua, yb, ub, yc, uc, yd, q1, q2, q3, q4, rfl⟩ := h3
      rw [hac a1 u rfl, hxa ya ua q1, hxc yc uc (by show Pr.th (Pr.th (Pa.name l u) _) _ = _; rw [q1]; show Pr.th (Pr.must (Pa.ts l) ⟨#[42]⟩ ua) _ = _; rw [q2]; exact q3)]; rfl
     ·rw [← hh]
      show _ = Pa.fields l (gj + 1) a1 u
      simp only [Pa.fields, his _ _ rfl, Bool.false_eq_true, if_false, Nat.add_sub_cancel]
      show Pr.th (Pr.th (Pa.pointer l u) _) _ = Pr.th (Pa.pointer l u) _
      rcases Pa.pointer l u with n | ⟨t, u3⟩
      ·rfl
      ·show Pr.th (Pr.th (Pr.must (Pa.ts l) ⟨#[59]⟩ u3) _) _ = Pr.th (Pr.must (Pa.ts l) ⟨#[59]⟩ u3) _
       rcases Pr.must (Pa.ts l) ⟨#[59]⟩ u3 with n | ⟨t2, u4⟩ <;> rfl
     ·intro a u2 ha
      have h3 := ptr_of ha
      obtain ⟨ya, ua, yb, ub, yc, uc, yd, q1, q2, q3, q4, rfl⟩ := h3
      have := hfu a1 u rfl
      have e1 := name_go q1; have e2 := must_go q2; have e3 := name_go q3; have e4 := must_go q4
      omega
     ·refine hm.as _ (.inl ?_)
      show Pr.th (Pr.th (Pr.th (Pr.th (Pa.name l u) _) _) _) _ = _
      unfold Pa.pointer
      rcases Pa.name l u with n | ⟨ya, ua⟩
      ·rfl
      show Pr.th (Pr.th (Pr.th (Pr.must (Pa.ts l) ⟨#[42]⟩ ua) _) _) _ = Pr.th (Pr.th (Pr.th (Pr.must (Pa.ts l) ⟨#[42]⟩ ua) _) _) _
      rcases Pr.must (Pa.ts l) ⟨#[42]⟩ ua with n | ⟨yb, ub⟩
      ·rfl
      show Pr.th (Pr.th (Pa.name l ub) _) _ = Pr.th (Pr.th (Pr.th (Pa.name l ub) _) _) _
      rcases Pa.name l ub with n | ⟨yc, uc⟩
      ·rfl
      show Pr.th (Pr.must (Pa.ts l) ⟨#[59]⟩ uc) _ = Pr.th (Pr.th (Pr.must (Pa.ts l) ⟨#[59]⟩ uc) _) _
      rcases Pr.must (Pa.ts l) ⟨#[59]⟩ uc with n | ⟨yd, ud⟩ <;> rfl
end
end Go.Proofs.YtdlchhimkelinaaGreatDoor
