/-
  DERIVED. The walk of the document's Global.
-/
import Derived.Test.YtjkgkigfmcegoaaRg
namespace Go.Proofs.Ytjkgkigfmcegoaa
open Go.RowKit Go.Sort Go.Maps

theorem kindOf_empty {sn : List ByteArray} {t : ByteArray} (h : t.toList.isEmpty = true) : kindOf sn t = -1 := by unfold kindOf; rw [h]; rfl
theorem kindOf_full {sn : List ByteArray} {t : ByteArray} (h : t.toList.isEmpty = false) : kindOf sn t ≠ -1 := by
  unfold kindOf numOf
  rw [h]
  simp
  split <;> omega
structure RgInv (x : Pg) (v : Value) (n : ByteArray) (w wr : World) (i : Nat) (dn : List (Int × Int)) (np ni : Int) : Prop where
  vs : varsP x = dn ++ varsGo (sNames x.structs.l) np ni (x.globals.l.drop i)
  len : dn.length = i
  np0 : 0 ≤ np
  np1 : np ≤ i
  ni0 : 0 ≤ ni
  ni1 : ni ≤ i
  not : n ∉ (dNames x.globals.l).take i
  row : Bk wr (w.heap.size + 1) 99 #[.int .i64 np, .int .i64 ni]
  box : Bk wr w.heap.size 35 #[.slice x.structs.p x.structs.l.length x.structs.cap, .slice x.globals.p x.globals.l.length x.globals.cap, .slice x.procs.p x.procs.l.length x.procs.cap, v]
  below : Below w.heap.size w wr
theorem globOf_at {x : Pg} {n : ByteArray} {i : Nat} {dn : List (Int × Int)} {np ni : Int} (hi : i < x.globals.l.length) (hv : varsP x = dn ++ varsGo (sNames x.structs.l) np ni (x.globals.l.drop i)) (hl : dn.length = i) (hn : n ∉ (dNames x.globals.l).take i) (he : x.globals.l[i].name = n) :
    globOf x n = (kindOf (sNames x.structs.l) x.globals.l[i].type, if kindOf (sNames x.structs.l) x.globals.l[i].type = -1 then ni else np) ∧ isIn (dNames x.globals.l) n = true := by
  obtain ⟨h1, h2⟩ := placeOf_first (by rw [dNames_get hi, he]) hn
  refine ⟨?_, h2⟩
  unfold globOf
  rw [h2, if_pos rfl, h1, hv, List.drop_eq_getElem_cons hi]
  rw [List.getElem?_append_right (by omega), hl, Nat.sub_self]
  rfl
theorem globOf_no {x : Pg} {n : ByteArray} (hn : n ∉ dNames x.globals.l) : globOf x n = (0, 0) ∧ isIn (dNames x.globals.l) n = false := by
  have h := isIn_not.2 hn
  exact ⟨by unfold globOf; rw [h]; rfl, h⟩

set_option maxHeartbeats 3200000 in
set_option maxRecDepth 100000 in
theorem refGlobal_any (x : Pg) (v : Value) (n : ByteArray) (w : World) (hx : pgLies w x) :
    Calls Try.prog 28 #[.agg (tval x v), .string n] w fun en w' => en = .returned (.tuple #[.int .i64 (globOf x n).1, .int .i64 (globOf x n).2, .bool (isIn (dNames x.globals.l) n)]) ∧ Below w.heap.size w w' := by
  have HX := Lib.hid hx
  have hlen : x.globals.l.length ≤ 1048576 := hx.2.1.1
  have HI0 : Hid (RgInv x v n w ((w.alloc (.cells #[.slice x.structs.p x.structs.l.length x.structs.cap, .slice x.globals.p x.globals.l.length x.globals.cap, .slice x.procs.p x.procs.l.length x.procs.cap, v] 35)).alloc (.cells #[.int .i64 0, .int .i64 0] 99)) 0 [] 0 0) := Lib.hid
    ⟨rfl, rfl, by decide, by decide, by decide, by decide, by simp, heap_alloc2_new w _ _, heap_alloc2_old w _ _, ((Below.refl _ _).alloc (Nat.le_refl _) _).alloc (by simp) _⟩
  clear hx
  go_enter Try.func28, Try.ntmps28
  go_wp2_with fail
  generalize (w.alloc (.cells #[.slice x.structs.p x.structs.l.length x.structs.cap, .slice x.globals.p x.globals.l.length x.globals.cap, .slice x.procs.p x.procs.l.length x.procs.cap, v] 35)).alloc (.cells #[.int .i64 0, .int .i64 0] 99) = wA at HI0 ⊢
  go_loopw [8] (fun iv wr => ∃ (i : Nat) (dn : List (Int × Int)) (np ni : Int), iv = .int .i64 i ∧ i ≤ x.globals.l.length ∧ Hid (RgInv x v n w wr i dn np ni)) (fun i _ => x.globals.l.length - (intOf i).toNat)
  case atStart => exact ⟨0, [], 0, 0, rfl, Nat.zero_le _, HI0⟩
  case round =>
    obtain ⟨i, dn, np, ni, rfl, hi, HI⟩ := hrel
    have c1 : wr.cell? ⟨w.heap.size, 1, none⟩ = some (.slice x.globals.p x.globals.l.length x.globals.cap) := HI.out.box.cell 1
    by_cases hil : i < x.globals.l.length
    · obtain ⟨b, o, hp, hrg, hdc⟩ := (Lay.of_sl (R := dcR) (bytes := 40) (declsLie_below HX.out.2.1 HI.out.below)).at_ hil
      have HYES : Hid (x.globals.l[i].name = n → globOf x n = (kindOf (sNames x.structs.l) x.globals.l[i].type, if kindOf (sNames x.structs.l) x.globals.l[i].type = -1 then ni else np) ∧ isIn (dNames x.globals.l) n = true) := Lib.hid (fun h => globOf_at hil HI.out.vs HI.out.len HI.out.not h)
      have HDN := Lib.hid (dNames_get hil)
      have HVS : Hid (varsP x = (dn ++ [(kindOf (sNames x.structs.l) x.globals.l[i].type, if kindOf (sNames x.structs.l) x.globals.l[i].type = -1 then ni else np)]) ++ (if kindOf (sNames x.structs.l) x.globals.l[i].type = -1 then varsGo (sNames x.structs.l) np (ni + 1) (x.globals.l.drop (i + 1)) else varsGo (sNames x.structs.l) (np + 1) ni (x.globals.l.drop (i + 1)))) := Lib.hid (by
        rw [HI.out.vs, List.drop_eq_getElem_cons hil, varsGo]; simp)
      generalize hd : x.globals.l[i] = d at hrg hdc HYES HDN HVS
      clear hd
      have HRG : Hid (wr.rangeAt b (o + i * 3) (#[.string d.type, .string d.name, .int .i64 d.pos] : Array Value).toList) := Lib.hid hrg
      have HNB : Hid (Bk (wr.alloc (.cells #[.string d.type, .string d.name, .int .i64 d.pos] 46)) wr.heap.size 46 #[.string d.type, .string d.name, .int .i64 d.pos]) := Lib.hid (heap_alloc_new _ _)
      have HBW : Hid (Below wr.heap.size wr (wr.alloc (.cells #[.string d.type, .string d.name, .int .i64 d.pos] 46))) := Lib.hid ((Below.refl _ _).alloc (Nat.le_refl _) _)
      have HRW : Hid (Bk (wr.alloc (.cells #[.string d.type, .string d.name, .int .i64 d.pos] 46)) (w.heap.size + 1) 99 #[.int .i64 np, .int .i64 ni]) := Lib.hid (HI.out.row.below HBW.out HI.out.row.lt)
      have HBX : Hid (Bk (wr.alloc (.cells #[.string d.type, .string d.name, .int .i64 d.pos] 46)) w.heap.size 35 #[.slice x.structs.p x.structs.l.length x.structs.cap, .slice x.globals.p x.globals.l.length x.globals.cap, .slice x.procs.p x.procs.l.length x.procs.cap, v]) := Lib.hid (HI.out.box.below HBW.out HI.out.box.lt)
      have HBB : Hid (Below w.heap.size w (wr.alloc (.cells #[.string d.type, .string d.name, .int .i64 d.pos] 46))) := Lib.hid (HI.out.below.trans (HBW.out.mono HI.out.below.size))
      have k0 : (wr.alloc (.cells #[.string d.type, .string d.name, .int .i64 d.pos] 46)).cell? ⟨wr.heap.size, 0, none⟩ = some (.string d.type) := HNB.out.cell 0
      have k1 : (wr.alloc (.cells #[.string d.type, .string d.name, .int .i64 d.pos] 46)).cell? ⟨wr.heap.size, 1, none⟩ = some (.string d.name) := HNB.out.cell 1
      have q0 : (wr.alloc (.cells #[.string d.type, .string d.name, .int .i64 d.pos] 46)).cell? ⟨w.heap.size, 0, none⟩ = some (.slice x.structs.p x.structs.l.length x.structs.cap) := HBX.out.cell 0
      have q1 : (wr.alloc (.cells #[.string d.type, .string d.name, .int .i64 d.pos] 46)).cell? ⟨w.heap.size, 1, none⟩ = some (.slice x.globals.p x.globals.l.length x.globals.cap) := HBX.out.cell 1
      have q2 : (wr.alloc (.cells #[.string d.type, .string d.name, .int .i64 d.pos] 46)).cell? ⟨w.heap.size, 2, none⟩ = some (.slice x.procs.p x.procs.l.length x.procs.cap) := HBX.out.cell 2
      have r0 : (wr.alloc (.cells #[.string d.type, .string d.name, .int .i64 d.pos] 46)).cell? ⟨w.heap.size + 1, 0, none⟩ = some (.int .i64 np) := HRW.out.cell 0
      have r1 : (wr.alloc (.cells #[.string d.type, .string d.name, .int .i64 d.pos] 46)).cell? ⟨w.heap.size + 1, 1, none⟩ = some (.int .i64 ni) := HRW.out.cell 1
      have f0 : (wr.alloc (.cells #[.string d.type, .string d.name, .int .i64 d.pos] 46)).frozen? ⟨w.heap.size + 1, 0, none⟩ = false := HRW.out.frozen 0
      have f1 : (wr.alloc (.cells #[.string d.type, .string d.name, .int .i64 d.pos] 46)).frozen? ⟨w.heap.size + 1, 1, none⟩ = false := HRW.out.frozen 1
      have HC := Lib.hid (refType_any x d.type (wr.alloc (.cells #[.string d.type, .string d.name, .int .i64 d.pos] 46)) (pgLies_below HX.out HBB.out))
      unfold pval at HC
      have np0 := HI.out.np0
      have np1 := HI.out.np1
      have ni0 := HI.out.ni0
      have ni1 := HI.out.ni1
      have hi0 : (0 : Int) ≤ (i : Int) := Int.natCast_nonneg _
      have hi1 : (i : Int) < (x.globals.l.length : Int) := by omega
      rw [hp] at c1
      clear hrg hdc hp
      cases hty : d.type.toList.isEmpty
      · have hty' : (d.type.toList == []) = false := by cases hh : d.type.toList <;> simp_all
        have HKN := Lib.hid (kindOf_full (sn := sNames x.structs.l) hty)
        clear hty
        cases hnm : (d.name.toList == n.toList)
        · have HNN := Lib.hid hnm
          go_wp2_with (first | ((with_reducible show wpList _ _ _ (Oper.mk (some 26) _ _ _ _ _ :: _) _ _); refine wpList_load_arr rfl 46 (.tmp 25) rfl b (o + i * 3) rfl #[.string d.type, .string d.name, .int .i64 d.pos] _ HRG.out Try.underlying46 rfl size46 ?_) | ((with_reducible show wpList _ _ _ (Oper.mk none (Op.store 46 _ _) _ _ _ _ :: _) _ _); refine wpList_store_new rfl 46 (.tmp 9) (.tmp 26) rfl _ #[.string d.type, .string d.name, .int .i64 d.pos] rfl rfl size46 rfl rfl ?_))
          have HRW2 : Hid (Bk ((wr.alloc (.cells #[.string d.type, .string d.name, .int .i64 d.pos] 46)).setCell ⟨w.heap.size + 1, 0, none⟩ (.int .i64 (np + 1))) (w.heap.size + 1) 99 #[.int .i64 (np + 1), .int .i64 ni]) := Lib.hid (HRW.out.set_ 0 _)
          have HBX2 : Hid (Bk ((wr.alloc (.cells #[.string d.type, .string d.name, .int .i64 d.pos] 46)).setCell ⟨w.heap.size + 1, 0, none⟩ (.int .i64 (np + 1))) w.heap.size 35 #[.slice x.structs.p x.structs.l.length x.structs.cap, .slice x.globals.p x.globals.l.length x.globals.cap, .slice x.procs.p x.procs.l.length x.procs.cap, v]) := Lib.hid (HBX.out.far (by show w.heap.size ≠ w.heap.size + 1; omega) _)
          have HBB2 : Hid (Below w.heap.size w ((wr.alloc (.cells #[.string d.type, .string d.name, .int .i64 d.pos] 46)).setCell ⟨w.heap.size + 1, 0, none⟩ (.int .i64 (np + 1)))) := Lib.hid (HBB.out.setCell (by show w.heap.size ≤ w.heap.size + 1; omega) _)
          generalize (wr.alloc (.cells #[.string d.type, .string d.name, .int .i64 d.pos] 46)).setCell ⟨w.heap.size + 1, 0, none⟩ (.int .i64 (np + 1)) = w5 at HRW2 HBX2 HBB2 ⊢
          go_roundw
          case rel =>
            refine ⟨i + 1, _, np + 1, ni, by go_num, by omega, Lib.hid ⟨by rw [HVS.out, if_neg HKN.out, if_neg HKN.out], by simp; exact HI.out.len, by omega, by simp; omega, by omega, by simp; omega, take_next HDN.out HI.out.not HNN.out, HRW2.out, HBX2.out, HBB2.out⟩⟩
          case measure => simp [intOf]; omega
        · have HYY := Lib.hid (HYES.out (by rw [eqName] at hnm; exact of_decide_eq_true hnm))
          go_wp2_with (first | ((with_reducible show wpList _ _ _ (Oper.mk (some 26) _ _ _ _ _ :: _) _ _); refine wpList_load_arr rfl 46 (.tmp 25) rfl b (o + i * 3) rfl #[.string d.type, .string d.name, .int .i64 d.pos] _ HRG.out Try.underlying46 rfl size46 ?_) | ((with_reducible show wpList _ _ _ (Oper.mk none (Op.store 46 _ _) _ _ _ _ :: _) _ _); refine wpList_store_new rfl 46 (.tmp 9) (.tmp 26) rfl _ #[.string d.type, .string d.name, .int .i64 d.pos] rfl rfl size46 rfl rfl ?_))
          refine HC.out.mono ?_; rintro en w3 ⟨rfl, hb⟩
          have HB3 := Lib.hid (HBB.out.trans (hb.mono HBB.out.size))
          have HR3 := Lib.hid (HRW.out.below hb HRW.out.lt)
          clear hb k0 k1 q0 q1 q2 r0 r1 f0 f1
          have r3 : w3.cell? ⟨w.heap.size + 1, 0, none⟩ = some (.int .i64 np) := HR3.out.cell 0
          go_wp2_with fail
          go_quiet (fail)
          go_wp2_with fail
          exact bodyPost_ret (results_tmp3 rfl _ _ _) rfl ⟨by rw [HYY.out.1, HYY.out.2, if_neg HKN.out]; rfl, below_drewN_ HB3.out _⟩
      · have hty' : d.type.toList = [] := by cases hh : d.type.toList <;> simp_all
        have HKN := Lib.hid (kindOf_empty (sn := sNames x.structs.l) hty)
        clear hty
        cases hnm : (d.name.toList == n.toList)
        · have HNN := Lib.hid hnm
          go_wp2_with (first | ((with_reducible show wpList _ _ _ (Oper.mk (some 26) _ _ _ _ _ :: _) _ _); refine wpList_load_arr rfl 46 (.tmp 25) rfl b (o + i * 3) rfl #[.string d.type, .string d.name, .int .i64 d.pos] _ HRG.out Try.underlying46 rfl size46 ?_) | ((with_reducible show wpList _ _ _ (Oper.mk none (Op.store 46 _ _) _ _ _ _ :: _) _ _); refine wpList_store_new rfl 46 (.tmp 9) (.tmp 26) rfl _ #[.string d.type, .string d.name, .int .i64 d.pos] rfl rfl size46 rfl rfl ?_))
          have HRW2 : Hid (Bk ((wr.alloc (.cells #[.string d.type, .string d.name, .int .i64 d.pos] 46)).setCell ⟨w.heap.size + 1, 1, none⟩ (.int .i64 (ni + 1))) (w.heap.size + 1) 99 #[.int .i64 np, .int .i64 (ni + 1)]) := Lib.hid (HRW.out.set_ 1 _)
          have HBX2 : Hid (Bk ((wr.alloc (.cells #[.string d.type, .string d.name, .int .i64 d.pos] 46)).setCell ⟨w.heap.size + 1, 1, none⟩ (.int .i64 (ni + 1))) w.heap.size 35 #[.slice x.structs.p x.structs.l.length x.structs.cap, .slice x.globals.p x.globals.l.length x.globals.cap, .slice x.procs.p x.procs.l.length x.procs.cap, v]) := Lib.hid (HBX.out.far (by show w.heap.size ≠ w.heap.size + 1; omega) _)
          have HBB2 : Hid (Below w.heap.size w ((wr.alloc (.cells #[.string d.type, .string d.name, .int .i64 d.pos] 46)).setCell ⟨w.heap.size + 1, 1, none⟩ (.int .i64 (ni + 1)))) := Lib.hid (HBB.out.setCell (by show w.heap.size ≤ w.heap.size + 1; omega) _)
          generalize (wr.alloc (.cells #[.string d.type, .string d.name, .int .i64 d.pos] 46)).setCell ⟨w.heap.size + 1, 1, none⟩ (.int .i64 (ni + 1)) = w5 at HRW2 HBX2 HBB2 ⊢
          go_roundw
          case rel =>
            refine ⟨i + 1, _, np, ni + 1, by go_num, by omega, Lib.hid ⟨by rw [HVS.out, if_pos HKN.out, if_pos HKN.out], by simp; exact HI.out.len, by omega, by simp; omega, by omega, by simp; omega, take_next HDN.out HI.out.not HNN.out, HRW2.out, HBX2.out, HBB2.out⟩⟩
          case measure => simp [intOf]; omega
        · have HYY := Lib.hid (HYES.out (by rw [eqName] at hnm; exact of_decide_eq_true hnm))
          go_wp2_with (first | ((with_reducible show wpList _ _ _ (Oper.mk (some 26) _ _ _ _ _ :: _) _ _); refine wpList_load_arr rfl 46 (.tmp 25) rfl b (o + i * 3) rfl #[.string d.type, .string d.name, .int .i64 d.pos] _ HRG.out Try.underlying46 rfl size46 ?_) | ((with_reducible show wpList _ _ _ (Oper.mk none (Op.store 46 _ _) _ _ _ _ :: _) _ _); refine wpList_store_new rfl 46 (.tmp 9) (.tmp 26) rfl _ #[.string d.type, .string d.name, .int .i64 d.pos] rfl rfl size46 rfl rfl ?_))
          refine HC.out.mono ?_; rintro en w3 ⟨rfl, hb⟩
          have HB3 := Lib.hid (HBB.out.trans (hb.mono HBB.out.size))
          have HR3 := Lib.hid (HRW.out.below hb HRW.out.lt)
          clear hb k0 k1 q0 q1 q2 r0 r1 f0 f1
          have r3 : w3.cell? ⟨w.heap.size + 1, 1, none⟩ = some (.int .i64 ni) := HR3.out.cell 1
          go_wp2_with fail
          go_quiet (fail)
          go_wp2_with fail
          exact bodyPost_ret (results_tmp3 rfl _ _ _) rfl ⟨by rw [HYY.out.1, HYY.out.2, if_pos HKN.out]; rfl, below_drewN_ HB3.out _⟩
    · have HNO := Lib.hid (globOf_no (x := x) (n := n) (by have := HI.out.not; rwa [List.take_of_length_le (by rw [dNames_len]; omega)] at this))
      go_wp2_with fail
      exact bodyPost_ret (results_tmp3 rfl _ _ _) rfl ⟨by rw [HNO.out.1, HNO.out.2]; rfl, HI.out.below⟩
end Go.Proofs.Ytjkgkigfmcegoaa
