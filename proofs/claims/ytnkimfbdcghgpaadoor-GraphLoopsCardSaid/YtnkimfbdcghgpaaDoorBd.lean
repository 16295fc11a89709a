/-
  DERIVED. The walk of Right.
-/
import Derived.Test.YtnkimfbdcghgpaaDoorBc
namespace Go.Proofs.YtnkimfbdcghgpaaDoor
open Go.RowKit Go.Sort
open Ac

theorem eql_zero {w : World} (r : Acn) : (binOp .eql 32 (.agg r.cs) (.agg #[.int .i64 0, .int .i64 0, .int .i64 0, .int .i64 0, .int .i64 0, .int .i64 0, .int .i64 0, .int .i64 0, .int .i64 0, .int .i64 0, .int .i64 0, .bool false])).run Tryd.prog w = .ok (.bool (decide (r = Acn.zero))) w := eql_acn r Acn.zero
attribute [local go_sem ↓] eql_zero
set_option maxHeartbeats 1600000 in
set_option maxRecDepth 100000 in
theorem right_yes (k : Nat) (hk : k < 13) (a : Acn) (ha : a.kind = k) (w : World) (hG : Gl w) :
    Calls Tryd.prog 21 #[.agg a.cs] w fun e w' => e = .returned (.bool (rights a)) ∧ Below w.heap.size w w' := by
  have HR : Hid (rights a = goR (formOf k) { a with kind := 0 }) := Lib.hid (by unfold rights; rw [ha]; simp; omega)
  have HB0 : Hid (Bk (w.alloc (.cells a.cs 32)) w.heap.size 32 a.cs) := Lib.hid (heap_alloc_new _ _)
  have HBA : Hid (Below w.heap.size w (w.alloc (.cells a.cs 32))) := Lib.hid ((Below.refl _ _).alloc (Nat.le_refl _) _)
  have HG : Hid (Gl w) := Lib.hid hG
  have HS : Hid (8 ≤ w.heap.size) := Lib.hid hG.big
  have c0 : (w.alloc (.cells a.cs 32)).cell? ⟨w.heap.size, 0, none⟩ = some (.int .i64 k) := by rw [← ha]; exact HB0.out.cell 0
  have hk0 : (0 : Int) ≤ (k : Int) := Int.natCast_nonneg _
  have hk1 : (k : Int) < 13 := by omega
  have HK := Lib.hid ha
  clear hG ha
  go_enter Tryd.func21, Tryd.ntmps21
  go_upto_region 3 with fail
  have HL1 : Hid (w.heap.size < (w.alloc (.cells a.cs 32)).heap.size) := Lib.hid (by simp)
  generalize w.alloc (.cells a.cs 32) = w1 at HB0 HBA c0 HL1 ⊢
  go_upto_region 4 with (first
    | ((with_reducible show wpList _ _ _ (Oper.mk _ (Op.load 32 _) _ _ _ _ :: _) _ _); refine wpList_load_bk rfl 32 _ rfl w.heap.size 32 a.cs rfl _ HB0.out Tryd.underlying32 rfl size25 ?_)
    | ((with_reducible show wpList _ _ _ (Oper.mk _ (Op.store 32 _ _) _ _ _ _ :: _) _ _); refine wpList_store_new rfl 32 _ _ rfl _ a.cs rfl rfl size25 rfl (cs_one a) ?_))
  have HB2 : Hid (Bk (w1.alloc (.cells a.cs 32)) w1.heap.size 32 a.cs) := Lib.hid (heap_alloc_new _ _)
  have HBB : Hid (Below w.heap.size w (w1.alloc (.cells a.cs 32))) := Lib.hid (HBA.out.alloc HBA.out.size _)
  have HW0 : Hid (Bk (w1.alloc (.cells a.cs 32)) w.heap.size 32 a.cs) := Lib.hid (HB0.out.below ((Below.refl _ _).alloc (Nat.le_refl _) _) HL1.out)
  generalize w1.alloc (.cells a.cs 32) = w2 at HB2 HBB HW0 ⊢
  have k0 : w2.cell? ⟨w1.heap.size, 0, none⟩ = some (.int .i64 a.kind) := HB2.out.cell 0
  have f0 := HB2.out.frozen 0
  go_upto_region 5 with fail
  have HB3 : Hid (Bk (w2.setCell ⟨w1.heap.size, 0, none⟩ (.int .i64 0)) w1.heap.size 32 ({ a with kind := 0 } : Acn).cs) := Lib.hid (HB2.out.set_ 0 _)
  have HBC : Hid (Below w.heap.size w (w2.setCell ⟨w1.heap.size, 0, none⟩ (.int .i64 0))) := Lib.hid (HBB.out.setCell (Nat.le_of_lt HL1.out) _)
  have HW1 : Hid (Bk (w2.setCell ⟨w1.heap.size, 0, none⟩ (.int .i64 0)) w.heap.size 32 a.cs) := Lib.hid (HW0.out.far (Nat.ne_of_lt HL1.out) _)
  clear k0 f0 c0
  generalize w2.setCell ⟨w1.heap.size, 0, none⟩ (.int .i64 0) = w3 at HB3 HBC HW1 ⊢
  have c0 : w3.cell? ⟨w.heap.size, 0, none⟩ = some (.int .i64 k) := by rw [← HK.out]; exact HW1.out.cell 0
  have HG3 : Hid (Gl w3) := Lib.hid (HG.out.below HBC.out HS.out)
  have HFR : Hid (w3.rangeAt 0 (k * 5) (fcs k).toList) := Lib.hid (form_row HG3.out k hk)
  have HSF : Hid (some 5 = some (fcs k).size) := Lib.hid (by rw [fcs_size k hk])
  go_wp2_with (first
    | ((with_reducible show wpList _ _ _ (Oper.mk _ (Op.load 72 _) _ _ _ _ :: _) _ _); refine wpList_load_arr rfl 72 _ rfl 0 (k * 5) (by simp [Act.eval]) (fcs k) _ HFR.out Tryd.underlying72 rfl (size35.trans HSF.out) ?_))
  clear c0
  have HB4 := HB3.out
  go_loopw [20] (fun i wr => ∃ (j : Nat) (r : Acn), j ≤ 5 ∧ i = .int .i64 j ∧ Hid (Bk wr w1.heap.size 32 r.cs) ∧ Hid (Below w.heap.size w wr) ∧ Hid (goR ((formOf k).drop j) r = goR (formOf k) { a with kind := 0 })) (fun i _ => 5 - (intOf i).toNat)
  case atStart => exact ⟨0, _, Nat.zero_le _, rfl, HB3, HBC, Lib.hid rfl⟩
  case round =>
    obtain ⟨j, r, hj, rfl, HK3, HBR, HGO⟩ := hrel
    by_cases hlt : j < 5
    · have hi := run_index35 (w := wr) (fcs k) j _ hlt (fcs_at k j hk hlt)
      have hj1 : (j : Int) < 5 := by omega
      have HP : Hid ((formOf k).getD j 0 ≤ 13) := Lib.hid (form_get_le k j hk hlt)
      have HD := Lib.hid (form_drop k j hk hlt)
      have HGR : Hid (Gl wr) := Lib.hid (HG.out.below HBR.out HS.out)
      generalize (formOf k).getD j 0 = p at *
      have HT := Lib.hid (take_any w1.heap.size p HP.out r wr HK3.out HGR.out)
      have HX : Hid (goR ((formOf k).drop j) r = ((tk p r).1 && goR ((formOf k).drop (j + 1)) (tk p r).2)) := Lib.hid (by rw [HD.out]; rfl)
      generalize hq : tk p r = q at HX
      obtain ⟨b, r2⟩ := q
      have HQ := Lib.hid hq
      clear hq
      cases b
      · go_wp2_with (go_at_call 32; refine (HT.out).mono ?_; rintro e w4 ⟨he, hk4, hg4⟩; rw [HQ.out] at he; subst he; have HG4 := Lib.hid hg4; clear hg4 hk4)
        go_ret
        exact ⟨lret_bool (by rw [HR.out, ← HGO.out, HX.out]; rfl), HBR.out.trans (below_of_grown HG4.out (Nat.le_of_lt HL1.out) HBR.out.size)⟩
      · go_wp2_with (go_at_call 32; refine (HT.out).mono ?_; rintro e w4 ⟨he, hk4, hg4⟩; rw [HQ.out] at he hk4; subst he; have HG4 := Lib.hid hg4; have HK4 := Lib.hid hk4; clear hg4 hk4)
        go_roundw
        case rel => exact ⟨j + 1, r2, by omega, by go_num, HK4, Lib.hid (HBR.out.trans (below_of_grown HG4.out (Nat.le_of_lt HL1.out) HBR.out.size)), Lib.hid (by rw [← HGO.out, HX.out]; rfl)⟩
        case measure => simp [intOf]; omega
    · obtain rfl : j = 5 := by omega
      have HE : Hid (rights a = decide (r = Acn.zero)) := Lib.hid (by
        rw [HR.out, ← HGO.out, List.drop_of_length_le (by have := form_len k hk; omega)]; rfl)
      go_wp2_with (first
        | ((with_reducible show wpList _ _ _ (Oper.mk _ (Op.load 32 _) _ _ _ _ :: _) _ _); refine wpList_load_bk rfl 32 _ rfl w1.heap.size 32 r.cs rfl _ HK3.out Tryd.underlying32 rfl size25 ?_))
      go_ret
      exact ⟨lret_bool HE.out.symm, HBR.out⟩
set_option maxHeartbeats 800000 in
theorem right_no (a : Acn) (ha : a.kind < 0 ∨ 13 ≤ a.kind) (w : World) :
    Calls Tryd.prog 21 #[.agg a.cs] w fun e w' => e = .returned (.bool (rights a)) ∧ Below w.heap.size w w' := by
  have HR : Hid (rights a = false) := Lib.hid (by unfold rights; rcases ha with h | h <;> simp <;> omega)
  have HB0 : Hid (Bk (w.alloc (.cells a.cs 32)) w.heap.size 32 a.cs) := Lib.hid (heap_alloc_new _ _)
  have c0 : (w.alloc (.cells a.cs 32)).cell? ⟨w.heap.size, 0, none⟩ = some (.int .i64 a.kind) := HB0.out.cell 0
  generalize a.kind = k at *
  rcases ha with h | h
  · go_enter Tryd.func21, Tryd.ntmps21
    go_wp2_with fail
    go_ret
    exact ⟨lret_bool HR.out.symm, (Below.refl _ _).alloc (Nat.le_refl _) _⟩
  · have h' : ¬ k < 0 := by omega
    go_enter Tryd.func21, Tryd.ntmps21
    go_wp2_with fail
    go_ret
    exact ⟨lret_bool HR.out.symm, (Below.refl _ _).alloc (Nat.le_refl _) _⟩
theorem right_any (a : Acn) (w : World) (hG : Gl w) : Calls Tryd.prog 21 #[.agg a.cs] w fun e w' => e = .returned (.bool (rights a)) ∧ Below w.heap.size w w' := by
  by_cases h : 0 ≤ a.kind ∧ a.kind < 13
  · obtain ⟨k, hk⟩ : ∃ k : Nat, a.kind = k := ⟨a.kind.toNat, by omega⟩
    exact right_yes k (by omega) a hk w hG
  · exact right_no a (by omega) w
end Go.Proofs.YtnkimfbdcghgpaaDoor
