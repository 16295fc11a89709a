/-
  The walk of besides at a statement that sets. The walks of isPath, isValue and parts at the page's example. The judge at the page's example. hasForm at the page's example. The printer's builder: copyCheck, WriteString, WriteByte, String, over a block of three cells. The printer's lines. The printer 
-/
import Derived.Test.YtdlchhimkelinaaGreatDoorP20
import Derived.Test.YtdlchhimkelinaaGreatDoorP04
import Derived.Test.YtdlchhimkelinaaGreatDoorP11
import Derived.Lib.Builder
import Derived.Lib.AppendStr
import Derived.Lib.UnsafeStr
import Derived.Laws.Externs
import Derived.OwnWalk
import Derived.Test.YtdlchhimkelinaaGreatDoorP12
set_option maxHeartbeats 6400000
set_option maxRecDepth 100000
namespace Go.Proofs.YtdlchhimkelinaaGreatDoor
open Go.RowKit Go.Sort
/-- A Set without its Kind and what that has. -/
def It.bare1 (x : It) : It := { x with h := { x.h with kind := 0, place := Pr.noPth, value := Pr.noVl } }
theorem zPth_built : Tryz.prog.built 45 [] = some (Pth.cells Pr.noPth).toArray := by kernel_rfl
theorem zVl_built : Tryz.prog.built 49 [] = some (Vl.cells Pr.noVl).toArray := by kernel_rfl
theorem size45p : (Tryz.prog.info? 45).map (·.size) = some (Pth.cells Pr.noPth).toArray.size := by kernel_rfl
theorem size49v : (Tryz.prog.info? 49).map (·.size) = some (Vl.cells Pr.noVl).toArray.size := by kernel_rfl
theorem zVl_one : (Vl.cells Pr.noVl).toArray.all (·.oneCell') = true := by simp [Vl.cells, Value.oneCell']
theorem zPth_one : (Pth.cells Pr.noPth).toArray.all (·.oneCell') = true := by simp [Pth.cells, Value.oneCell']
theorem below_by {w0 w w' : World} {g : Nat} (h : Below w0.heap.size w0 w) (hg : w.grownBy w' (some g)) (hB : w0.heap.size ≤ g) : Below w0.heap.size w0 w' := below_par h hg hB
theorem Bk.setArr {w : World} {g : Nat} {t : TypeId} {l : List Value} (h : Bk w g t l.toArray) (i : Nat) (u : Value) : Bk (w.setCell ⟨g, i, none⟩ u) g t (l.set i u).toArray := by
 have := h.set_ i u
 simpa using this
theorem besides1 (x : It) (cs : Array Value) (hcs : cs = x.cells.toArray) (w : World) (k : x.h.kind = 1) :
  Calls Tryz.prog 117 #[.agg cs] w fun e w' => e = .returned (.agg x.bare1.cells.toArray) ∧ Below w.heap.size w w' := by
 obtain ⟨wA, hwA⟩ : ∃ wA : World, wA = (w.alloc (.cells cs 54)).alloc (.cells zIt.cells.toArray 54) := ⟨_, rfl⟩
 have HBA : Hid (Below w.heap.size w wA) := hdn (by rw [hwA]; exact ((Below.refl _ _).alloc (Nat.le_refl _) _).alloc (by simp) _)
 have HK : Hid (Bk wA w.heap.size 54 x.cells.toArray) := hdn (by rw [hwA, ← hcs]; exact heap_alloc2_old _ _ _)
 have HKR : Hid (Bk wA (w.heap.size + 1) 54 zIt.cells.toArray) := hdn (by rw [hwA]; exact heap_alloc2_new _ _ _)
 have Z_k := hdn k
 clear k hcs
 go_enter Tryz.func117, Tryz.ntmps117
 go_upto_region 1 with fail
 change Code.wp _ _ _ _ ((w.alloc (.cells cs 54)).alloc (.cells zIt.cells.toArray 54))
 rw [← hwA]
 clear hwA
 obtain ⟨A, hA⟩ : ∃ A, A = w.heap.size := ⟨_, rfl⟩
 rw [← hA] at HK HKR HBA ⊢
 have HA := hdn hA
 clear hA
 have c0 : wA.cell? ⟨A, 0, none⟩ = some (.int .i64 x.h.kind) := HK.out.cell 0
 rw [Z_k.out] at c0
 go_upto_region 16 with (first | ((with_reducible show wpList _ _ _ (Oper.mk (some 7) _ _ _ _ _ :: _) _ _); refine wpList_zero rfl 45 rfl (some 7) rfl _ zPth_built ?_) | ((with_reducible show wpList _ _ _ (Oper.mk (some 8) _ _ _ _ _ :: _) _ _); refine wpList_zero rfl 49 rfl (some 8) rfl _ zVl_built ?_) | ((with_reducible show wpList _ _ _ (Oper.mk none (Op.store 45 _ _) _ _ _ _ :: _) _ _); refine wpList_store_part rfl 45 (.tmp 9) (.tmp 7) rfl A 2 54 x.cells (Pth.cells Pr.noPth) rfl rfl HK.out size45p (by show 2 + 3 ≤ 48; decide) zPth_one ?_; intro w1 hk1 hg1; have HK1 := hdn hk1; have HG1 := hdn hg1; clear hk1 hg1 c0) | ((with_reducible show wpList _ _ _ (Oper.mk none (Op.store 49 _ _) _ _ _ _ :: _) _ _); refine wpList_store_part rfl 49 (.tmp 10) (.tmp 8) rfl A 5 54 _ (Vl.cells Pr.noVl) rfl rfl HK1.out size49v (by show 5 + 12 ≤ 48; decide) zVl_one ?_; intro w2 hk2 hg2; have HK2 := hdn hk2; have HG2 := hdn hg2; clear hk2 hg2))
 have d0 : w2.cell? ⟨A, 0, none⟩ = some (.int .i64 x.h.kind) := HK2.out.cell 0
 have f0 := HK2.out.frozen 0
 have gS := grownBy_setC w2 ⟨A, 0, none⟩ (.int .i64 0)
 have HK3 : Hid (Bk (w2.setCell ⟨A, 0, none⟩ (.int .i64 0)) A 54 x.bare1.cells.toArray) := hdn (HK2.out.setArr 0 (.int .i64 0))
 have HR3 := hdn (((HKR.out.kept HG1.out (by omega)).kept HG2.out (by omega)).kept gS (by show A + 1 ≠ A; omega))
 have HB3 : Hid (Below w.heap.size w (w2.setCell ⟨A, 0, none⟩ (.int .i64 0))) := hdn (below_by (below_by (below_by (by rw [← HA.out]; exact HBA.out) HG1.out (by rw [HA.out]; exact Nat.le_refl _)) HG2.out (by rw [HA.out]; exact Nat.le_refl _)) gS (by rw [HA.out]; exact Nat.le_refl _))
 clear gS
 go_wp2_with (first | ((with_reducible show wpList _ _ _ (Oper.mk (some 37) _ _ _ _ _ :: _) _ _); refine wpList_load_bk rfl 54 (.tmp 1) rfl A 54 x.bare1.cells.toArray rfl _ HK3.out Tryz.underlying54 rfl size57 ?_) | ((with_reducible show wpList _ _ _ (Oper.mk none (Op.store 54 _ _) _ _ _ _ :: _) _ _); refine wpList_store_bk rfl 54 (.tmp 2) (.tmp 37) rfl (A + 1) 54 _ x.bare1.cells.toArray rfl rfl HR3.out size57 rfl (scells_one _ _ _ _ _ _ _) ?_; intro wZ hZ hF))
 exact bodyPost_ret (results_cell_row Tryz.results117 _ wZ (A + 1) 54 x.bare1.cells.toArray (0, 0) _ rfl hZ Tryz.underlying54 rfl size57) rfl ⟨rfl, below_by HB3.out hF (by rw [HA.out]; exact Nat.le_succ _)⟩
end Go.Proofs.YtdlchhimkelinaaGreatDoor
namespace Go.Proofs.YtdlchhimkelinaaGreatDoor
open Go.RowKit Go.Sort
/-- A struct literal of one part, where the operation has a guard. -/
theorem wpList_build1_g {P : Program} {ops : Array Oper} {rest : List Oper} {op : Oper} {a : Act} {w : World} {Q : Exit → Act → World → Prop} (t : TypeId) (i : Nat) (x : Operand) (v : Value) (hw : Region.wanted op (yielded ops a.tmps) = true) (ho : op.op = .build t #[(i, x)])
  (hx : a.eval x = v) (cells : Array Value) (hf : P.built t [(i, v)] = some cells)
  (h : wpList P ops Q rest (a.put op.dst (.agg cells)) w) : wpList P ops Q (op :: rest) a w :=
 wpList_step fun K hK => by
  rw [if_pos hw]
  unfold Oper.wp execOp
  have hr := run_build (P := P) w t #[(i, v)] cells (by simpa using hf)
  simp only [ho, Sem.run_bind, List.map_toArray, List.map_cons, List.map_nil, hx, hr, Result.andThen_ok]
  exact hK _ _ (by simpa using h)
theorem isPath_flat (n : ByteArray) (p : Option Addr) (c b o : Nat) (w : World) (hg : Gl w) (hn : Pn.okN n = true) (h0 : w.cell? ⟨b, o, none⟩ = some (.string n)) (h2 : w.cell? ⟨b, o + 2, none⟩ = some (.slice p 0 c)) :
  Calls Tryz.prog 151 #[.pointer (some ⟨b, o, none⟩)] w fun e w' => e = .returned (.bool true) ∧ w = w' := by
 obtain ⟨hs, hb⟩ := Pn.okN_nameB hn
 have CN := isNameLex_any n w (by omega) hg
 rw [hb] at CN
 clear hn hb hg
 go_enter Tryz.func151, Tryz.ntmps151
 go_wp2_with (first | (go_at_call 79; refine CN.mono ?_; rintro e w1 ⟨rfl, rfl⟩) | (go_at_call 173; refine (allHp_nil _ _ _ _).mono ?_; rintro e w2 ⟨rfl, rfl⟩))
 go_ret
 exact ⟨rfl, rfl⟩
theorem size49c : (Tryz.prog.info? 49).map (·.size) = some 12 := by kernel_rfl
theorem zIt_built3 : Tryz.prog.built 54 [(3, .agg (Vl.cells Pr.noVl).toArray)] = some zIt.cells.toArray := by kernel_rfl
theorem zIt_same : sameSL zIt.one zIt.one = true := sameSL_refl _
theorem isValue_zero (b o : Nat) (w : World) (hr : w.rangeAt b o (Vl.cells Pr.noVl)) :
  Calls Tryz.prog 152 #[.pointer (some ⟨b, o, none⟩)] w fun e w' => e = .returned (.bool true) ∧ Below w.heap.size w w' := by
 obtain ⟨vs, hvs⟩ : ∃ vs, vs = (Vl.cells Pr.noVl).toArray := ⟨_, rfl⟩
 have HR : Hid (w.rangeAt b o vs.toList) := hdn (by rw [hvs]; exact hr)
 have HSI : Hid ((Tryz.prog.info? 49).map (·.size) = some vs.size) := hdn (by rw [hvs]; exact size49c)
 have HZ : Hid (12 = vs.size) := hdn (by rw [hvs]; rfl)
 have HON : Hid (vs.all (·.oneCell') = true) := hdn (by rw [hvs]; exact zVl_one)
 have HBL : Hid (Tryz.prog.built 54 [(3, .agg vs)] = some zIt.cells.toArray) := hdn (by rw [hvs]; exact zIt_built3)
 obtain ⟨wA, hwA⟩ : ∃ wA : World, wA = w.alloc (.cells vs 49) := ⟨_, rfl⟩
 have HBA : Hid (Below w.heap.size w wA) := hdn (by rw [hwA]; exact (Below.refl _ _).alloc (Nat.le_refl _) _)
 have HK : Hid (Bk wA w.heap.size 49 vs) := hdn (by rw [hwA]; exact heap_alloc_new _ _)
 have HW := hdn hwA
 have HV := hdn hvs
 have c0 := cell_at hr 0 _ rfl
 clear hwA hr hvs
 go_enter Tryz.func152, Tryz.ntmps152
 go_upto_region 2 with (first | ((with_reducible show wpList _ _ _ (Oper.mk (some 7) _ _ _ _ _ :: _) _ _); refine wpList_load_arr rfl 49 (.tmp 6) rfl b o rfl vs _ HR.out Tryz.underlying49 rfl HSI.out ?_) | ((with_reducible show wpList _ _ _ (Oper.mk none (Op.store 49 _ _) _ _ _ _ :: _) _ _); refine wpList_store_new rfl 49 (.tmp 3) (.tmp 7) rfl _ vs rfl rfl HSI.out HZ.out HON.out ?_))
 rw [← HW.out]
 obtain ⟨A, hA⟩ : ∃ A, A = w.heap.size := ⟨_, rfl⟩
 rw [← hA] at HK HBA ⊢
 have HA := hdn hA
 clear hA
 have d0 : wA.cell? ⟨A, 0, none⟩ = some (.int .i64 0) := by have := HK.out; rw [HV.out] at this; exact this.cell 0
 have f0 := HK.out.frozen 0
 have gS := grownBy_setC wA ⟨A, 0, none⟩ (.int .i64 0)
 have HK2 : Hid (Bk (wA.setCell ⟨A, 0, none⟩ (.int .i64 0)) A 49 vs) := hdn (by
  have := HK.out
  rw [HV.out] at this ⊢
  exact this.setArr 0 (.int .i64 0))
 have HB2 : Hid (Below w.heap.size w (wA.setCell ⟨A, 0, none⟩ (.int .i64 0))) := hdn (below_by (by rw [← HA.out]; exact HBA.out) gS (by rw [HA.out]; exact Nat.le_refl _))
 have e0 : (wA.setCell ⟨A, 0, none⟩ (.int .i64 0)).cell? ⟨b, o, none⟩ = some (.int .i64 0) := by
  have hlt := World.block_lt_of_cell? w _ c0
  have h1 : Below w.heap.size w (wA.setCell ⟨A, 0, none⟩ (.int .i64 0)) := HB2.out
  exact (h1.cell (p := ⟨b, o, none⟩) hlt).trans c0
 clear gS c0
 go_upto_region 3 with fail
 clear d0 f0
 generalize wA.setCell ⟨A, 0, none⟩ (.int .i64 0) = w2 at HK2 HB2 e0 ⊢
 have HN := hdn (isNothing_any zIt zIt.cells.toArray rfl w2 (zIt_lies _))
 rw [zIt_same] at HN
 go_wp2_with (first | ((with_reducible show wpList _ _ _ (Oper.mk (some 61) _ _ _ _ _ :: _) _ _); refine wpList_load_arr_g 49 (.tmp 3) rfl rfl A 0 rfl vs _ HK2.out.range Tryz.underlying49 rfl HSI.out ?_) | ((with_reducible show wpList _ _ _ (Oper.mk (some 62) _ _ _ _ _ :: _) _ _); refine wpList_build1_g 54 3 (.tmp 61) (.agg vs) rfl rfl rfl _ HBL.out ?_) | (go_at_call 116; refine HN.out.mono ?_; rintro e w3 ⟨rfl, hb⟩; have HB3 := hdn (HB2.out.trans (hb.mono HB2.out.size)); clear hb))
 go_ret
 exact ⟨rfl, HB3.out⟩
end Go.Proofs.YtdlchhimkelinaaGreatDoor
namespace Go.Proofs.YtdlchhimkelinaaGreatDoor
open Go.RowKit Go.Sort
def nX : ByteArray := ⟨#[120]⟩
def nP : ByteArray := ⟨#[112]⟩
theorem okX : Pn.okN nX = true := by rfl
theorem okP : Pn.okN nP = true := by rfl
/-- The page's statement: x = null. -/
def sx : It := { zIt with h := { Pr.noHd with kind := 1, place := ⟨nX, 0, ⟨none, 0, []⟩⟩ } }
theorem sx_bare : sx.bare1 = zIt := rfl
theorem parts_sx (J : Value) (b o : Nat) (w : World) (hg : Gl w) (hr : w.rangeAt b o sx.cells) :
  Calls Tryz.prog 118 #[J, .pointer (some ⟨b, o, none⟩)] w fun e w' => e = .returned (.bool true) ∧ Below w.heap.size w w' := by
 have c0 : w.cell? ⟨b, o, none⟩ = some (.int .i64 1) := cell_at hr 0 _ rfl
 have c2 : w.cell? ⟨b, o + 2, none⟩ = some (.string nX) := cell_at hr 2 _ rfl
 have c4 : w.cell? ⟨b, o + 2 + 2, none⟩ = some (.slice none 0 0) := cell_at hr 4 _ rfl
 have CP := isPath_flat nX none 0 b (o + 2) w hg okX c2 c4
 have CV := isValue_zero b (o + 5) w (rangeAt_sub hr 5 12 rfl)
 clear hr hg c2 c4
 go_enter Tryz.func118, Tryz.ntmps118
 go_wp2_with (first | (go_at_call 151; refine CP.mono ?_; rintro e w1 ⟨rfl, rfl⟩) | (go_at_call 152; refine CV.mono ?_; rintro e w3 ⟨rfl, hb⟩; have HB3 := hdn hb; clear hb))
 go_ret
 exact ⟨rfl, HB3.out⟩
theorem cell_grown {w w' : World} {J : Nat} {q : Addr} {v : Value} (h : w.cell? q = some v) (hg : w.grownBy w' (some J)) (hne : q.block ≠ J) : w'.cell? q = some v := by
 have hlt := World.block_lt_of_cell? w _ h
 rw [← h]
 simp only [World.cell?]
 rw [hg.block q.block hlt (by intro e; injection e with e; exact hne e)]
theorem range_grown {w w' : World} {J b o : Nat} {cs : List Value} (h : w.rangeAt b o cs) (hg : w.grownBy w' (some J)) (hne : b ≠ J) : w'.rangeAt b o cs := fun j v hv => cell_grown (h j v hv) hg hne
theorem Gl.grown {w w' : World} {J : Nat} (h : Gl w) (hg : w.grownBy w' (some J)) (hJ : 3 ≤ J) : Gl w' :=
 ⟨fun k hk => cell_grown (h.key k hk) hg (by show 2 ≠ J; omega), fun k hk => cell_grown (h.pair k hk) hg (by show 1 ≠ J; omega), Nat.le_trans h.two hg.size⟩
theorem enters82 : ∀ args w, (callFunc 82 args).run Tryz.prog w = .ok (.enter 82 args) w := enters Tryz.func82 (by kernel_rfl) rfl
theorem enters41 : ∀ args w, (callFunc 41 args).run Tryz.prog w = .ok (.enter 41 args) w := enters Tryz.func41 (by kernel_rfl) rfl
theorem judge_sx (J b o : Nat) (w : World) (hg : Gl w) (hJ : Bk w J 92 #[.int .i64 0, .int .i64 0]) (hj3 : 3 ≤ J) (hne : b ≠ J) (hr : w.rangeAt b o sx.cells) :
  Calls Tryz.prog 82 #[.pointer (some ⟨J, 0, none⟩), .pointer (some ⟨b, o, none⟩)] w fun e w' => e = .returned (.bool true) ∧ w.grownBy w' (some J) := by
 have HG := hdn hg; have HR := hdn hr
 have c0 : w.cell? ⟨J, 0, none⟩ = some (.int .i64 0) := hJ.cell 0
 have f0 := hJ.frozen 0
 have HGS := hdn (grownBy_setC w ⟨J, 0, none⟩ (.int .i64 1))
 clear hg hJ hr
 obtain ⟨cs, hcs⟩ : ∃ cs, cs = sx.cells.toArray := ⟨_, rfl⟩
 have HCS := hdn hcs
 have HSI : Hid ((Tryz.prog.info? 54).map (·.size) = some cs.size) := hdn (by rw [hcs]; exact size57)
 clear hcs
 go_enter Tryz.func82, Tryz.ntmps82
 go_upto_region 4 with fail
 clear c0 f0
 generalize w.setCell ⟨J, 0, none⟩ (.int .i64 1) = w1 at HGS ⊢
 have HR1 : Hid (w1.rangeAt b o cs.toList) := hdn (by rw [HCS.out]; exact range_grown HR.out HGS.out hne)
 have HG1 := hdn (HG.out.grown HGS.out hj3)
 have HBS := hdn (besides1 sx cs HCS.out w1 rfl)
 have HN := hdn (fun w => isNothing_any zIt zIt.cells.toArray rfl w (zIt_lies _))
 rw [zIt_same] at HN
 rw [sx_bare] at HBS
 obtain ⟨zs, hzs⟩ : ∃ zs, zs = zIt.cells.toArray := ⟨_, rfl⟩
 rw [← hzs] at HN HBS
 clear hzs
 have HPT : Hid (∀ w', Below w1.heap.size w1 w' → Calls Tryz.prog 118 #[.pointer (some ⟨J, 0, none⟩), .pointer (some ⟨b, o, none⟩)] w' fun e w'' => e = .returned (.bool true) ∧ Below w'.heap.size w' w'') := hdn (fun w' hb => parts_sx _ b o w' (HG1.out.below hb HG1.out.two) (by have := rangeAt_below HR1.out hb; rw [HCS.out] at this; exact this))
 go_wp2_with (first | ((with_reducible show wpList _ _ _ (Oper.mk (some 19) _ _ _ _ _ :: _) _ _); refine wpList_load_arr rfl 54 (.tmp 18) rfl b o rfl cs _ HR1.out Tryz.underlying54 rfl HSI.out ?_) | (go_at_call 117; refine HBS.out.mono ?_; rintro e w2 ⟨rfl, hb⟩; have HB2 := hdn hb; clear hb) | (go_at_call 116; refine (HN.out _).mono ?_; rintro e w3 ⟨rfl, hb⟩; have HB3 := hdn (HB2.out.trans (hb.mono HB2.out.size)); clear hb) | (go_at_call 118; refine (HPT.out _ HB3.out).mono ?_; rintro e w4 ⟨rfl, hb⟩; have HB4 := hdn (HB3.out.trans (hb.mono HB3.out.size)); clear hb))
 go_ret
 exact ⟨rfl, grownBy_below HGS.out HB4.out⟩
theorem allSt_sx (J b o c : Nat) (w : World) (hg : Gl w) (hJ : Bk w J 92 #[.int .i64 0, .int .i64 0]) (hj3 : 3 ≤ J) (hne : b ≠ J) (hr : w.rangeAt b o sx.cells) :
  Calls Tryz.prog 81 #[.slice (some ⟨b, o, none⟩) 1 c, .func (.func 82) #[.pointer (some ⟨J, 0, none⟩)] #[]] w fun e w' => e = .returned (.bool true) ∧ w.grownBy w' (some J) := by
 have HC := hdn (judge_sx J b o w hg hJ hj3 hne hr)
 clear hg hJ hr
 have hcl := enters82
 go_enter Tryz.func81, Tryz.ntmps81
 go_wp2_with fail
 go_loopw [8] (fun i wr => (i = .int .i64 0 ∧ wr = w) ∨ (i = .int .i64 1 ∧ Hid (w.grownBy wr (some J)))) (fun i _ => 1 - (intOf i).toNat)
 case atStart => exact .inl ⟨rfl, rfl⟩
 case round =>
  rcases hrel with ⟨rfl, rfl⟩ | ⟨rfl, HGW⟩
  ·go_wp2_with fail
   refine HC.out.mono ?_; rintro e w1 ⟨rfl, hg⟩
   have HG1 := hdn hg
   clear hg
   go_wp2_with fail
   go_roundw
   case rel => exact .inr ⟨rfl, HG1⟩
   case measure => simp [intOf]
  ·go_wp2_with fail
   go_ret
   exact ⟨rfl, HGW.out⟩
end Go.Proofs.YtdlchhimkelinaaGreatDoor
namespace Go.Proofs.YtdlchhimkelinaaGreatDoor
open Go.RowKit Go.Sort
/-- The cells of a procedure p, its statements in block L. -/
def pcs (L : Nat) : List Value := [.string nP, .int .i64 0, .int .i64 0, .slice none 0 0, .slice none 0 0, .slice (some ⟨L, 0, none⟩) 1 1]
theorem judgeP_sx (J q L : Nat) (w : World) (hg : Gl w) (hJ : Bk w J 92 #[.int .i64 0, .int .i64 0]) (hj3 : 3 ≤ J) (hne : L ≠ J) (hr : w.rangeAt L 0 sx.cells) (hq : w.rangeAt q 0 (pcs L)) :
  Calls Tryz.prog 41 #[.pointer (some ⟨J, 0, none⟩), .pointer (some ⟨q, 0, none⟩)] w fun e w' => e = .returned (.bool true) ∧ w.grownBy w' (some J) := by
 have c0 : w.cell? ⟨q, 0, none⟩ = some (.string nP) := cell_at hq 0 _ rfl
 have c3 : w.cell? ⟨q, 3, none⟩ = some (.slice none 0 0) := cell_at hq 3 _ rfl
 have c4 : w.cell? ⟨q, 4, none⟩ = some (.slice none 0 0) := cell_at hq 4 _ rfl
 have c5 : w.cell? ⟨q, 5, none⟩ = some (.slice (some ⟨L, 0, none⟩) 1 1) := cell_at hq 5 _ rfl
 have CN := isNameLex_any nP w (by decide) hg
 rw [(Pn.okN_nameB okP).2] at CN
 have CS := allSt_sx J L 0 1 w hg hJ hj3 hne hr
 clear hg hJ hr hq
 go_enter Tryz.func41, Tryz.ntmps41
 go_wp2_with (first | (go_at_call 79; refine CN.mono ?_; rintro e w1 ⟨rfl, rfl⟩) | (go_at_call 38; refine (allDc_nil _ _ _ _).mono ?_; rintro e w2 ⟨rfl, rfl⟩) | (go_at_call 81; refine CS.mono ?_; rintro e w3 ⟨rfl, hb⟩; have HB3 := hdn hb; clear hb))
 go_ret
 exact ⟨rfl, HB3.out⟩
theorem allPc_sx (J q L c : Nat) (w : World) (hg : Gl w) (hJ : Bk w J 92 #[.int .i64 0, .int .i64 0]) (hj3 : 3 ≤ J) (hne : L ≠ J) (hr : w.rangeAt L 0 sx.cells) (hq : w.rangeAt q 0 (pcs L)) :
  Calls Tryz.prog 40 #[.slice (some ⟨q, 0, none⟩) 1 c, .func (.func 41) #[.pointer (some ⟨J, 0, none⟩)] #[]] w fun e w' => e = .returned (.bool true) ∧ w.grownBy w' (some J) := by
 have HC := hdn (judgeP_sx J q L w hg hJ hj3 hne hr hq)
 clear hg hJ hr hq
 have hcl := enters41
 go_enter Tryz.func40, Tryz.ntmps40
 go_wp2_with fail
 go_loopw [8] (fun i wr => (i = .int .i64 0 ∧ wr = w) ∨ (i = .int .i64 1 ∧ Hid (w.grownBy wr (some J)))) (fun i _ => 1 - (intOf i).toNat)
 case atStart => exact .inl ⟨rfl, rfl⟩
 case round =>
  rcases hrel with ⟨rfl, rfl⟩ | ⟨rfl, HGW⟩
  ·go_wp2_with fail
   refine HC.out.mono ?_; rintro e w1 ⟨rfl, hg⟩
   have HG1 := hdn hg
   clear hg
   go_wp2_with fail
   go_roundw
   case rel => exact .inr ⟨rfl, HG1⟩
   case measure => simp [intOf]
  ·go_wp2_with fail
   go_ret
   exact ⟨rfl, HGW.out⟩
theorem hasForm_sx (q L : Nat) (w : World) (hg : Gl w) (hL : L < w.heap.size) (hr : w.rangeAt L 0 sx.cells) (hq : w.rangeAt q 0 (pcs L)) :
  Calls Tryz.prog 16 #[.agg #[.slice none 0 0, .slice none 0 0, .slice (some ⟨q, 0, none⟩) 1 1]] w fun e w' => e = .returned (.bool true) ∧ Below w.heap.size w w' := by
 obtain ⟨wA, hwA⟩ : ∃ wA : World, wA = w.alloc (.cells #[.slice none 0 0, .slice none 0 0, .slice (some ⟨q, 0, none⟩) 1 1] 26) := ⟨_, rfl⟩
 have HBA : Hid (Below w.heap.size w wA) := hdn (by rw [hwA]; exact (Below.refl _ _).alloc (Nat.le_refl _) _)
 have HKA : Hid (Bk wA w.heap.size 26 #[.slice none 0 0, .slice none 0 0, .slice (some ⟨q, 0, none⟩) 1 1]) := hdn (by rw [hwA]; exact heap_alloc_new _ _)
 have hsz : w.heap.size < wA.heap.size := HKA.out.lt
 obtain ⟨wJ, hwJ⟩ : ∃ wJ : World, wJ = wA.alloc (.cells #[.int .i64 0, .int .i64 0] 92) := ⟨_, rfl⟩
 have HBJ : Hid (Below wA.heap.size wA wJ) := hdn (by rw [hwJ]; exact (Below.refl _ _).alloc (Nat.le_refl _) _)
 have HKJ : Hid (Bk wJ wA.heap.size 92 #[.int .i64 0, .int .i64 0]) := hdn (by rw [hwJ]; exact heap_alloc_new _ _)
 have HWJ := hdn hwJ
 have HB2 : Hid (Below w.heap.size w wJ) := hdn (HBA.out.trans (HBJ.out.mono HBA.out.size))
 have k1 := HKA.out.below HBJ.out HKA.out.lt
 have HC := hdn (allPc_sx wA.heap.size q L 1 wJ (hg.below HB2.out hg.two) HKJ.out (Nat.le_trans hg.two (Nat.le_of_lt hsz)) (by omega) (rangeAt_below hr HB2.out) (rangeAt_below hq HB2.out))
 have HFIN : Hid (∀ w', wJ.grownBy w' (some wA.heap.size) → Below w.heap.size w w') := hdn (fun w' h => below_by HB2.out h (Nat.le_of_lt hsz))
 have c0 : wJ.cell? ⟨w.heap.size, 0, none⟩ = some (.slice none 0 0) := k1.cell 0
 have c1 : wJ.cell? ⟨w.heap.size, 1, none⟩ = some (.slice none 0 0) := k1.cell 1
 have c2 : wJ.cell? ⟨w.heap.size, 2, none⟩ = some (.slice (some ⟨q, 0, none⟩) 1 1) := k1.cell 2
 clear hg hr hq hsz hL k1 hwJ
 go_enter Tryz.func16, Tryz.ntmps16
 go_upto_region 1 with fail
 rw [← hwA]
 clear hwA
 obtain ⟨A, hA⟩ : ∃ A, A = w.heap.size := ⟨_, rfl⟩
 rw [← hA] at c0 c1 c2 ⊢
 clear hA
 go_upto_region 2 with fail
 rw [← HWJ.out]
 obtain ⟨J, hJ⟩ : ∃ J, J = wA.heap.size := ⟨_, rfl⟩
 rw [← hJ] at HC HFIN ⊢
 clear hJ
 go_wp2_with (first | (go_at_call 36; refine (allSr_nil _ _ _ _).mono ?_; rintro e w1 ⟨rfl, rfl⟩) | (go_at_call 38; refine (allDc_nil _ _ _ _).mono ?_; rintro e w2 ⟨rfl, rfl⟩) | (go_at_call 40; refine HC.out.mono ?_; rintro e w3 ⟨rfl, hb⟩; have HB3 := hdn hb; clear hb))
 go_ret
 exact ⟨rfl, HFIN.out _ HB3.out⟩
end Go.Proofs.YtdlchhimkelinaaGreatDoor
namespace Go.Proofs.YtdlchhimkelinaaGreatDoor
open Go.RowKit Go.Sort
theorem info59 : (Tryz.prog.info? 59).map (·.size) = some 2 := by kernel_rfl
theorem lies59 : liesAt Tryz.prog Tryz.prog.depth 61 (3 / Tryz.prog.cellsOf 61) 0 59 1 = true := by kernel_rfl
theorem infoByte : (Tryz.prog.info? 5).map (fun i => (i.zero, i.size, i.bytes)) = some (some (.int .u8 0), 1, 1) := by kernel_rfl
theorem cells5 : Tryz.prog.cellsOf 5 = 1 := by kernel_rfl
/-- The printer in block b: its builder has the bytes l, 'op' braces are open. -/
def PbA (B b : Nat) (l : List UInt8) (op : Int) (a : Value) (w : World) : Prop :=
 B ≤ b ∧ ∃ v, w.heap[b]? = some (.cells #[a, v, .int .i64 op] 61 (0, 0)) ∧ w.ownsRow B 5 1 v l.length (Lib.byteCells l) ∧ v.ownBlock ≠ some b
def Pb (B b : Nat) (l : List UInt8) (op : Int) (w : World) : Prop := PbA B b l op (.pointer none) w ∨ PbA B b l op (.pointer (some ⟨b, 0, none⟩)) w
theorem copyCheck_used (b : Nat) (w : World) (h0 : w.cell? ⟨b, 0, none⟩ = some (.pointer (some ⟨b, 0, none⟩))) :
  Calls Tryz.prog 147 #[.pointer (some ⟨b, 0, none⟩)] w fun e w' => e = .returned (.tuple #[]) ∧ w' = w := by
 obtain ⟨j, hj, _⟩ := Option.map_eq_some_iff.1 info59
 go_enter Tryz.func147, Tryz.ntmps147
 go_wp2
 rw [Lib.run_neq_ptr_same w _ Tryz.underlying56 hj]
 go_wp2
 go_end0
 exact ⟨rfl, rfl⟩
theorem copyCheck_fresh (b : Nat) (w : World) (h0 : w.cell? ⟨b, 0, none⟩ = some (.pointer none)) (hsh : w.shape? b = some (61, 3)) (hfz : w.frozen? ⟨b, 0, none⟩ = false) :
  Calls Tryz.prog 147 #[.pointer (some ⟨b, 0, none⟩)] w fun e w' => e = .returned (.tuple #[]) ∧ w' = w.setCell ⟨b, 0, none⟩ (.pointer (some ⟨b, 0, none⟩)) := by
 obtain ⟨j, hj, hjs⟩ := Option.map_eq_some_iff.1 info59
 go_enter Tryz.func147, Tryz.ntmps147
 go_wp2
 rw [Lib.run_to_unsafe w ⟨b, 0, none⟩ Tryz.underlying56 Tryz.underlying197 hj (by rw [hjs]; decide) hsh (Nat.zero_lt_succ 2)]
 simp only [Result.andThen]
 rw [Oper.upon_value]
 go_wp2
 rw [run_callFunc_extern Tryz.func168 (by kernel_rfl) (by kernel_rfl) (by kernel_rfl) (e := Extern.AbiNoEscape.same) (by kernel_rfl)]
 rw [Lib.run_noEscape]
 simp only [Result.andThen]
 rw [Oper.upon_value]
 go_wp2
 rw [Lib.run_from_unsafe w ⟨b, 0, none⟩ Tryz.underlying197 Tryz.underlying56 hj hsh lies59]
 simp only [Result.andThen]
 rw [Oper.upon_value]
 go_wp2
 go_end0
 exact ⟨rfl, rfl⟩
theorem PbA.cell {B b : Nat} {l : List UInt8} {op : Int} {a : Value} {w : World} (h : PbA B b l op a w) : w.cell? ⟨b, 0, none⟩ = some a ∧ w.cell? ⟨b, 2, none⟩ = some (.int .i64 op) ∧ w.shape? b = some (61, 3) ∧ ∀ i, w.frozen? ⟨b, i, none⟩ = false := by
 obtain ⟨_, v, hb, _⟩ := h
 exact ⟨cell_of_row _ _ 0 _ _ _ hb, cell_of_row _ _ 2 _ _ _ hb, by simp [World.shape?, hb], fun i => frozen_of_row w b i _ _ hb⟩
theorem own_set {B b e : Nat} {v : Value} {n : Nat} {xs : List Value} {w : World} (h : w.ownsRow B e 1 v n xs) (hne : v.ownBlock ≠ some b) (i : Nat) (u : Value) : (w.setCell ⟨b, i, none⟩ u).ownsRow B e 1 v n xs :=
 h.kept (row := some b) ⟨rfl, rfl, rfl, by simp [World.setCell], fun k _ hk => Below.heap_setCell _ _ _ _ (fun e => hk (by simp [e]))⟩ (Or.inr hne)
theorem copyCheck_any (B b : Nat) (l : List UInt8) (op : Int) (w : World) (h : Pb B b l op w) :
  Calls Tryz.prog 147 #[.pointer (some ⟨b, 0, none⟩)] w fun e w' => e = .returned (.tuple #[]) ∧ PbA B b l op (.pointer (some ⟨b, 0, none⟩)) w' ∧ Below B w w' := by
 rcases h with h | h
 ·obtain ⟨c0, _, hs, hf⟩ := h.cell
  refine (copyCheck_fresh b w c0 hs (hf 0)).mono ?_
  rintro e w' ⟨rfl, rfl⟩
  obtain ⟨hB, v, hb, ho, hn⟩ := h
  exact ⟨rfl, ⟨hB, v, by simp [World.setCell, Array.getElem?_modify, hb], own_set ho hn _ _, hn⟩, (Below.refl B w).setCell (p := ⟨b, 0, none⟩) hB _⟩
 ·refine (copyCheck_used b w h.cell.1).mono ?_
  rintro e w' ⟨rfl, rfl⟩
  exact ⟨rfl, h, Below.refl B _⟩
/-- Behind an append: the block is as it was, but for the slice. -/
theorem PbA.put {B b : Nat} {a v v' : Value} {l' : List UInt8} {op : Int} {w : World} (hB : B ≤ b) (hb : w.heap[b]? = some (.cells #[a, v, .int .i64 op] 61 (0, 0))) (hown : w.ownsRow B 5 1 v' l'.length (Lib.byteCells l')) :
  PbA B b l' op a (w.setCell ⟨b, 1, none⟩ v') := by
 have hne : v'.ownBlock ≠ some b := by
  intro e
  rcases hown.2 with ⟨hv, _⟩ | ⟨g, cap, cur, hv, _, hg, _⟩
  ·rw [hv] at e; cases e
  ·rw [hv] at e; injection e with e
   subst e
   rw [show (⟨g, 0, none⟩ : Addr).block = g from rfl, hg] at hb
   injection hb with hb; injection hb with _ hb
   cases hb
 exact ⟨hB, v', by simp [World.setCell, Array.getElem?_modify, hb], own_set hown hne _ _, hne⟩
/-- WriteString. -/
theorem writeStr_any (B b : Nat) (l : List UInt8) (op : Int) (s : ByteArray) (w : World) (h : Pb B b l op w) (hlen : l.length + s.size ≤ 140737488355328) (hBw : B ≤ w.heap.size) :
  Calls Tryz.prog 110 #[.pointer (some ⟨b, 0, none⟩), .string s] w fun e w' => e = .returned (.tuple #[.int .i64 s.size, .nilIface]) ∧ Pb B b (l ++ s.data.toList) op w' ∧ Below B w w' := by
 obtain ⟨i0, hi, hz0, hz1, hz2⟩ := info_parts infoByte
 go_enter Tryz.func110, Tryz.ntmps110
 go_wp2_with (go_at_call 147; refine (copyCheck_any B b l op _ h).mono ?_)
 rintro e w1 ⟨rfl, h1, hb1⟩
 obtain ⟨c0, c2, _, hf⟩ := h1.cell
 obtain ⟨hB, v, hbk, hown, hne⟩ := h1
 have c1 : w1.cell? ⟨b, 1, none⟩ = some v := cell_of_row _ _ 1 _ _ _ hbk
 go_wp2_with (at_builtin; refine Lib.wpList_append_own_string _ rfl _ _ 57 9 rfl B 5 i0 Tryz.underlying57 Tryz.underlying9 hi hz0 hz1 hz2 _ _ _ rfl hown s rfl ?c3 ?c4 ?c5 ?_)
 case c3 => unfold maxLen; omega
 case c4 => omega
 case c5 => have := hb1.size; omega
 intro v' w2 hown' hgrow _
 have hlt : b < w1.heap.size := (Array.getElem?_eq_some_iff.1 hbk).1
 have hb2 : w2.heap[b]? = some (.cells #[.pointer (some ⟨b, 0, none⟩), v, .int .i64 op] 61 (0, 0)) := by
  rw [hgrow.block b hlt (fun e => hne e.symm)]
  exact hbk
 have d1 : w2.cell? ⟨b, 1, none⟩ = some v := cell_of_row _ _ 1 _ _ _ hb2
 have f1 : w2.frozen? ⟨b, 1, none⟩ = false := frozen_of_row w2 b 1 _ _ hb2
 obtain ⟨ao, n', cap, rfl⟩ : ∃ ao n' cap, v' = .slice ao n' cap := by
  rcases hown'.2 with ⟨hv, _⟩ | ⟨g, cap, cur, hv, _⟩
  ·exact ⟨_, _, _, hv⟩
  ·exact ⟨_, _, _, hv⟩
 go_wp2
 refine bodyPost_ret (results_tmp2 rfl _ _ _) rfl ?_
 refine ⟨rfl, .inr (PbA.put hB hb2 (l' := l ++ s.data.toList) ?_), ?_⟩
 ·rw [Lib.byteCells_append, ← Lib.strCells_eq, List.length_append, show s.data.toList.length = s.size from rfl]; exact hown'
 ·exact (hb1.grown hgrow (by have := hb1.size; omega) (fun k hk => (hown.lt k hk).1)).setCell (p := ⟨b, 1, none⟩) hB _
/-- WriteByte. -/
theorem writeByte_any (B b : Nat) (l : List UInt8) (op : Int) (c : UInt8) (w : World) (h : Pb B b l op w) (hlen : l.length + 1 ≤ 140737488355328) (hBw : B ≤ w.heap.size) :
  Calls Tryz.prog 111 #[.pointer (some ⟨b, 0, none⟩), .int .u8 (c.toNat : Int)] w fun e w' => e = .returned .nilIface ∧ Pb B b (l ++ [c]) op w' ∧ Below B w w' := by
 obtain ⟨i0, hi, hz0, hz1, hz2⟩ := info_parts infoByte
 obtain ⟨C, hC⟩ : ∃ C : Int, C = (c.toNat : Int) := ⟨_, rfl⟩
 have HC := hdn hC
 rw [← hC]
 clear hC
 go_enter Tryz.func111, Tryz.ntmps111
 go_wp2_with (go_at_call 147; refine (copyCheck_any B b l op _ h).mono ?_)
 rintro e w1 ⟨rfl, h1, hb1⟩
 obtain ⟨c0, c2, _, hf⟩ := h1.cell
 obtain ⟨hB, v, hbk, hown, hne⟩ := h1
 have c1 : w1.cell? ⟨b, 1, none⟩ = some v := cell_of_row _ _ 1 _ _ _ hbk
 go_wp2_with (at_builtin; refine wpList_append_own _ rfl _ _ 57 rfl B 5 i0 (.int .u8 0) 1 1 Tryz.underlying57 hi hz0 hz1 hz2 rfl (by decide) _ _ _ rfl (hown.alloc _) ⟨w1.heap.size, 0, none⟩ 1 1 [.int .u8 C] rfl rfl ?c1 ?c2 ?c3 ?c4 ?c5 ?_)
 case c1 =>
  intro j u hj
  match j, hj with
  | 0, hj => simp at hj; subst hj; simp [Addr.add]
 case c2 => intro u hu; simp at hu; subst hu; rfl
 case c3 => unfold maxLen; omega
 case c4 => omega
 case c5 => have := hb1.size; simp; omega
 intro v' w2 hown' hgrow _
 have hlt : b < w1.heap.size := (Array.getElem?_eq_some_iff.1 hbk).1
 have hb2 : w2.heap[b]? = some (.cells #[.pointer (some ⟨b, 0, none⟩), v, .int .i64 op] 61 (0, 0)) := by
  rw [hgrow.block b (by simp; omega) (fun e => hne e.symm), heap_alloc_old w1 _ hlt]
  exact hbk
 have d1 : w2.cell? ⟨b, 1, none⟩ = some v := cell_of_row _ _ 1 _ _ _ hb2
 have f1 : w2.frozen? ⟨b, 1, none⟩ = false := frozen_of_row w2 b 1 _ _ hb2
 obtain ⟨g, cap, rfl⟩ : ∃ g cap, v' = .slice (some ⟨g, 0, none⟩) (l.length + 1) cap := by
  rcases hown'.2 with ⟨_, h0⟩ | ⟨g, cap, cur, hv, _⟩
  ·omega
  ·exact ⟨g, cap, hv⟩
 go_wp2
 go_ret
 refine ⟨rfl, .inr (PbA.put hB hb2 (l' := l ++ [c]) ?_), ?_⟩
 ·rw [Lib.byteCells_append, List.length_append]; rw [HC.out] at hown'; exact hown'
 ·exact ((hb1.alloc (by have := hb1.size; omega) _).grown hgrow (by have := hb1.size; simp; omega) (fun k hk => (hown.lt k hk).1)).setCell (p := ⟨b, 1, none⟩) hB _
/-- String. -/
theorem string_any (B b : Nat) (l : List UInt8) (op : Int) (w : World) (h : Pb B b l op w) (h0 : l ≠ []) :
  Calls Tryz.prog 18 #[.pointer (some ⟨b, 0, none⟩)] w fun e w' => e = .returned (.string ⟨l.toArray⟩) ∧ Below B w w' := by
 obtain ⟨p, hB, v, hbk, hown, hne⟩ : ∃ p, PbA B b l op p w := by
  rcases h with h | h
  ·exact ⟨_, h⟩
  ·exact ⟨_, h⟩
 have hl0 : l.length ≠ 0 := by simpa using h0
 obtain ⟨g, cap, cur, rfl, hbg, hg, hnc, hcm, hcs, htake⟩ : ∃ g cap cur, v = .slice (some ⟨g, 0, none⟩) l.length cap ∧ B ≤ g ∧ w.heap[g]? = some (.cells cur 5 (0, 0)) ∧ l.length ≤ cap ∧ cap ≤ maxLen ∧ cur.size = cap * 1 ∧ cur.toList.take (l.length * 1) = Lib.byteCells l := by
  rcases hown.2 with ⟨_, hz⟩ | ⟨g, cap, cur, hv, r⟩
  ·exact absurd hz hl0
  ·exact ⟨g, cap, cur, hv, r⟩
 have c1 : w.drew.cell? ⟨b, 1, none⟩ = some (.slice (some ⟨g, 0, none⟩) l.length cap) := by
  have : w.drew.heap[b]? = some (.cells #[p, .slice (some ⟨g, 0, none⟩) l.length cap, .int .i64 op] 61 (0, 0)) := hbk
  exact cell_of_row _ _ 1 _ _ _ this
 have hSD : (Builtin.unsafeSliceData_ #[57] 105 #[.slice (some ⟨g, 0, none⟩) l.length cap]).run Tryz.prog w.drew = .ok (.pointer (some ⟨g, 0, none⟩)) w.drew :=
  Lib.run_unsafeSliceData_row _ _ _ _ _ _ (by omega)
 have hUS : (Builtin.unsafeString_ #[105, 3] 9 #[.pointer (some ⟨g, 0, none⟩), .int .i64 l.length]).run Tryz.prog w.drew = .ok (.string ⟨l.toArray⟩) (w.drew.freeze ⟨g, 0, none⟩ l.length) := by
  refine Lib.run_unsafeString_row w.drew 105 3 9 5 Tryz.underlying105 cells5 g cur.size (by have hg' : w.drew.heap[g]? = some (.cells cur 5 (0, 0)) := hg; simp [World.shape?, hg']) l h0 (by omega) (by unfold maxLen at hcm; omega) ?_
  intro j x hx
  have := hown.cells (g := g) rfl j (.int .u8 x.toNat) (by simp [Lib.byteCells, hx])
  exact this
 go_enter Tryz.func18, Tryz.ntmps18
 go_wp2
 go_region
 all_goals (go_wp2; go_ret; exact ⟨rfl, Lib.below_freeze (Below.drew (Below.refl B w)) (p := ⟨g, 0, none⟩) hbg _⟩)
end Go.Proofs.YtdlchhimkelinaaGreatDoor
namespace Go.Proofs.YtdlchhimkelinaaGreatDoor
open Go.RowKit Go.Sort
theorem Pb.cell2 {B b : Nat} {l : List UInt8} {op : Int} {w : World} (h : Pb B b l op w) : w.cell? ⟨b, 2, none⟩ = some (.int .i64 op) ∧ w.frozen? ⟨b, 2, none⟩ = false ∧ B ≤ b := by
 rcases h with h | h
 ·exact ⟨h.cell.2.1, h.cell.2.2.2 2, h.1⟩
 ·exact ⟨h.cell.2.1, h.cell.2.2.2 2, h.1⟩
/-- The braces that are open turn. -/
theorem Pb.open_ {B b : Nat} {l : List UInt8} {op : Int} {w : World} (h : Pb B b l op w) (n : Int) : Pb B b l n (w.setCell ⟨b, 2, none⟩ (.int .i64 n)) := by
 have go : ∀ a, PbA B b l op a w → PbA B b l n a (w.setCell ⟨b, 2, none⟩ (.int .i64 n)) := by
  rintro a ⟨hB, v, hb, ho, hn⟩
  exact ⟨hB, v, by simp [World.setCell, Array.getElem?_modify, hb], own_set ho hn _ _, hn⟩
 exact h.elim (fun x => .inl (go _ x)) (fun x => .inr (go _ x))
theorem line_any (B b : Nat) (l : List UInt8) (d : Nat) (s : ByteArray) (w : World) (h : Pb B b l (d : Int) w) (hd : d ≤ 100) (hl : l.length ≤ 100000000000) (hs : s.size ≤ 1000000000) (hBw : B ≤ w.heap.size) :
  Calls Tryz.prog 72 #[.pointer (some ⟨b, 0, none⟩), .string s] w fun e w' => e = .returned (.tuple #[]) ∧ Pb B b (l ++ Pn.pad d ++ s.data.toList ++ [10]) (d : Int) w' ∧ Below B w w' := by
 have HP := hdn h
 have c2 := h.cell2.1
 have hd0 : (0 : Int) ≤ (d : Int) := Int.natCast_nonneg _
 clear h
 go_enter Tryz.func72, Tryz.ntmps72
 go_wp2_with fail
 clear c2
 go_loopw [8] (fun i wr => ∃ n : Nat, n ≤ d ∧ i = .int .i64 n ∧ Hid (Pb B b (l ++ Pn.pad n) (d : Int) wr) ∧ Hid (Below B w wr)) (fun i _ => d - (intOf i).toNat)
 case atStart => exact ⟨0, Nat.zero_le _, rfl, by rw [show Pn.pad 0 = [] from rfl, List.append_nil]; exact HP, hdn (Below.refl _ _)⟩
 case round =>
  obtain ⟨n, hn, rfl, HPN, HB⟩ := hrel
  have hp := pad_len n
  have hw := HB.out.size
  by_cases hnd : n < d
  ·have hn1 : (n : Int) < (d : Int) := by omega
   have CW := writeStr_any B b (l ++ Pn.pad n) d ⟨#[32, 32]⟩ wr HPN.out (by rw [List.length_append, hp, show (⟨#[32, 32]⟩ : ByteArray).size = 2 from rfl]; omega) (by omega)
   go_wp2_with (go_at_call 110; refine CW.mono ?_; rintro e w1 ⟨rfl, h1, hb⟩; have HP1 := hdn h1; have HB1 := hdn (HB.out.trans hb); clear h1 hb)
   go_roundw
   case rel => exact ⟨n + 1, by omega, by go_num, hdn (by have := HP1.out; rw [List.append_assoc] at this; exact this), HB1⟩
   case measure => simp [intOf]; omega
  ·obtain rfl : n = d := by omega
   have CW := writeStr_any B b (l ++ Pn.pad n) n s wr HPN.out (by rw [List.length_append, hp]; omega) (by omega)
   have CB : Hid (∀ w', Pb B b (l ++ Pn.pad n ++ s.data.toList) (n : Int) w' → B ≤ w'.heap.size → Calls Tryz.prog 111 #[.pointer (some ⟨b, 0, none⟩), .int .u8 10] w' fun e w'' => e = .returned .nilIface ∧ Pb B b (l ++ Pn.pad n ++ s.data.toList ++ [10]) (n : Int) w'' ∧ Below B w' w'') := hdn (fun w' h' hb => writeByte_any B b _ n 10 w' h' (by rw [List.length_append, List.length_append, hp, show s.data.toList.length = s.size from rfl]; omega) hb)
   go_wp2_with (first | (go_at_call 110; refine CW.mono ?_; rintro e w1 ⟨rfl, h1, hb⟩; have HP1 := hdn h1; have HB1 := hdn (HB.out.trans hb); have hw1 := HB1.out.size; clear h1 hb) | (go_at_call 111; refine (CB.out _ HP1.out (by omega)).mono ?_; rintro e w2 ⟨rfl, h2, hb⟩; have HP2 := hdn h2; have HB2 := hdn (HB1.out.trans hb); clear h2 hb))
   go_end0
   exact ⟨rfl, HP2.out, HB2.out⟩
theorem begin_any (B b : Nat) (l : List UInt8) (d : Nat) (s : ByteArray) (w : World) (h : Pb B b l (d : Int) w) (hd : d ≤ 99) (hl : l.length ≤ 100000000000) (hs : s.size ≤ 100000000) (hBw : B ≤ w.heap.size) :
  Calls Tryz.prog 83 #[.pointer (some ⟨b, 0, none⟩), .string s] w fun e w' => e = .returned (.tuple #[]) ∧ Pb B b (l ++ Pn.pad d ++ (s.data.toList ++ [123]) ++ [10]) ((d : Int) + 1) w' ∧ Below B w w' := by
 have HS : Hid ((s ++ ⟨#[123]⟩ : ByteArray).data.toList = s.data.toList ++ [123]) := hdn (by simp)
 have CL := line_any B b l d (s ++ ⟨#[123]⟩) w h (by omega) hl (by rw [ByteArray.size_append, show (⟨#[123]⟩ : ByteArray).size = 1 from rfl]; omega) hBw
 rw [HS.out] at CL
 clear h
 have hd0 : (0 : Int) ≤ (d : Int) := Int.natCast_nonneg _
 go_enter Tryz.func83, Tryz.ntmps83
 go_wp2_with (go_at_call 72; refine CL.mono ?_; rintro e w1 ⟨rfl, h1, hb⟩; have c2 := h1.cell2.1; have f2 := h1.cell2.2.1; have HP1 := hdn h1; have HB1 := hdn hb; clear h1 hb)
 go_end0
 exact ⟨rfl, HP1.out.open_ _, HB1.out.setCell (p := ⟨b, 2, none⟩) HP1.out.cell2.2.2 _⟩
theorem end_any (B b : Nat) (l : List UInt8) (d : Nat) (w : World) (h : Pb B b l ((d : Int) + 1) w) (hd : d ≤ 99) (hl : l.length ≤ 100000000000) (hBw : B ≤ w.heap.size) :
  Calls Tryz.prog 84 #[.pointer (some ⟨b, 0, none⟩)] w fun e w' => e = .returned (.tuple #[]) ∧ Pb B b (l ++ Pn.pad d ++ [125] ++ [10]) (d : Int) w' ∧ Below B w w' := by
 have c2 := h.cell2.1; have f2 := h.cell2.2.1
 have hd0 : (0 : Int) ≤ (d : Int) := Int.natCast_nonneg _
 have h2 := h.open_ (d : Int)
 have HB := hdn ((Below.refl B w).setCell (p := ⟨b, 2, none⟩) h.cell2.2.2 (.int .i64 (d : Int)))
 have CL := hdn (line_any B b l d ⟨#[125]⟩ (w.setCell ⟨b, 2, none⟩ (.int .i64 (d : Int))) h2 (by omega) hl (by decide) (Nat.le_trans hBw HB.out.size))
 clear h h2
 have e1 : (d : Int) + 1 - 1 = (d : Int) := by omega
 go_enter Tryz.func84, Tryz.ntmps84
 go_wp2_with (go_at_call 72; refine CL.out.mono ?_; rintro e w1 ⟨rfl, h1, hb⟩; have HP1 := hdn h1; have HB1 := hdn (HB.out.trans hb); clear h1 hb)
 go_end0
 exact ⟨rfl, HP1.out, HB1.out⟩
end Go.Proofs.YtdlchhimkelinaaGreatDoor
namespace Go.Proofs.YtdlchhimkelinaaGreatDoor
open Go.RowKit Go.Sort
theorem path_flat (n : ByteArray) (p : Option Addr) (c b o : Nat) (w : World) (h0 : w.cell? ⟨b, o, none⟩ = some (.string n)) (h2 : w.cell? ⟨b, o + 2, none⟩ = some (.slice p 0 c)) :
  Calls Tryz.prog 73 #[.pointer (some ⟨b, o, none⟩)] w fun e w' => e = .returned (.string n) ∧ w = w' := by
 go_enter Tryz.func73, Tryz.ntmps73
 go_wp2_with fail
 go_loop [3, 15] (fun t i => t = .string n ∧ i = .int .i64 0) (fun _ _ => 0)
 case atStart => exact ⟨rfl, rfl⟩
 case round =>
  obtain ⟨rfl, rfl⟩ := hrel
  go_wp2_with fail
  go_ret
  exact ⟨rfl, rfl⟩
theorem value_null (b o : Nat) (w : World) (h0 : w.cell? ⟨b, o, none⟩ = some (.int .i64 0)) :
  Calls Tryz.prog 74 #[.pointer (some ⟨b, o, none⟩)] w fun e w' => e = .returned (.string ⟨#[110, 117, 108, 108]⟩) ∧ w = w' := by
 go_enter Tryz.func74, Tryz.ntmps74
 go_wp2_with fail
 go_ret
 exact ⟨rfl, rfl⟩
/-- x = null; -/
def tSx : List UInt8 := [120, 32, 61, 32, 110, 117, 108, 108, 59]
theorem tSx_eq : nX ++ ⟨#[32, 61, 32]⟩ ++ ⟨#[110, 117, 108, 108]⟩ ++ ⟨#[59]⟩ = (⟨tSx.toArray⟩ : ByteArray) := by rfl
theorem enters35 : ∀ args w, (callFunc 35 args).run Tryz.prog w = .ok (.enter 35 args) w := enters Tryz.func35 (by kernel_rfl) rfl
theorem enters47 : ∀ args w, (callFunc 47 args).run Tryz.prog w = .ok (.enter 47 args) w := enters Tryz.func47 (by kernel_rfl) rfl
theorem stmt_sx (B b : Nat) (l : List UInt8) (d L o : Nat) (w : World) (h : Pb B b l (d : Int) w) (hd : d ≤ 99) (hl : l.length ≤ 100000000000) (hBw : B ≤ w.heap.size) (hr : w.rangeAt L o sx.cells) :
  Calls Tryz.prog 35 #[.pointer (some ⟨b, 0, none⟩), .pointer (some ⟨L, o, none⟩)] w fun e w' => e = .returned (.tuple #[]) ∧ Pb B b (l ++ Pn.pad d ++ tSx ++ [10]) (d : Int) w' ∧ Below B w w' := by
 have c0 : w.cell? ⟨L, o, none⟩ = some (.int .i64 1) := cell_at hr 0 _ rfl
 have CP := hdn (fun n => path_flat nX none 0 L (o + 2) (w.drewN n) (cell_at hr 2 _ rfl) (cell_at hr 4 _ rfl))
 have CV := hdn (fun n => value_null L (o + 5) (w.drewN n) (cell_at hr 5 _ rfl))
 have CL := hdn (fun n => line_any B b l d ⟨tSx.toArray⟩ (w.drewN n) h (by omega) hl (by decide) hBw)
 clear h hr
 go_enter Tryz.func35, Tryz.ntmps35
 go_wp2_with fail
 go_region_with (first | (go_at_call 73; refine (CP.out _).mono ?_; rintro e w1 ⟨rfl, rfl⟩) | (go_at_call 74; refine (CV.out _).mono ?_; rintro e w1 ⟨rfl, rfl⟩) | (rw [tSx_eq]; go_at_call 72; refine (CL.out _).mono ?_; rintro e w1 ⟨rfl, h1, hb⟩; have HP1 := hdn h1; have HB1 := hdn hb; clear h1 hb))
 all_goals (go_wp2_with fail; go_end0; exact ⟨rfl, HP1.out, (below_drewN_ (Below.refl B w) 1).trans HB1.out⟩)
theorem eachSt_sx (B b : Nat) (l : List UInt8) (d L o c : Nat) (w : World) (h : Pb B b l (d : Int) w) (hd : d ≤ 99) (hl : l.length ≤ 100000000000) (hBw : B ≤ w.heap.size) (hr : w.rangeAt L o sx.cells) :
  Calls Tryz.prog 34 #[.slice (some ⟨L, o, none⟩) 1 c, .func (.func 35) #[.pointer (some ⟨b, 0, none⟩)] #[]] w fun e w' => e = .returned (.tuple #[]) ∧ Pb B b (l ++ Pn.pad d ++ tSx ++ [10]) (d : Int) w' ∧ Below B w w' := by
 have HC := hdn (stmt_sx B b l d L o w h hd hl hBw hr)
 clear h hr
 have hcl := enters35
 go_enter Tryz.func34, Tryz.ntmps34
 go_wp2_with fail
 go_loopw [7] (fun i wr => (i = .int .i64 0 ∧ wr = w) ∨ (i = .int .i64 1 ∧ Hid (Pb B b (l ++ Pn.pad d ++ tSx ++ [10]) (d : Int) wr) ∧ Hid (Below B w wr))) (fun i _ => 1 - (intOf i).toNat)
 case atStart => exact .inl ⟨rfl, rfl⟩
 case round =>
  rcases hrel with ⟨rfl, rfl⟩ | ⟨rfl, HP1, HB1⟩
  ·go_wp2_with fail
   refine HC.out.mono ?_; rintro e w1 ⟨rfl, h1, hb⟩
   have HP1 := hdn h1; have HB1 := hdn hb
   clear h1 hb
   go_wp2_with fail
   go_roundw
   case rel => exact .inr ⟨rfl, HP1, HB1⟩
   case measure => simp [intOf]
  ·go_wp2_with fail
   go_end0
   exact ⟨rfl, HP1.out, HB1.out⟩
theorem join_nil (p : Option Addr) (c : Nat) (s : ByteArray) (w : World) : Calls Tryz.prog 113 #[.slice p 0 c, .string s] w fun e w' => e = .returned (.string ByteArray.empty) ∧ w = w' := by
 go_enter Tryz.func113, Tryz.ntmps113
 go_wp2_with fail
 go_ret
 exact ⟨rfl, rfl⟩
theorem mk0 (w : World) : (Instr.makeSlice 162 (.int .i64 0) (.int .i64 0)).run Tryz.prog w = .ok (.slice (some ⟨w.heap.size, 0, none⟩) 0 0) (w.alloc (.cells #[] 9)) := by kernel_rfl
theorem commas_nil (p : Option Addr) (c : Nat) (f : Value) (w : World) : Calls Tryz.prog 86 #[.slice p 0 c, f] w fun e w' => e = .returned (.string ByteArray.empty) ∧ Below w.heap.size w w' := by
 have hmk := mk0
 have HB : Hid (Below w.heap.size w (w.alloc (.cells #[] 9))) := hdn ((Below.refl _ _).alloc (Nat.le_refl _) _)
 go_enter Tryz.func86, Tryz.ntmps86
 go_wp2_with fail
 go_loop [12] (fun i => i = .int .i64 0) (fun _ => 0)
 case atStart => rfl
 case round =>
  obtain rfl := hrel
  go_wp2_with (go_at_call 113; refine (join_nil _ _ _ _).mono ?_; rintro e w1 ⟨rfl, rfl⟩)
  go_ret
  exact ⟨rfl, HB.out⟩
end Go.Proofs.YtdlchhimkelinaaGreatDoor
