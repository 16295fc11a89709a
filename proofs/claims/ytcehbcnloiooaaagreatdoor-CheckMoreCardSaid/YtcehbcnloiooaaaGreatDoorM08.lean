/-
  The walk of besides at a branch, a loop. The walk of besides at a branch, a loop. The walk of besides at a branch, a loop. The walks of the document's Count and Deep. The walks of the document's "may these be?": statements, declarations. The printer's judge, true ways: statements within statements. 
-/
import Derived.Test.YtcehbcnloiooaaaGreatDoorM07
import Derived.Test.YtcehbcnloiooaaaGreatDoorM05
import Derived.Test.YtcehbcnloiooaaaGreatDoorM02
import Derived.Lib.QuietBelow
import Derived.Test.YtcehbcnloiooaaaGreatDoorM06
import Derived.Shelf.Strings.OnBuilder
import Derived.Shelf.Strconv.Itoa0
import Derived.Shelf.Strconv.Itoa1
import Derived.Shelf.LaysM
import Derived.Shelf.Strconv.Itoa2
import Derived.Shelf.Strconv.Itoa3
import Derived.Test.YtcehbcnloiooaaaGreatDoorProg
import Derived.Lib.SmallJoins
import Derived.Deep.RegionHeld3
import Derived.Laws.BytesArg
import Derived.IntWalk
import Derived.Lib.Builder
import Derived.Lib.AppendStr
import Derived.Lib.UnsafeStr
import Derived.Laws.Externs
import Derived.OwnWalk
set_option maxHeartbeats 6400000
set_option maxRecDepth 100000
namespace Go.Proofs.YtcehbcnloiooaaaGreatDoor
open Go.RowKit Go.Sort
theorem putC_cond4 (x:It) (c:Cd):putC (It.cells x) 17 (Cd.cells c)=It.cells {x with h:= {x.h with cond:=c}}:=by kernel_rfl
theorem zCd_built4:Tryz.prog.built 60 []=some (Cd.cells Pr.noCd).toArray:=by kernel_rfl
theorem besides4h (zc:Cd) (hz:Hid (Tryz.prog.built 60 []=some (Cd.cells zc).toArray)) (x:It) (cs:Array Value) (hcs:cs=x.cells.toArray) (w:World) (k:x.h.kind=4) (hb0:x.h.both=false):
  Calls Tryz.prog 138 #[.agg cs] w fun e w'=>e= .returned (.agg (It.cells {x with h:= {x.h with kind:=0,cond:=zc},tp:=none,tc:=0,t:= .nil}).toArray)∧Below w.heap.size w w':=by
 obtain ⟨wA,hwA⟩: ∃wA:World,wA=(w.alloc (.cells cs 63)).alloc (.cells zIt.cells.toArray 63):=⟨_,rfl⟩
 have HBA:Hid (Below w.heap.size w wA):=hdn (by rw[hwA];exact ((Below.refl _ _).alloc (Nat.le_refl _) _).alloc (by simp) _)
 have HK:Hid (Bk wA w.heap.size 63 x.cells.toArray):=hdn (by rw[hwA,←hcs];exact heap_alloc2_old _ _ _)
 have HR:Hid (Bk wA (w.heap.size+1) 63 zIt.cells.toArray):=hdn (by rw[hwA];exact heap_alloc2_new _ _ _)
 have Z_k:=hdn k
 have Z_b:=hdn hb0
 clear k hcs hb0
 go_enter Tryz.func138,Tryz.ntmps138
 go_upto_region 1 with fail
 change Code.wp _ _ _ _ ((w.alloc (.cells cs 63)).alloc (.cells zIt.cells.toArray 63))
 rw[←hwA]
 clear hwA
 obtain ⟨A,hA⟩: ∃A,A=w.heap.size:=⟨_,rfl⟩
 rw[←hA] at HK HR HBA ⊢
 have HA:=hdn hA
 clear hA
 have HBw:Hid (Below w.heap.size w wA):=hdn (by rw[←HA.out];exact HBA.out)
 have HKw:Hid (Bk wA A 63 (It.cells x).toArray):=HK
 have c0:wA.cell? ⟨A,0,none⟩=some (.int .i64 x.h.kind):=HK.out.cell 0
 rw[Z_k.out] at c0
 clear HK HBA
 go_upto_region 10 with (first |((with_reducible show wpList _ _ _ (Oper.mk (some 21) _ _ _ _ _::_) _ _);refine wpList_zero rfl 60 rfl (some 21) rfl _ hz.out ?_)|((with_reducible show wpList _ _ _ (Oper.mk none (Op.store 60 _ _) _ _ _ _::_) _ _);refine wpList_store_part rfl 60 (.tmp 22) (.tmp 21) rfl A 17 63 (It.cells x) (Cd.cells zc) rfl rfl HKw.out size51c (by show 17+26≤48;decide) (kCd.one zc) ?_;intro v1 hk hg;rw[putC_cond4] at hk;have HKn:Hid (Bk v1 A 63 (It.cells {x with h:= {x.h with cond:=zc}}).toArray):=hdn hk;have HG:=hdn hg;clear hk hg c0;have d45:v1.cell? ⟨A,45,none⟩=some (.slice x.tp x.t.len x.tc):=HKn.out.cell 45;have f45:=HKn.out.frozen 45))
 clear d45 f45
 have HBn:Hid (Below w.heap.size w v1):=hdn (below_by HBw.out HG.out (by rw[HA.out];exact Nat.le_refl _))
 have HRn:=hdn (HR.out.kept HG.out (by omega))
 clear HKw HBw HR
 have g2:=grownBy_setC v1 ⟨A,45,none⟩ (.slice none 0 0)
 have HKw:Hid (Bk (v1.setCell ⟨A,45,none⟩ (.slice none 0 0)) A 63 (It.cells {x with h:= {x.h with cond:=zc},tp:=none,tc:=0,t:= .nil}).toArray):=hdn (HKn.out.setArr 45 (.slice none 0 0))
 have HR:=hdn (HRn.out.kept g2 (by show A+1≠A;omega))
 have HBw:Hid (Below w.heap.size w (v1.setCell ⟨A,45,none⟩ (.slice none 0 0))):=hdn (below_by HBn.out g2 (by rw[HA.out];exact Nat.le_refl _))
 clear g2 HKn HBn HRn
 change Code.wp _ _ _ _ (v1.setCell ⟨A,45,none⟩ (.slice none 0 0))
 generalize hq:v1.setCell ⟨A,45,none⟩ (.slice none 0 0)=u1 at HKw HBw HR ⊢
 clear hq
 have d47:u1.cell? ⟨A,47,none⟩=some (.bool x.h.both):=HKw.out.cell 47
 rw[Z_b.out] at d47
 have q0:u1.cell? ⟨A,0,none⟩=some (.int .i64 x.h.kind):=HKw.out.cell 0
 have f0:=HKw.out.frozen 0
 have gS:=grownBy_setC u1 ⟨A,0,none⟩ (.int .i64 0)
 have HK3:Hid (Bk (u1.setCell ⟨A,0,none⟩ (.int .i64 0)) A 63 (It.cells {x with h:= {x.h with kind:=0,cond:=zc},tp:=none,tc:=0,t:= .nil}).toArray):=hdn (HKw.out.setArr 0 (.int .i64 0))
 have HR3:=hdn (HR.out.kept gS (by show A+1≠A;omega))
 have HB3:Hid (Below w.heap.size w (u1.setCell ⟨A,0,none⟩ (.int .i64 0))):=hdn (below_by HBw.out gS (by rw[HA.out];exact Nat.le_refl _))
 clear gS
 go_wp2_with (first |((with_reducible show wpList _ _ _ (Oper.mk (some 37) _ _ _ _ _::_) _ _);refine wpList_load_bk rfl 63 (.tmp 1) rfl A 63 (It.cells {x with h:= {x.h with kind:=0,cond:=zc},tp:=none,tc:=0,t:= .nil}).toArray rfl _ HK3.out Tryz.underlying63 rfl size57 ?_)|((with_reducible show wpList _ _ _ (Oper.mk none (Op.store 63 _ _) _ _ _ _::_) _ _);refine wpList_store_bk rfl 63 (.tmp 2) (.tmp 37) rfl (A+1) 63 _ (It.cells {x with h:= {x.h with kind:=0,cond:=zc},tp:=none,tc:=0,t:= .nil}).toArray rfl rfl HR3.out size57 rfl (scells_one _ _ _ _ _ _ _) ?_;intro wZ hZ hF))
 exact bodyPost_ret (results_cell_row Tryz.results138 _ wZ (A+1) 63 (It.cells {x with h:= {x.h with kind:=0,cond:=zc},tp:=none,tc:=0,t:= .nil}).toArray (0,0) _ rfl hZ Tryz.underlying63 rfl size57) rfl ⟨rfl,below_by HB3.out hF (by rw[HA.out];exact Nat.le_succ _)⟩
theorem besides4g (x:It) (cs:Array Value) (hcs:cs=x.cells.toArray) (w:World) (k:x.h.kind=4) (hb0:x.h.both=false):
  Calls Tryz.prog 138 #[.agg cs] w fun e w'=>e= .returned (.agg (It.cells {x with h:= {x.h with kind:=0,cond:=Pr.noCd},tp:=none,tc:=0,t:= .nil}).toArray)∧Below w.heap.size w w':=besides4h Pr.noCd (hdn zCd_built4) x cs hcs w k hb0
end Go.Proofs.YtcehbcnloiooaaaGreatDoor
namespace Go.Proofs.YtcehbcnloiooaaaGreatDoor
open Go.RowKit Go.Sort
theorem putC_cond4b (x:It) (c:Cd):putC (It.cells x) 17 (Cd.cells c)=It.cells {x with h:= {x.h with cond:=c}}:=by kernel_rfl
theorem zCd_built4b:Tryz.prog.built 60 []=some (Cd.cells Pr.noCd).toArray:=by kernel_rfl
theorem besides4bh (zc:Cd) (hz:Hid (Tryz.prog.built 60 []=some (Cd.cells zc).toArray)) (x:It) (cs:Array Value) (hcs:cs=x.cells.toArray) (w:World) (k:x.h.kind=4) (hb0:x.h.both=true):
  Calls Tryz.prog 138 #[.agg cs] w fun e w'=>e= .returned (.agg (It.cells {x with h:= {x.h with kind:=0,cond:=zc,both:=false},tp:=none,tc:=0,t:= .nil,ep:=none,ec:=0,e:= .nil}).toArray)∧Below w.heap.size w w':=by
 obtain ⟨wA,hwA⟩: ∃wA:World,wA=(w.alloc (.cells cs 63)).alloc (.cells zIt.cells.toArray 63):=⟨_,rfl⟩
 have HBA:Hid (Below w.heap.size w wA):=hdn (by rw[hwA];exact ((Below.refl _ _).alloc (Nat.le_refl _) _).alloc (by simp) _)
 have HK:Hid (Bk wA w.heap.size 63 x.cells.toArray):=hdn (by rw[hwA,←hcs];exact heap_alloc2_old _ _ _)
 have HR:Hid (Bk wA (w.heap.size+1) 63 zIt.cells.toArray):=hdn (by rw[hwA];exact heap_alloc2_new _ _ _)
 have Z_k:=hdn k
 have Z_b:=hdn hb0
 clear k hcs hb0
 go_enter Tryz.func138,Tryz.ntmps138
 go_upto_region 1 with fail
 change Code.wp _ _ _ _ ((w.alloc (.cells cs 63)).alloc (.cells zIt.cells.toArray 63))
 rw[←hwA]
 clear hwA
 obtain ⟨A,hA⟩: ∃A,A=w.heap.size:=⟨_,rfl⟩
 rw[←hA] at HK HR HBA ⊢
 have HA:=hdn hA
 clear hA
 have HBw:Hid (Below w.heap.size w wA):=hdn (by rw[←HA.out];exact HBA.out)
 have HKw:Hid (Bk wA A 63 (It.cells x).toArray):=HK
 have c0:wA.cell? ⟨A,0,none⟩=some (.int .i64 x.h.kind):=HK.out.cell 0
 rw[Z_k.out] at c0
 clear HK HBA
 go_upto_region 10 with (first |((with_reducible show wpList _ _ _ (Oper.mk (some 21) _ _ _ _ _::_) _ _);refine wpList_zero rfl 60 rfl (some 21) rfl _ hz.out ?_)|((with_reducible show wpList _ _ _ (Oper.mk none (Op.store 60 _ _) _ _ _ _::_) _ _);refine wpList_store_part rfl 60 (.tmp 22) (.tmp 21) rfl A 17 63 (It.cells x) (Cd.cells zc) rfl rfl HKw.out size51c (by show 17+26≤48;decide) (kCd.one zc) ?_;intro v1 hk hg;rw[putC_cond4b] at hk;have HKn:Hid (Bk v1 A 63 (It.cells {x with h:= {x.h with cond:=zc}}).toArray):=hdn hk;have HG:=hdn hg;clear hk hg c0;have d45:v1.cell? ⟨A,45,none⟩=some (.slice x.tp x.t.len x.tc):=HKn.out.cell 45;have f45:=HKn.out.frozen 45))
 clear d45 f45
 have HBn:Hid (Below w.heap.size w v1):=hdn (below_by HBw.out HG.out (by rw[HA.out];exact Nat.le_refl _))
 have HRn:=hdn (HR.out.kept HG.out (by omega))
 clear HKw HBw HR
 have g2:=grownBy_setC v1 ⟨A,45,none⟩ (.slice none 0 0)
 have HKw:Hid (Bk (v1.setCell ⟨A,45,none⟩ (.slice none 0 0)) A 63 (It.cells {x with h:= {x.h with cond:=zc},tp:=none,tc:=0,t:= .nil}).toArray):=hdn (HKn.out.setArr 45 (.slice none 0 0))
 have HR:=hdn (HRn.out.kept g2 (by show A+1≠A;omega))
 have HBw:Hid (Below w.heap.size w (v1.setCell ⟨A,45,none⟩ (.slice none 0 0))):=hdn (below_by HBn.out g2 (by rw[HA.out];exact Nat.le_refl _))
 clear g2 HKn HBn HRn
 change Code.wp _ _ _ _ (v1.setCell ⟨A,45,none⟩ (.slice none 0 0))
 generalize hq:v1.setCell ⟨A,45,none⟩ (.slice none 0 0)=u1 at HKw HBw HR ⊢
 clear hq
 have d47:u1.cell? ⟨A,47,none⟩=some (.bool x.h.both):=HKw.out.cell 47
 rw[Z_b.out] at d47
 go_upto_region 11 with fail
 clear d47
 have d46:(u1).cell? ⟨A,46,none⟩=some (.slice x.ep x.e.len x.ec):=HKw.out.cell 46
 have f46:=HKw.out.frozen 46
 have g46:=grownBy_setC (u1) ⟨A,46,none⟩ (.slice none 0 0)
 have HK46:Hid (Bk ((u1).setCell ⟨A,46,none⟩ (.slice none 0 0)) A 63 (It.cells {x with h:= {x.h with cond:=zc},tp:=none,tc:=0,t:= .nil,ep:=none,ec:=0,e:= .nil}).toArray):=hdn (HKw.out.setArr 46 (.slice none 0 0))
 have HR46:=hdn (HR.out.kept g46 (by show A+1≠A;omega))
 have HB46:Hid (Below w.heap.size w ((u1).setCell ⟨A,46,none⟩ (.slice none 0 0))):=hdn (below_by HBw.out g46 (by rw[HA.out];exact Nat.le_refl _))
 clear g46
 have d47:((u1).setCell ⟨A,46,none⟩ (.slice none 0 0)).cell? ⟨A,47,none⟩=some (.bool true):=by rw[HK46.out.cell 47];show some (Value.bool x.h.both)=_;rw[Z_b.out]
 have f47:=HK46.out.frozen 47
 have g47:=grownBy_setC ((u1).setCell ⟨A,46,none⟩ (.slice none 0 0)) ⟨A,47,none⟩ (.bool false)
 have HK47:Hid (Bk (((u1).setCell ⟨A,46,none⟩ (.slice none 0 0)).setCell ⟨A,47,none⟩ (.bool false)) A 63 (It.cells {x with h:= {x.h with cond:=zc,both:=false},tp:=none,tc:=0,t:= .nil,ep:=none,ec:=0,e:= .nil}).toArray):=hdn (HK46.out.setArr 47 (.bool false))
 have HR47:=hdn (HR46.out.kept g47 (by show A+1≠A;omega))
 have HB47:Hid (Below w.heap.size w (((u1).setCell ⟨A,46,none⟩ (.slice none 0 0)).setCell ⟨A,47,none⟩ (.bool false))):=hdn (below_by HB46.out g47 (by rw[HA.out];exact Nat.le_refl _))
 clear g47
 go_upto_region 16 with fail
 clear d46 f46 d47 f47 HKw HBw HR
 clear HK46 HR46 HB46
 change Code.wp _ _ _ _ (((u1).setCell ⟨A,46,none⟩ (.slice none 0 0)).setCell ⟨A,47,none⟩ (.bool false))
 generalize hq2:((u1).setCell ⟨A,46,none⟩ (.slice none 0 0)).setCell ⟨A,47,none⟩ (.bool false)=v2 at HK47 HB47 HR47 ⊢
 clear hq2
 have HKw:=HK47;have HBw:=HB47;have HR:=HR47
 clear HK47 HB47 HR47
 have q0:v2.cell? ⟨A,0,none⟩=some (.int .i64 x.h.kind):=HKw.out.cell 0
 have f0:=HKw.out.frozen 0
 have gS:=grownBy_setC v2 ⟨A,0,none⟩ (.int .i64 0)
 have HK3:Hid (Bk (v2.setCell ⟨A,0,none⟩ (.int .i64 0)) A 63 (It.cells {x with h:= {x.h with kind:=0,cond:=zc,both:=false},tp:=none,tc:=0,t:= .nil,ep:=none,ec:=0,e:= .nil}).toArray):=hdn (HKw.out.setArr 0 (.int .i64 0))
 have HR3:=hdn (HR.out.kept gS (by show A+1≠A;omega))
 have HB3:Hid (Below w.heap.size w (v2.setCell ⟨A,0,none⟩ (.int .i64 0))):=hdn (below_by HBw.out gS (by rw[HA.out];exact Nat.le_refl _))
 clear gS
 go_wp2_with (first |((with_reducible show wpList _ _ _ (Oper.mk (some 37) _ _ _ _ _::_) _ _);refine wpList_load_bk rfl 63 (.tmp 1) rfl A 63 (It.cells {x with h:= {x.h with kind:=0,cond:=zc,both:=false},tp:=none,tc:=0,t:= .nil,ep:=none,ec:=0,e:= .nil}).toArray rfl _ HK3.out Tryz.underlying63 rfl size57 ?_)|((with_reducible show wpList _ _ _ (Oper.mk none (Op.store 63 _ _) _ _ _ _::_) _ _);refine wpList_store_bk rfl 63 (.tmp 2) (.tmp 37) rfl (A+1) 63 _ (It.cells {x with h:= {x.h with kind:=0,cond:=zc,both:=false},tp:=none,tc:=0,t:= .nil,ep:=none,ec:=0,e:= .nil}).toArray rfl rfl HR3.out size57 rfl (scells_one _ _ _ _ _ _ _) ?_;intro wZ hZ hF))
 exact bodyPost_ret (results_cell_row Tryz.results138 _ wZ (A+1) 63 (It.cells {x with h:= {x.h with kind:=0,cond:=zc,both:=false},tp:=none,tc:=0,t:= .nil,ep:=none,ec:=0,e:= .nil}).toArray (0,0) _ rfl hZ Tryz.underlying63 rfl size57) rfl ⟨rfl,below_by HB3.out hF (by rw[HA.out];exact Nat.le_succ _)⟩
theorem besides4bg (x:It) (cs:Array Value) (hcs:cs=x.cells.toArray) (w:World) (k:x.h.kind=4) (hb0:x.h.both=true):
  Calls Tryz.prog 138 #[.agg cs] w fun e w'=>e= .returned (.agg (It.cells {x with h:= {x.h with kind:=0,cond:=Pr.noCd,both:=false},tp:=none,tc:=0,t:= .nil,ep:=none,ec:=0,e:= .nil}).toArray)∧Below w.heap.size w w':=besides4bh Pr.noCd (hdn zCd_built4b) x cs hcs w k hb0
end Go.Proofs.YtcehbcnloiooaaaGreatDoor
namespace Go.Proofs.YtcehbcnloiooaaaGreatDoor
open Go.RowKit Go.Sort
theorem putC_cond5 (x:It) (c:Cd):putC (It.cells x) 17 (Cd.cells c)=It.cells {x with h:= {x.h with cond:=c}}:=by kernel_rfl
theorem zCd_built5:Tryz.prog.built 60 []=some (Cd.cells Pr.noCd).toArray:=by kernel_rfl
theorem besides5h (zc:Cd) (hz:Hid (Tryz.prog.built 60 []=some (Cd.cells zc).toArray)) (x:It) (cs:Array Value) (hcs:cs=x.cells.toArray) (w:World) (k:x.h.kind=5):
  Calls Tryz.prog 138 #[.agg cs] w fun e w'=>e= .returned (.agg (It.cells {x with h:= {x.h with kind:=0,cond:=zc},tp:=none,tc:=0,t:= .nil}).toArray)∧Below w.heap.size w w':=by
 obtain ⟨wA,hwA⟩: ∃wA:World,wA=(w.alloc (.cells cs 63)).alloc (.cells zIt.cells.toArray 63):=⟨_,rfl⟩
 have HBA:Hid (Below w.heap.size w wA):=hdn (by rw[hwA];exact ((Below.refl _ _).alloc (Nat.le_refl _) _).alloc (by simp) _)
 have HK:Hid (Bk wA w.heap.size 63 x.cells.toArray):=hdn (by rw[hwA,←hcs];exact heap_alloc2_old _ _ _)
 have HR:Hid (Bk wA (w.heap.size+1) 63 zIt.cells.toArray):=hdn (by rw[hwA];exact heap_alloc2_new _ _ _)
 have Z_k:=hdn k
 clear k hcs
 go_enter Tryz.func138,Tryz.ntmps138
 go_upto_region 1 with fail
 change Code.wp _ _ _ _ ((w.alloc (.cells cs 63)).alloc (.cells zIt.cells.toArray 63))
 rw[←hwA]
 clear hwA
 obtain ⟨A,hA⟩: ∃A,A=w.heap.size:=⟨_,rfl⟩
 rw[←hA] at HK HR HBA ⊢
 have HA:=hdn hA
 clear hA
 have HBw:Hid (Below w.heap.size w wA):=hdn (by rw[←HA.out];exact HBA.out)
 have HKw:Hid (Bk wA A 63 (It.cells x).toArray):=HK
 have c0:wA.cell? ⟨A,0,none⟩=some (.int .i64 x.h.kind):=HK.out.cell 0
 rw[Z_k.out] at c0
 clear HK HBA
 go_upto_region 16 with (first |((with_reducible show wpList _ _ _ (Oper.mk (some 30) _ _ _ _ _::_) _ _);refine wpList_zero rfl 60 rfl (some 30) rfl _ hz.out ?_)|((with_reducible show wpList _ _ _ (Oper.mk none (Op.store 60 _ _) _ _ _ _::_) _ _);refine wpList_store_part rfl 60 (.tmp 31) (.tmp 30) rfl A 17 63 (It.cells x) (Cd.cells zc) rfl rfl HKw.out size51c (by show 17+26≤48;decide) (kCd.one zc) ?_;intro v1 hk hg;rw[putC_cond5] at hk;have HKn:Hid (Bk v1 A 63 (It.cells {x with h:= {x.h with cond:=zc}}).toArray):=hdn hk;have HG:=hdn hg;clear hk hg c0;have d45:v1.cell? ⟨A,45,none⟩=some (.slice x.tp x.t.len x.tc):=HKn.out.cell 45;have f45:=HKn.out.frozen 45))
 clear d45 f45
 have HBn:Hid (Below w.heap.size w v1):=hdn (below_by HBw.out HG.out (by rw[HA.out];exact Nat.le_refl _))
 have HRn:=hdn (HR.out.kept HG.out (by omega))
 clear HKw HBw HR
 have g2:=grownBy_setC v1 ⟨A,45,none⟩ (.slice none 0 0)
 have HKw:Hid (Bk (v1.setCell ⟨A,45,none⟩ (.slice none 0 0)) A 63 (It.cells {x with h:= {x.h with cond:=zc},tp:=none,tc:=0,t:= .nil}).toArray):=hdn (HKn.out.setArr 45 (.slice none 0 0))
 have HR:=hdn (HRn.out.kept g2 (by show A+1≠A;omega))
 have HBw:Hid (Below w.heap.size w (v1.setCell ⟨A,45,none⟩ (.slice none 0 0))):=hdn (below_by HBn.out g2 (by rw[HA.out];exact Nat.le_refl _))
 clear g2 HKn HBn HRn
 change Code.wp _ _ _ _ (v1.setCell ⟨A,45,none⟩ (.slice none 0 0))
 generalize hq:v1.setCell ⟨A,45,none⟩ (.slice none 0 0)=u1 at HKw HBw HR ⊢
 clear hq
 have q0:u1.cell? ⟨A,0,none⟩=some (.int .i64 x.h.kind):=HKw.out.cell 0
 have f0:=HKw.out.frozen 0
 have gS:=grownBy_setC u1 ⟨A,0,none⟩ (.int .i64 0)
 have HK3:Hid (Bk (u1.setCell ⟨A,0,none⟩ (.int .i64 0)) A 63 (It.cells {x with h:= {x.h with kind:=0,cond:=zc},tp:=none,tc:=0,t:= .nil}).toArray):=hdn (HKw.out.setArr 0 (.int .i64 0))
 have HR3:=hdn (HR.out.kept gS (by show A+1≠A;omega))
 have HB3:Hid (Below w.heap.size w (u1.setCell ⟨A,0,none⟩ (.int .i64 0))):=hdn (below_by HBw.out gS (by rw[HA.out];exact Nat.le_refl _))
 clear gS
 go_wp2_with (first |((with_reducible show wpList _ _ _ (Oper.mk (some 37) _ _ _ _ _::_) _ _);refine wpList_load_bk rfl 63 (.tmp 1) rfl A 63 (It.cells {x with h:= {x.h with kind:=0,cond:=zc},tp:=none,tc:=0,t:= .nil}).toArray rfl _ HK3.out Tryz.underlying63 rfl size57 ?_)|((with_reducible show wpList _ _ _ (Oper.mk none (Op.store 63 _ _) _ _ _ _::_) _ _);refine wpList_store_bk rfl 63 (.tmp 2) (.tmp 37) rfl (A+1) 63 _ (It.cells {x with h:= {x.h with kind:=0,cond:=zc},tp:=none,tc:=0,t:= .nil}).toArray rfl rfl HR3.out size57 rfl (scells_one _ _ _ _ _ _ _) ?_;intro wZ hZ hF))
 exact bodyPost_ret (results_cell_row Tryz.results138 _ wZ (A+1) 63 (It.cells {x with h:= {x.h with kind:=0,cond:=zc},tp:=none,tc:=0,t:= .nil}).toArray (0,0) _ rfl hZ Tryz.underlying63 rfl size57) rfl ⟨rfl,below_by HB3.out hF (by rw[HA.out];exact Nat.le_succ _)⟩
theorem besides5g (x:It) (cs:Array Value) (hcs:cs=x.cells.toArray) (w:World) (k:x.h.kind=5):
  Calls Tryz.prog 138 #[.agg cs] w fun e w'=>e= .returned (.agg (It.cells {x with h:= {x.h with kind:=0,cond:=Pr.noCd},tp:=none,tc:=0,t:= .nil}).toArray)∧Below w.heap.size w w':=besides5h Pr.noCd (hdn zCd_built5) x cs hcs w k
end Go.Proofs.YtcehbcnloiooaaaGreatDoor
namespace Go.Proofs.YtcehbcnloiooaaaGreatDoor
open Go.RowKit Go.Sort
def SL.count:SL→Nat
 |.nil=>0
 |.cons _ _ _ t _ _ e r=>1+t.count+e.count+r.count
def hold (kind:Int) (tn en:Nat):Bool:=kind==4 ||kind==5 ||kind==6 ||decide (0<tn)||decide (0<en)
def blk (kind:Int):Bool:=kind==4 ||kind==5 ||kind==6
def dg (kind:Int) (tn en:Nat) (dt de a:Int):Int:=if hold kind tn en=true then max (max a (1+dt)) (1+de) else a
theorem lies_head {w:World} {p:Option Addr} {k:Nat} {h:Hd} {tp:Option Addr} {tc:Nat} {t:SL} {ep:Option Addr} {ec:Nat} {e r:SL}
  (hr:SL.cons h tp tc t ep ec e r= .nil∨∃b o,p=some ⟨b,o,none⟩∧lies w (.cons h tp tc t ep ec e r) b (o+k*48)):
  ∃b o,p=some ⟨b,o,none⟩∧w.rangeAt b (o+k*48) (scells h tp t.len tc ep e.len ec)∧hdLies w h∧sLies w tp t∧sLies w ep e∧(r= .nil∨∃b' o',(some ⟨b,o,none⟩:Option Addr)=some ⟨b',o',none⟩∧lies w r b' (o'+(k+1)*48)):=by
 rcases hr with hr |⟨b,o,hp,h1,h2,h3,h4,h5⟩
 ·cases hr
 ·exact ⟨b,o,hp,h1,h2,h3,h4,.inr ⟨b,o,rfl,by rw[show o+(k+1)*48=o+k*48+48 by omega];exact h5⟩⟩
end Go.Proofs.YtcehbcnloiooaaaGreatDoor
namespace Go.Proofs.YtcehbcnloiooaaaGreatDoor
open Go.RowKit Go.Sort
theorem hd_lies {w:World} {p:Option Addr} {k:Nat} {h:Hd} {tp:Option Addr} {tc:Nat} {t:SL} {ep:Option Addr} {ec:Nat} {e r:SL}
  (hr:SL.cons h tp tc t ep ec e r= .nil∨∃b o,p=some ⟨b,o,none⟩∧lies w (.cons h tp tc t ep ec e r) b (o+k*48)):hdLies w h∧sLies w tp t∧sLies w ep e:=by
 obtain ⟨b,o,_,_,h1,h2,h3,_⟩:=lies_head hr
 exact ⟨h1,h2,h3⟩
end Go.Proofs.YtcehbcnloiooaaaGreatDoor
namespace Go.Proofs.YtcehbcnloiooaaaGreatDoor
open Go.RowKit Go.Sort
theorem bare_same (y:It) (k:y.h.kind=0) (h1:Pn.noP y.h.place=true) (h2:Pn.noVal y.h.value=true) (h3:Pn.noCond y.h.cond=true) (h4:Pn.noCall y.h=true) (h5:y.h.both=false) (ht:y.t= .nil) (he:y.e= .nil):sameSL zIt.one y.one=true:=by
 obtain ⟨n1,n2⟩:=Pn.noCall_er h4
 have e:y.one.er=zIt.one.er:=by
  show SL.cons ⟨y.h.kind,0,y.h.place.er,y.h.value.er,y.h.cond.er,y.h.name,y.h.args.er Vl.er,y.h.both⟩ none 0 y.t.er none 0 y.e.er SL.nil=_
  rw[k,Pn.noP_er h1,Pn.noVal_er h2,Pn.noCond_er h3,n1,n2,h5,ht,he];rfl
 rw[sameSL_er,e];exact sameSL_refl _
theorem bare_lies (y:It) (w:World) (h1:Pn.noP y.h.place=true) (h2:Pn.noVal y.h.value=true) (h3:Pn.noCond y.h.cond=true) (h4:Pn.noCall y.h=true) (ht:y.t= .nil) (he:y.e= .nil):itLies w y:=by
 have hc:=h4
 unfold Pn.noCall at hc
 unfold Pn.noP at h1
 unfold Pn.noCond at h3
 simp only[Bool.and_eq_true,decide_eq_true_eq] at hc h1 h3
 refine ⟨⟨nil_lies _ _ _ _ _ h1.2,nil_lies _ _ _ _ _ (noVal_hops h2),nil_lies _ _ _ _ _ (noVal_hops h3.1.2),nil_lies _ _ _ _ _ (noVal_hops h3.2),nil_lies _ _ _ _ _ hc.2, ?_⟩,⟨?_,.inl ht⟩,⟨?_,.inl he⟩⟩
 ·rw[(Pn.noCall_er h4).1];exact noName
 ·rw[ht];exact noLen
 ·rw[he];exact noLen
def JS (w0:World) (J:Nat) (s o:Int) (w:World):Prop:=Below w0.heap.size w0 w∧w0.heap.size≤J∧Bk w J 164 #[.int .i64 s,.int .i64 o]
theorem JS.below {w0 w w':World} {J:Nat} {s o:Int} (h:JS w0 J s o w) (hb:Below w.heap.size w w'):JS w0 J s o w':=
 ⟨h.1.trans (hb.mono h.1.size),h.2.1,h.2.2.below hb h.2.2.lt⟩
theorem JS.seen {w0 w:World} {J:Nat} {s o:Int} (h:JS w0 J s o w) (n:Int):JS w0 J n o (w.setCell ⟨J,0,none⟩ (.int .i64 n)):=
 ⟨below_by h.1 (grownBy_setC w ⟨J,0,none⟩ (.int .i64 n)) h.2.1,h.2.1,Bk.setArr (l:= [.int .i64 s,.int .i64 o]) h.2.2 0 (.int .i64 n)⟩
theorem JS.open_ {w0 w:World} {J:Nat} {s o:Int} (h:JS w0 J s o w) (n:Int):JS w0 J s n (w.setCell ⟨J,1,none⟩ (.int .i64 n)):=
 ⟨below_by h.1 (grownBy_setC w ⟨J,1,none⟩ (.int .i64 n)) h.2.1,h.2.1,Bk.setArr (l:= [.int .i64 s,.int .i64 o]) h.2.2 1 (.int .i64 n)⟩
theorem JS.gl {w0 w:World} {J:Nat} {s o:Int} (h:JS w0 J s o w) (hg:Gl w0):Gl w:=hg.below h.1 hg.two
def okJ (l:SL):Prop:= ∀(p:Option Addr) (c:Nat) (w0:World) (J:Nat) (s o:Int) (w:World),Gl w0→sLies w0 p l→JS w0 J s o w→Pn.okList l=true→0≤s→s+Pn.cnt l≤400→0≤o→o+Pn.dp l≤20→
 Calls Tryz.prog 116 #[.slice p l.len c,.func (.func 117) #[.pointer (some ⟨J,0,none⟩)] #[]] w fun e w'=>e= .returned (.bool true)∧JS w0 J (s+Pn.cnt l) o w'
theorem block_J (l:SL) (hJ:okJ l) (p:Option Addr) (c:Nat) (w0:World) (J:Nat) (s o:Int) (w:World) (hg:Gl w0) (hl:sLies w0 p l) (h:JS w0 J s o w) (ho:Pn.okList l=true) (hs:0≤s) (hs4:s+Pn.cnt l≤400) (h0:0≤o) (h20:o+1+Pn.dp l≤20):
  Calls Tryz.prog 161 #[.pointer (some ⟨J,0,none⟩),.slice p l.len c] w fun e w'=>e= .returned (.bool true)∧JS w0 J (s+Pn.cnt l) o w':=by
 have hd:=Pn.dp_nn l
 have h1:=h.open_ (o+1)
 have HC:=hdn (hJ p c w0 J s (o+1) _ hg hl h1 ho hs hs4 (by omega) (by omega))
 have c1:w.cell? ⟨J,1,none⟩=some (.int .i64 o):=h.2.2.cell 1
 have f1:=h.2.2.frozen 1
 have hne: ¬o=20:=by omega
 have hlt:o<20:=by omega
 clear hg hl h ho hs hs4 h1 hd h20 hJ
 generalize s+Pn.cnt l=s' at*
 go_enter Tryz.func161,Tryz.ntmps161
 go_upto_region 5 with (go_at_call 116;refine HC.out.mono ?_;rintro e w1 ⟨rfl,h1⟩;have HJ1:=hdn h1;clear h1)
 clear c1 f1
 have d1:w1.cell? ⟨J,1,none⟩=some (.int .i64 (o+1)):=HJ1.out.2.2.cell 1
 have g1:=HJ1.out.2.2.frozen 1
 have e1:o+1-1=o:=by omega
 have HF:=hdn (HJ1.out.open_ o)
 go_wp2_with fail
 go_ret
 first |exact ⟨rfl,HF.out⟩|exact ⟨rfl,by rw[e1];exact HF.out⟩
theorem enters154: ∀args w,(callFunc 159 args).run Tryz.prog w= .ok (.enter 159 args) w:=enters Tryz.func159 (by kernel_rfl) rfl
theorem allVl_any (l:List Vl) (p:Option Addr) (c:Nat) (w:World) (hg:Gl w) (h1:Lay 12 Vl.cells vlLies w p l) (ho: ∀x∈l,Pn.okSide x=true):
  Calls Tryz.prog 158 #[.slice p l.length c,.func (.func 159) #[] #[]] w fun e w'=>e= .returned (.bool true)∧Below w.heap.size w w':=by
 obtain ⟨hl,h1⟩:=h1
 have H1:=hdn h1;have HO:=hdn ho;have HG:=hdn hg
 clear h1 ho hg
 have hcl:=enters154
 go_enter Tryz.func158,Tryz.ntmps158
 go_wp2_with fail
 go_loopw [8] (fun i wr=> ∃n:Nat,n≤l.length∧i= .int .i64 n∧Hid (Below w.heap.size w wr)) (fun i _=>l.length-(intOf i).toNat)
 case atStart=>exact ⟨0,Nat.zero_le _,rfl,hdn (Below.refl _ _)⟩
 case round=>
  obtain ⟨n,hn,rfl,HB⟩:=hrel
  by_cases hnl:n<l.length
  ·obtain ⟨b1,o1,rfl,hx⟩: ∃b o,p=some ⟨b,o,none⟩∧∀k x,l[k]? =some x→w.rangeAt b (o+k*12) (Vl.cells x)∧vlLies w x:=by
    rcases H1.out with h |h
    ·rw[h] at hnl;simp at hnl
    ·exact h
   have hxn:=hx n l[n] (List.getElem?_eq_getElem hnl)
   have hok:=HO.out l[n] (List.getElem_mem hnl)
   generalize l[n]=x at hxn hok
   have HC:=hdn (isSide_any x b1 (o1+n*12) wr (HG.out.below HB.out HG.out.two) hok (rangeAt_below hxn.1 HB.out) (vlLies_below hxn.2 HB.out))
   have hn0:(0:Int)≤(n:Int):=Int.natCast_nonneg _
   have hn1:(n:Int)<(l.length:Int):=by omega
   clear hx hxn hok
   go_wp2_with fail
   refine HC.out.mono ?_;rintro e w1 ⟨rfl,hb⟩
   have HB1:=hdn (HB.out.trans (hb.mono HB.out.size))
   clear hb
   go_wp2_with fail
   go_roundw
   case rel=>exact ⟨n+1,by omega,by go_num,HB1⟩
   case measure=>simp[intOf];omega
  ·obtain rfl:n=l.length:=by omega
   go_wp2_with fail
   go_ret
   exact ⟨rfl,HB.out⟩
theorem partsJ0 (x:It) (b q:Nat) (w0:World) (J:Nat) (s o:Int) (w:World) (hg:Gl w0) (hr:w0.rangeAt b q x.cells) (hl:itLies w0 x) (h:JS w0 J s o w) (k:x.h.kind=0):
  Calls Tryz.prog 139 #[.pointer (some ⟨J,0,none⟩),.pointer (some ⟨b,q,none⟩)] w fun e w'=>e= .returned (.bool true)∧JS w0 J s o w':=by
 have HG:=hdn hg;have HR:=hdn hr;have HL:=hdn hl;have HJ:=hdn h
 have HRW:Hid (∀w' s' o',JS w0 J s' o' w'→w'.rangeAt b q x.cells):=hdn (fun w' s' o' h'=>rangeAt_below hr h'.1)
 have c0:=cell_at (rangeAt_below hr h.1) 0 _ rfl
 rw[Nat.add_zero] at c0
 rw[k] at c0
 clear hg hr hl h k
 go_enter Tryz.func139,Tryz.ntmps139
 go_wp2_with fail
 go_ret
 exact ⟨rfl,HJ.out⟩
theorem partsJ1 (x:It) (b q:Nat) (w0:World) (J:Nat) (s o:Int) (w:World) (hg:Gl w0) (hr:w0.rangeAt b q x.cells) (hl:itLies w0 x) (h:JS w0 J s o w) (k:x.h.kind=1) (hp:Pn.okPath x.h.place=true) (hv:Pn.okVal x.h.value=true):
  Calls Tryz.prog 139 #[.pointer (some ⟨J,0,none⟩),.pointer (some ⟨b,q,none⟩)] w fun e w'=>e= .returned (.bool true)∧JS w0 J s o w':=by
 have HG:=hdn hg;have HR:=hdn hr;have HL:=hdn hl;have HJ:=hdn h
 have HRW:Hid (∀w' s' o',JS w0 J s' o' w'→w'.rangeAt b q x.cells):=hdn (fun w' s' o' h'=>rangeAt_below hr h'.1)
 have c0:=cell_at (rangeAt_below hr h.1) 0 _ rfl
 rw[Nat.add_zero] at c0
 rw[k] at c0
 have CP:=hdn (isPath_any x.h.place b (q+2) w (h.gl hg) hp (rangeAt_sub (rangeAt_below hr h.1) 2 3 rfl) (pthLies_below (pthLies_of hl.1.1) h.1))
 have CV:=hdn (isValue_any x.h.value b (q+5) w (h.gl hg) hv (rangeAt_sub (rangeAt_below hr h.1) 5 12 rfl) (vlLies_below hl.1.2.1 h.1))
 clear hg hr hl h k hp hv
 go_enter Tryz.func139,Tryz.ntmps139
 go_wp2_with (first |(go_at_call 156;refine CP.out.mono ?_;rintro e w1 ⟨rfl,rfl⟩)|(go_at_call 157;refine CV.out.mono ?_;rintro e w2 ⟨rfl,hb⟩;have HJ2:=hdn (HJ.out.below hb);clear hb))
 go_ret
 exact ⟨rfl,HJ2.out⟩
theorem partsJ2 (x:It) (b q:Nat) (w0:World) (J:Nat) (s o:Int) (w:World) (hg:Gl w0) (hr:w0.rangeAt b q x.cells) (hl:itLies w0 x) (h:JS w0 J s o w) (k:x.h.kind=2) (hp:Pn.okPath x.h.place=true):
  Calls Tryz.prog 139 #[.pointer (some ⟨J,0,none⟩),.pointer (some ⟨b,q,none⟩)] w fun e w'=>e= .returned (.bool true)∧JS w0 J s o w':=by
 have HG:=hdn hg;have HR:=hdn hr;have HL:=hdn hl;have HJ:=hdn h
 have HRW:Hid (∀w' s' o',JS w0 J s' o' w'→w'.rangeAt b q x.cells):=hdn (fun w' s' o' h'=>rangeAt_below hr h'.1)
 have c0:=cell_at (rangeAt_below hr h.1) 0 _ rfl
 rw[Nat.add_zero] at c0
 rw[k] at c0
 have CP:=hdn (isPath_any x.h.place b (q+2) w (h.gl hg) hp (rangeAt_sub (rangeAt_below hr h.1) 2 3 rfl) (pthLies_below (pthLies_of hl.1.1) h.1))
 clear hg hr hl h k hp
 go_enter Tryz.func139,Tryz.ntmps139
 go_wp2_with (go_at_call 156;refine CP.out.mono ?_;rintro e w1 ⟨rfl,rfl⟩)
 go_ret
 exact ⟨rfl,HJ.out⟩
theorem partsJ3 (x:It) (b q:Nat) (w0:World) (J:Nat) (s o:Int) (w:World) (hg:Gl w0) (hr:w0.rangeAt b q x.cells) (hl:itLies w0 x) (h:JS w0 J s o w) (k:x.h.kind=3) (hn:Pn.okN x.h.name=true) (ha:x.h.args.l.all Pn.okSide=true):
  Calls Tryz.prog 139 #[.pointer (some ⟨J,0,none⟩),.pointer (some ⟨b,q,none⟩)] w fun e w'=>e= .returned (.bool true)∧JS w0 J s o w':=by
 have HG:=hdn hg;have HR:=hdn hr;have HL:=hdn hl;have HJ:=hdn h
 have HRW:Hid (∀w' s' o',JS w0 J s' o' w'→w'.rangeAt b q x.cells):=hdn (fun w' s' o' h'=>rangeAt_below hr h'.1)
 have c0:=cell_at (rangeAt_below hr h.1) 0 _ rfl
 rw[Nat.add_zero] at c0
 rw[k] at c0
 have CN:=hdn (isName_ok x.h.name w (h.gl hg) hn)
 have CA:=hdn (allVl_any x.h.args.l x.h.args.p x.h.args.cap w (h.gl hg) (Lay.of_sl (R:=vlLies) (argsLie_below hl.1.2.2.2.2.1 h.1) (by decide)) (List.all_eq_true.1 ha))
 have c43:=cell_at (rangeAt_below hr h.1) 43 _ rfl
 have c44:=cell_at (rangeAt_below hr h.1) 44 _ rfl
 clear hg hr hl h k hn ha
 go_enter Tryz.func139,Tryz.ntmps139
 go_wp2_with (first |(go_at_call 114;refine CN.out.mono ?_;rintro e w1 ⟨rfl,rfl⟩)|(go_at_call 158;refine CA.out.mono ?_;rintro e w2 ⟨rfl,hb⟩;have HJ2:=hdn (HJ.out.below hb);clear hb))
 go_ret
 exact ⟨rfl,HJ2.out⟩
theorem partsJ5 (x:It) (b q:Nat) (w0:World) (J:Nat) (s o:Int) (w:World) (hg:Gl w0) (hr:w0.rangeAt b q x.cells) (hl:itLies w0 x) (h:JS w0 J s o w) (k:x.h.kind=5) (hc:Pn.okCond x.h.cond=true) (hT:okJ x.t) (oT:Pn.okList x.t=true) (hs:0≤s) (s4:s+Pn.cnt x.t≤400) (h0:0≤o) (d20:o+1+Pn.dp x.t≤20):
  Calls Tryz.prog 139 #[.pointer (some ⟨J,0,none⟩),.pointer (some ⟨b,q,none⟩)] w fun e w'=>e= .returned (.bool true)∧JS w0 J (s+Pn.cnt x.t) o w':=by
 have HG:=hdn hg;have HR:=hdn hr;have HL:=hdn hl;have HJ:=hdn h
 have HRW:Hid (∀w' s' o',JS w0 J s' o' w'→w'.rangeAt b q x.cells):=hdn (fun w' s' o' h'=>rangeAt_below hr h'.1)
 have c0:=cell_at (rangeAt_below hr h.1) 0 _ rfl
 rw[Nat.add_zero] at c0
 rw[k] at c0
 have CC:=hdn (isCond_any x.h.cond b (q+17) w (h.gl hg) hc (rangeAt_sub (rangeAt_below hr h.1) 17 26 rfl) (vlLies_below hl.1.2.2.1 h.1) (vlLies_below hl.1.2.2.2.1 h.1))
 have CT:Hid (∀w',JS w0 J s o w'→Calls Tryz.prog 161 #[.pointer (some ⟨J,0,none⟩),.slice x.tp x.t.len x.tc] w' fun e w''=>e= .returned (.bool true)∧JS w0 J (s+Pn.cnt x.t) o w''):=hdn (fun w' h'=>block_J x.t hT x.tp x.tc w0 J s o w' hg hl.2.1 h' oT hs s4 h0 d20)
 clear hg hr hl h k hc hT oT s4 d20
 go_enter Tryz.func139,Tryz.ntmps139
 go_wp2_with (first |(go_at_call 160;refine CC.out.mono ?_;rintro e w1 ⟨rfl,hb⟩;have HJ1:=hdn (HJ.out.below hb);clear hb;have c45:=cell_at (HRW.out _ _ _ HJ1.out) 45 _ rfl;have c47:=cell_at (HRW.out _ _ _ HJ1.out) 47 _ rfl)|(go_at_call 161;refine (CT.out _ HJ1.out).mono ?_;rintro e w2 ⟨rfl,h2⟩;have HJ2:=hdn h2;clear h2))
 go_ret
 exact ⟨rfl,HJ2.out⟩
theorem partsJ6 (x:It) (b q:Nat) (w0:World) (J:Nat) (s o:Int) (w:World) (hg:Gl w0) (hr:w0.rangeAt b q x.cells) (hl:itLies w0 x) (h:JS w0 J s o w) (k:x.h.kind=6) (hT:okJ x.t) (oT:Pn.okList x.t=true) (hs:0≤s) (s4:s+Pn.cnt x.t≤400) (h0:0≤o) (d20:o+1+Pn.dp x.t≤20):
  Calls Tryz.prog 139 #[.pointer (some ⟨J,0,none⟩),.pointer (some ⟨b,q,none⟩)] w fun e w'=>e= .returned (.bool true)∧JS w0 J (s+Pn.cnt x.t) o w':=by
 have HG:=hdn hg;have HR:=hdn hr;have HL:=hdn hl;have HJ:=hdn h
 have HRW:Hid (∀w' s' o',JS w0 J s' o' w'→w'.rangeAt b q x.cells):=hdn (fun w' s' o' h'=>rangeAt_below hr h'.1)
 have c0:=cell_at (rangeAt_below hr h.1) 0 _ rfl
 rw[Nat.add_zero] at c0
 rw[k] at c0
 have CT:=hdn (block_J x.t hT x.tp x.tc w0 J s o w hg hl.2.1 h oT hs s4 h0 d20)
 have c45:=cell_at (rangeAt_below hr h.1) 45 _ rfl
 clear hg hr hl h k hT oT s4 d20
 go_enter Tryz.func139,Tryz.ntmps139
 go_wp2_with (go_at_call 161;refine CT.out.mono ?_;rintro e w2 ⟨rfl,h2⟩;have HJ2:=hdn h2;clear h2)
 go_ret
 exact ⟨rfl,HJ2.out⟩
theorem partsJ4a (x:It) (b q:Nat) (w0:World) (J:Nat) (s o:Int) (w:World) (hg:Gl w0) (hr:w0.rangeAt b q x.cells) (hl:itLies w0 x) (h:JS w0 J s o w) (k:x.h.kind=4) (hbo:x.h.both=false) (hc:Pn.okCond x.h.cond=true) (hT:okJ x.t) (oT:Pn.okList x.t=true) (hs:0≤s) (s4:s+Pn.cnt x.t≤400) (h0:0≤o) (d20:o+1+Pn.dp x.t≤20):
  Calls Tryz.prog 139 #[.pointer (some ⟨J,0,none⟩),.pointer (some ⟨b,q,none⟩)] w fun e w'=>e= .returned (.bool true)∧JS w0 J (s+Pn.cnt x.t) o w':=by
 have HG:=hdn hg;have HR:=hdn hr;have HL:=hdn hl;have HJ:=hdn h
 have HRW:Hid (∀w' s' o',JS w0 J s' o' w'→w'.rangeAt b q x.cells):=hdn (fun w' s' o' h'=>rangeAt_below hr h'.1)
 have c0:=cell_at (rangeAt_below hr h.1) 0 _ rfl
 rw[Nat.add_zero] at c0
 rw[k] at c0
 have CC:=hdn (isCond_any x.h.cond b (q+17) w (h.gl hg) hc (rangeAt_sub (rangeAt_below hr h.1) 17 26 rfl) (vlLies_below hl.1.2.2.1 h.1) (vlLies_below hl.1.2.2.2.1 h.1))
 have CT:Hid (∀w',JS w0 J s o w'→Calls Tryz.prog 161 #[.pointer (some ⟨J,0,none⟩),.slice x.tp x.t.len x.tc] w' fun e w''=>e= .returned (.bool true)∧JS w0 J (s+Pn.cnt x.t) o w''):=hdn (fun w' h'=>block_J x.t hT x.tp x.tc w0 J s o w' hg hl.2.1 h' oT hs s4 h0 d20)
 have HBO:=hdn hbo
 clear hg hr hl h k hc hT oT s4 d20 hbo
 go_enter Tryz.func139,Tryz.ntmps139
 go_wp2_with (first |(go_at_call 160;refine CC.out.mono ?_;rintro e w1 ⟨rfl,hb⟩;have HJ1:=hdn (HJ.out.below hb);clear hb;have c45:=cell_at (HRW.out _ _ _ HJ1.out) 45 _ rfl;have c47:=cell_at (HRW.out _ _ _ HJ1.out) 47 _ rfl)|(go_at_call 161;refine (CT.out _ HJ1.out).mono ?_;rintro e w2 ⟨rfl,h2⟩;have HJ2:=hdn h2;clear h2;have c47:=cell_at (HRW.out _ _ _ HJ2.out) 47 _ rfl;rw[HBO.out] at c47))
 go_ret
 exact ⟨rfl,HJ2.out⟩
theorem partsJ4b (x:It) (b q:Nat) (w0:World) (J:Nat) (s o:Int) (w:World) (hg:Gl w0) (hr:w0.rangeAt b q x.cells) (hl:itLies w0 x) (h:JS w0 J s o w) (k:x.h.kind=4) (hbo:x.h.both=true) (hc:Pn.okCond x.h.cond=true) (hT:okJ x.t) (oT:Pn.okList x.t=true) (hE:okJ x.e) (oE:Pn.okList x.e=true) (hs:0≤s) (s4:s+Pn.cnt x.t≤400) (se4:s+Pn.cnt x.t+Pn.cnt x.e≤400) (h0:0≤o) (d20:o+1+Pn.dp x.t≤20) (de20:o+1+Pn.dp x.e≤20):
  Calls Tryz.prog 139 #[.pointer (some ⟨J,0,none⟩),.pointer (some ⟨b,q,none⟩)] w fun e w'=>e= .returned (.bool true)∧JS w0 J (s+Pn.cnt x.t+Pn.cnt x.e) o w':=by
 have HG:=hdn hg;have HR:=hdn hr;have HL:=hdn hl;have HJ:=hdn h
 have HRW:Hid (∀w' s' o',JS w0 J s' o' w'→w'.rangeAt b q x.cells):=hdn (fun w' s' o' h'=>rangeAt_below hr h'.1)
 have c0:=cell_at (rangeAt_below hr h.1) 0 _ rfl
 rw[Nat.add_zero] at c0
 rw[k] at c0
 have CC:=hdn (isCond_any x.h.cond b (q+17) w (h.gl hg) hc (rangeAt_sub (rangeAt_below hr h.1) 17 26 rfl) (vlLies_below hl.1.2.2.1 h.1) (vlLies_below hl.1.2.2.2.1 h.1))
 have CT:Hid (∀w',JS w0 J s o w'→Calls Tryz.prog 161 #[.pointer (some ⟨J,0,none⟩),.slice x.tp x.t.len x.tc] w' fun e w''=>e= .returned (.bool true)∧JS w0 J (s+Pn.cnt x.t) o w''):=hdn (fun w' h'=>block_J x.t hT x.tp x.tc w0 J s o w' hg hl.2.1 h' oT hs s4 h0 d20)
 have CE:Hid (∀w',JS w0 J (s+Pn.cnt x.t) o w'→Calls Tryz.prog 161 #[.pointer (some ⟨J,0,none⟩),.slice x.ep x.e.len x.ec] w' fun e w''=>e= .returned (.bool true)∧JS w0 J (s+Pn.cnt x.t+Pn.cnt x.e) o w''):=hdn (fun w' h'=>block_J x.e hE x.ep x.ec w0 J _ o w' hg hl.2.2 h' oE (by have:=Pn.cnt_nn x.t;omega) se4 h0 de20)
 have HBO:=hdn hbo
 clear hg hr hl h k hc hT oT s4 d20 hbo hE oE se4 de20
 go_enter Tryz.func139,Tryz.ntmps139
 go_wp2_with (first |(go_at_call 160;refine CC.out.mono ?_;rintro e w1 ⟨rfl,hb⟩;have HJ1:=hdn (HJ.out.below hb);clear hb;have c45:=cell_at (HRW.out _ _ _ HJ1.out) 45 _ rfl;have c47:=cell_at (HRW.out _ _ _ HJ1.out) 47 _ rfl)|(go_at_call 161;(with_reducible refine (CT.out _ HJ1.out).mono ?_);rintro e w2 ⟨rfl,h2⟩;have HJ2:=hdn h2;clear h2;have c47:=cell_at (HRW.out _ _ _ HJ2.out) 47 _ rfl;rw[HBO.out] at c47;have c46:=cell_at (HRW.out _ _ _ HJ2.out) 46 _ rfl)|(go_at_call 161;(with_reducible refine (CE.out _ HJ2.out).mono ?_);rintro e w3 ⟨rfl,h3⟩;have HJ3:=hdn h3;clear h3))
 go_ret
 exact ⟨rfl,HJ3.out⟩
end Go.Proofs.YtcehbcnloiooaaaGreatDoor
namespace Go.Proofs.YtcehbcnloiooaaaGreatDoor
open Go.RowKit Go.Sort
theorem cell_grown {w w':World} {J:Nat} {q:Addr} {v:Value} (h:w.cell? q=some v) (hg:w.grownBy w' (some J)) (hne:q.block≠J):w'.cell? q=some v:=by
 have hlt:=World.block_lt_of_cell? w _ h
 rw[←h]
 simp only[World.cell?]
 rw[hg.block q.block hlt (by intro e;injection e with e;exact hne e)]
theorem range_grown {w w':World} {J b o:Nat} {cs:List Value} (h:w.rangeAt b o cs) (hg:w.grownBy w' (some J)) (hne:b≠J):w'.rangeAt b o cs:=fun j v hv=>cell_grown (h j v hv) hg hne
theorem Gl.grown {w w':World} {J:Nat} (h:Gl w) (hg:w.grownBy w' (some J)) (hJ:3≤J):Gl w':=
 ⟨fun k hk=>cell_grown (h.key k hk) hg (by show 1≠J;omega),fun k hk=>cell_grown (h.pair k hk) hg (by show 0≠J;omega),Nat.le_trans h.two hg.size⟩
theorem enters82: ∀args w,(callFunc 117 args).run Tryz.prog w= .ok (.enter 117 args) w:=enters Tryz.func117 (by kernel_rfl) rfl
theorem enters41: ∀args w,(callFunc 87 args).run Tryz.prog w= .ok (.enter 87 args) w:=enters Tryz.func87 (by kernel_rfl) rfl
end Go.Proofs.YtcehbcnloiooaaaGreatDoor
namespace Go.Proofs.YtcehbcnloiooaaaGreatDoor
namespace Pn
open Pr (th St Res th_ok)
def Gt (t:List Pr.Tk):Prop:= ∀i,((Pr.sg t i).kind=1→okN (Pr.sg t i).text=true)∧((Pr.sg t i).kind=2→okNum (Pr.sg t i).num=true)
theorem run_take (p:Int→Bool): ∀(l:List UInt8),∀b∈l.take (Tx.run p l),p (b.toNat:Int)=true
 | [],b,h=>by simp at h
 |a::l,b,h=>by
  by_cases ha:p (a.toNat:Int)=true
  ·simp only[Tx.run,ha,if_true,List.take_succ_cons,List.mem_cons] at h
   rcases h with rfl |h
   ·exact ha
   ·exact run_take p l b h
  ·simp only[Tx.run,ha,Bool.false_eq_true,if_false,List.take_zero,List.not_mem_nil] at h
theorem fold_bound: ∀(l:List UInt8) (n:Int) (k:Nat),0≤n→n<10 ^ k→(∀b∈l,Tx.dgt (b.toNat:Int)=true)→0≤l.foldl (fun n b=>10*n+((b.toNat:Int)-48)) n∧l.foldl (fun n b=>10*n+((b.toNat:Int)-48)) n<10 ^ (k+l.length)
 | [],n,k,h0,h1,_=>⟨h0,by simpa using h1⟩
 |b::l,n,k,h0,h1,hd=>by
  have hb:=hd b List.mem_cons_self
  unfold Tx.dgt at hb
  simp only[decide_eq_true_eq] at hb
  have hp:(10:Int) ^ (k+1)=10*10 ^ k:=by rw[Int.pow_succ,Int.mul_comm]
  have:=fold_bound l (10*n+((b.toNat:Int)-48)) (k+1) (by omega) (by rw[hp];omega) (fun c hc=>hd c (List.mem_cons_of_mem _ hc))
  rw[show k+1+l.length=k+(l.length+1) by omega] at this
  exact this
theorem tokL_gt (D:List UInt8):((Tx.tokL D).kind=1→okN ⟨(D.take (Tx.tokL D).len).toArray⟩=true)∧((Tx.tokL D).kind=2→okNum (Tx.tokL D).num=true):=by
 cases D with
 |nil=>exact ⟨fun h=>absurd h (by show¬(0:Int)=1;decide),fun h=>absurd h (by show¬(0:Int)=2;decide)⟩
 |cons b l=>
  rw[Tx.tokL_cons]
  by_cases hl:Tx.ltr (b.toNat:Int)=true
  ·rw[if_pos hl]
   by_cases h16:16<Tx.run Tx.wrd (b::l)
   ·rw[if_pos h16];exact ⟨fun h=>absurd h (by show¬(0:Int)=1;decide),fun h=>absurd h (by show¬(0:Int)=2;decide)⟩
   ·rw[if_neg h16]
    by_cases hk:Tx.isKeyL ((b::l).take (Tx.run Tx.wrd (b::l)))=true
    ·rw[if_pos hk];exact ⟨fun h=>absurd h (by show¬(3:Int)=1;decide),fun h=>absurd h (by show¬(3:Int)=2;decide)⟩
    ·rw[if_neg hk]
     refine ⟨fun _=> ?_,fun h=>absurd h (by show¬(1:Int)=2;decide)⟩
     have hw:Tx.wrd (b.toNat:Int)=true:=by unfold Tx.wrd;rw[hl];rfl
     have hall:=run_take Tx.wrd (b::l)
     have hrun:Tx.run Tx.wrd (b::l)=Tx.run Tx.wrd l+1:=by simp only[Tx.run,hw,if_true]
     show okN ⟨((b::l).take (Tx.run Tx.wrd (b::l))).toArray⟩=true
     unfold okN txt
     simp only[Bool.and_eq_true,Bool.not_eq_true',List.all_eq_true,decide_eq_true_eq]
     refine ⟨⟨⟨?_,hall⟩,by rw[List.length_take];omega⟩,by simpa using hk⟩
     rw[hrun,List.take_succ_cons];exact hl
  ·rw[if_neg hl]
   by_cases hg:Tx.dgt (b.toNat:Int)=true
   ·rw[if_pos hg]
    by_cases h9:9<Tx.run Tx.dgt (b::l)
    ·rw[if_pos h9];exact ⟨fun h=>absurd h (by show¬(0:Int)=1;decide),fun h=>absurd h (by show¬(0:Int)=2;decide)⟩
    ·rw[if_neg h9]
     refine ⟨fun h=>absurd h (by show¬(2:Int)=1;decide),fun _=> ?_⟩
     obtain ⟨g1,g2⟩:=fold_bound ((b::l).take (Tx.run Tx.dgt (b::l))) 0 0 (Int.le_refl _) (by decide) (run_take Tx.dgt (b::l))
     have hle:(10:Int) ^ (0+((b::l).take (Tx.run Tx.dgt (b::l))).length)≤10 ^ 9:=by
      have:((b::l).take (Tx.run Tx.dgt (b::l))).length≤9:=by rw[List.length_take];omega
      have h2:(10:Nat) ^ (0+((b::l).take (Tx.run Tx.dgt (b::l))).length)≤10 ^ 9:=Nat.pow_le_pow_right (by decide) (by omega)
      exact_mod_cast h2
     show okNum (Tx.val ((b::l).take (Tx.run Tx.dgt (b::l))))=true
     unfold okNum Tx.val
     simp only[Bool.and_eq_true,decide_eq_true_eq]
     exact ⟨g1,by omega⟩
   ·rw[if_neg hg]
    split
    ·exact ⟨fun h=>absurd h (by show¬(0:Int)=1;decide),fun h=>absurd h (by show¬(0:Int)=2;decide)⟩
    ·exact ⟨fun h=>absurd h (by show¬(4:Int)=1;decide),fun h=>absurd h (by show¬(4:Int)=2;decide)⟩
theorem nx_gt (s:ByteArray) (i:Nat):((Tx.nx s i).sg.kind=1→okN (Tx.nx s i).sg.text=true)∧((Tx.nx s i).sg.kind=2→okNum (Tx.nx s i).sg.num=true):=by
 have h:=Tx.nx_list s i
 have hp:=Tx.part_take s (Tx.skp s i) (Tx.tokL (s.data.toList.drop (Tx.skp s i))).len
 have hg:=tokL_gt (s.data.toList.drop (Tx.skp s i))
 rw[←hp] at hg
 rw[show (⟨(s.extract (Tx.skp s i) (Tx.skp s i+(Tx.tokL (s.data.toList.drop (Tx.skp s i))).len)).data.toList.toArray⟩:ByteArray)=s.extract (Tx.skp s i) (Tx.skp s i+(Tx.tokL (s.data.toList.drop (Tx.skp s i))).len) by rw[Array.toArray_toList]] at hg
 rw[h];exact hg
theorem chain_gt: ∀(l:List Tx.Sg) (s:ByteArray) (i:Nat),Tx.Chain s i l→∀a∈l,(a.kind=1→okN a.text=true)∧(a.kind=2→okNum a.num=true)
 | [],s,i,h=>h.elim
 |b::l,s,i,h=>by
  obtain ⟨_,rfl,h1⟩:=h
  intro a ha
  rcases List.mem_cons.1 ha with rfl |ha
  ·exact nx_gt s i
  ·rcases h1 with ⟨_,rfl⟩|⟨_,hc⟩
   ·simp at ha
   ·exact chain_gt l s _ hc a ha
theorem alls_gt (s:ByteArray) (h:(Tx.alls s).2.2=0):Gt ((Tx.alls s).1.map Pr.tk):=by
 intro i
 unfold Pr.sg
 rw[List.getD_eq_getElem?_getD]
 cases hx:((Tx.alls s).1.map Pr.tk)[i]? with
 |none=>exact ⟨fun h=>absurd h (by show¬(0:Int)=1;decide),fun h=>absurd h (by show¬(0:Int)=2;decide)⟩
 |some y=>
  obtain ⟨a,ha,rfl⟩:=List.mem_map.1 (List.mem_of_getElem? hx)
  exact chain_gt _ s 0 (Tx.alls_chain s h) a ha
theorem fwd_o {n:Nat} {u v:St} (h:Pr.Fwd n u v):v.o=u.o∧v.b=u.b:=h.2
section
variable {t:List Pr.Tk}
theorem name_gt (g:Gt t) {u v:St} {x:Pr.Tk} (h:Pr.name t u= .ok (x,v)):okN x.text=true:=by
 unfold Pr.name at h
 split at h
 ·rename_i hk
  injection h with h;injection h with h _;subst h
  exact (g u.i).1 hk
 ·cases h
theorem hops_gt (g:Gt t): ∀(n:Nat) (acc:List Hp) (u:St) {l:List Hp} {v:St},Pr.hops t n acc u= .ok (l,v)→(∀x∈acc,okN x.name=true)→l.length≤acc.length+n∧∀x∈l,okN x.name=true
 |0,acc,u,l,v,h,ha=>by
  unfold Pr.hops at h
  split at h
  ·cases h
  ·injection h with h;injection h with h _;subst h;exact ⟨by omega,ha⟩
 |n+1,acc,u,l,v,h,ha=>by
  unfold Pr.hops at h
  split at h
  ·obtain ⟨x,w,h1,h2⟩:=th_ok h
   have:=hops_gt g n _ w h2 (by
    intro y hy
    rcases List.mem_append.1 hy with hy |hy
    ·exact ha y hy
    ·rw[List.mem_singleton.1 hy];exact name_gt g h1)
   exact ⟨by have:=this.1;simp at this;omega,this.2⟩
  ·injection h with h;injection h with h _;subst h;exact ⟨by omega,ha⟩
theorem path_gt (g:Gt t) {u v:St} {x:Pth} (h:Pr.path t u= .ok (x,v)):okPath x=true:=by
 obtain ⟨a,u1,h1,h⟩:=th_ok h
 obtain ⟨b,u2,h2,h⟩:=th_ok h
 injection h with h;injection h with h _;subst h
 have hh:=hops_gt g _ _ _ h2 (by simp)
 unfold okPath
 simp only[Bool.and_eq_true,decide_eq_true_eq,List.all_eq_true]
 exact ⟨⟨name_gt g h1,by simpa using hh.1⟩,hh.2⟩
theorem term_gt (g:Gt t) {u v:St} {x:Tm} (h:Pr.term t u= .ok (x,v)):okTerm x=true:=by
 unfold Pr.term at h
 split at h
 ·rename_i hk
  injection h with h;injection h with h _;subst h
  unfold okTerm
  exact (if_pos (rfl:txt ByteArray.empty= [])).trans ((g u.i).2 hk)
 ·obtain ⟨a,u1,h1,h⟩:=th_ok h
  injection h with h;injection h with h _;subst h
  have hn:=name_gt g h1
  unfold okTerm
  rw[if_neg (fun e=>okN_ne hn (.inr (fun b l e=>by cases e)) e)]
  rw[hn];rfl
theorem side_gt (g:Gt t) {u v:St} {x:Vl} (h:Pr.side t u= .ok (x,v)):okSide x=true:=by
 unfold Pr.side at h
 split at h
 ·injection h with h;injection h with h _;subst h;rfl
 ·split at h
  ·rename_i hk
   obtain ⟨a,u1,h1,h⟩:=th_ok h
   injection h with h;injection h with h _;subst h
   unfold Pr.term at h1
   rw[if_pos hk] at h1
   injection h1 with h1;injection h1 with h1 _;subst h1
   have:=(g u.i).2 hk
   unfold okSide okVal
   simp[Pr.noVl,noP,noT,Pr.noPth,Pr.noTm,txt,this]
  ·obtain ⟨a,u1,h1,h⟩:=th_ok h
   injection h with h;injection h with h _;subst h
   have:=path_gt g h1
   unfold okSide okVal
   simp[Pr.noVl,noT,Pr.noTm,txt,this]
theorem value_gt (g:Gt t) {u v:St} {x:Vl} (h:Pr.value t u= .ok (x,v)):okVal x=true:=by
 unfold Pr.value at h
 split at h
 ·obtain ⟨a,u1,h1,h⟩:=th_ok h
  injection h with h;injection h with h _;subst h
  have:=name_gt g h1
  unfold okVal
  simp[Pr.noVl,noP,noT,Pr.noPth,Pr.noTm,txt,this]
 ·split at h
  ·injection h with h;injection h with h _;subst h;rfl
  ·split at h
   ·obtain ⟨a,u1,h1,h⟩:=th_ok h
    obtain ⟨b,u2,h2,h⟩:=th_ok h
    injection h with h;injection h with h _;subst h
    have ha:=term_gt g h1
    have hb:=term_gt g h2
    unfold okVal
    split<;>simp[Pr.noVl,noP,Pr.noPth,txt,ha,hb]
   ·have:=side_gt g h
    unfold okSide at this
    simp only[Bool.and_eq_true] at this
    exact this.1
theorem relation_gt {u v:St} {k:Int} (h:Pr.relation t u= .ok (k,v)):1≤k∧k≤4:=by
 unfold Pr.relation at h
 split at h
 ·injection h with h;injection h with h _;subst h;decide
 ·split at h
  ·injection h with h;injection h with h _;subst h;decide
  ·split at h
   ·injection h with h;injection h with h _;subst h;decide
   ·obtain ⟨a,u1,h1,h⟩:=th_ok h
    injection h with h;injection h with h _;subst h;decide
theorem cond_gt (g:Gt t) {u v:St} {x:Cd} (h:Pr.cond t u= .ok (x,v)):okCond x=true:=by
 unfold Pr.cond at h
 split at h
 ·injection h with h;injection h with h _;subst h;rfl
 ·obtain ⟨a,u1,h1,h⟩:=th_ok h
  obtain ⟨b,u2,h2,h⟩:=th_ok h
  obtain ⟨c,u3,h3,h⟩:=th_ok h
  injection h with h;injection h with h _;subst h
  have hr:=relation_gt h2
  unfold okCond
  rw[if_neg (by show¬b=0;omega)]
  simp only[Bool.and_eq_true,decide_eq_true_eq]
  exact ⟨⟨hr,side_gt g h1⟩,side_gt g h3⟩
theorem held_gt (g:Gt t) {u v:St} {x:Cd} (h:Pr.held t u= .ok (x,v)):okCond x=true:=by
 obtain ⟨a,u1,h1,h⟩:=th_ok h
 obtain ⟨b,u2,h2,h⟩:=th_ok h
 obtain ⟨c,u3,h3,h⟩:=th_ok h
 injection h with h;injection h with h _;subst h
 exact cond_gt g h2
theorem more_gt {α:Type} {P:α→Prop} {item:St→Res α} (hi: ∀u x v,item u= .ok (x,v)→P x): ∀(n:Nat) (acc:List α) (u:St) {l:List α} {v:St},Pr.more t item n acc u= .ok (l,v)→(∀x∈acc,P x)→∀x∈l,P x
 |0,acc,u,l,v,h,_=>by cases h
 |n+1,acc,u,l,v,h,ha=>by
  unfold Pr.more at h
  split at h
  ·obtain ⟨x,w,h1,h2⟩:=th_ok h
   refine more_gt hi n _ w h2 fun y hy=> ?_
   rcases List.mem_append.1 hy with hy |hy
   ·exact ha y hy
   ·rw[List.mem_singleton.1 hy];exact hi _ _ _ h1
  ·obtain ⟨a,u1,h1,h⟩:=th_ok h
   injection h with h;injection h with h _;subst h
   exact ha
theorem listed_gt {α:Type} {P:α→Prop} {item:St→Res α} (hi: ∀u x v,item u= .ok (x,v)→P x) {u v:St} {l:List α} (h:Pr.listed t item u= .ok (l,v)): ∀x∈l,P x:=by
 obtain ⟨a,u1,h1,h⟩:=th_ok h
 split at h
 ·injection h with h;injection h with h _;subst h;simp
 ·obtain ⟨b,u2,h2,h⟩:=th_ok h
  exact more_gt hi _ _ _ h (fun x hx=>by rw[List.mem_singleton.1 hx];exact hi _ _ _ h2)
theorem pointer_gt (g:Gt t) {u v:St} {x:Dc} (h:Pr.pointer t u= .ok (x,v)):okField x=true:=by
 obtain ⟨a,u1,h1,h⟩:=th_ok h
 obtain ⟨b,u2,h2,h⟩:=th_ok h
 obtain ⟨c,u3,h3,h⟩:=th_ok h
 injection h with h;injection h with h _;subst h
 have ha:=name_gt g h1
 have hn: ¬txt a.text= []:=fun e=>okN_ne ha (.inr (fun b l e=>by cases e)) e
 unfold okField okDecl
 simp[ha,name_gt g h3,hn]
theorem variable_gt (g:Gt t) {u v:St} {x:Dc} (h:Pr.variable_ t u= .ok (x,v)):okDecl x=true:=by
 unfold Pr.variable_ at h
 split at h
 ·obtain ⟨a,u1,h1,h⟩:=th_ok h
  injection h with h;injection h with h _;subst h
  unfold okDecl
  simp[name_gt g h1,txt]
 ·have:=pointer_gt g h
  unfold okField at this
  simp only[Bool.and_eq_true] at this
  exact this.1
theorem decl_gt (g:Gt t) {u v:St} {x:Dc} (h:Pr.decl t u= .ok (x,v)):okDecl x=true:=by
 obtain ⟨a,u1,h1,h⟩:=th_ok h
 obtain ⟨b,u2,h2,h⟩:=th_ok h
 injection h with h;injection h with h _;subst h
 exact variable_gt g h1
end
end Pn
end Go.Proofs.YtcehbcnloiooaaaGreatDoor
namespace Go.Proofs.YtcehbcnloiooaaaGreatDoor
namespace Pn
open Pr (th St Res th_ok)
theorem e_val:noVal Pr.noVl=true:=by rfl
theorem e_cond:noCond Pr.noCd=true:=by rfl
theorem e_pth:noP Pr.noPth=true:=by rfl
def Sp (u v:St) (l:SL):Prop:=okList l=true∧v.o=u.o∧v.b=u.b+cnt l∧v.b≤400∧u.o+dp l≤20
section
variable {t:List Pr.Tk}
theorem block_gt {rec:St→Res SL} (hr: ∀u l v,rec u= .ok (l,v)→u.b≤400→u.o≤20→Sp u v l) {u v:St} {l:SL} (h:Pr.block t rec u= .ok (l,v)) (hb:u.b≤400) (ho:u.o≤20):okList l=true∧v.o=u.o∧v.b=u.b+cnt l∧v.b≤400∧u.o+1+dp l≤20:=by
 obtain ⟨a,u1,h1,h⟩:=th_ok h
 obtain ⟨b,u2,h2,h⟩:=th_ok h
 obtain ⟨c,u3,h3,h⟩:=th_ok h
 obtain ⟨d,u4,h4,h⟩:=th_ok h
 injection h with h;injection h with hl h;subst h;subst hl
 obtain ⟨rfl,hne⟩:=Pr.mustHold_ok h1
 obtain ⟨hs,rfl⟩:=Pr.must_is h2
 have ho20:=hne hs
 obtain ⟨g1,g2,g3,g4,g5⟩:=hr _ _ _ h3 hb (by show u1.o+1≤20;omega)
 have hF:=fwd_o (Pr.must_fwd h4)
 simp only[St.go] at g2 g3 g5
 refine ⟨g1, ?_, ?_, ?_,g5⟩
 ·show u4.o-1=_;rw[hF.1,g2];omega
 ·show u4.b=_;rw[hF.2,g3]
 ·show u4.b≤_;rw[hF.2];exact g4
theorem free_gt (g:Gt t) {u v:St} {x:Hd} (h:Pr.free t u= .ok (x,v)):okStmt x true true=true∧x.kind=2:=by
 obtain ⟨a,u1,h1,h⟩:=th_ok h
 obtain ⟨b,u2,h2,h⟩:=th_ok h
 obtain ⟨c,u3,h3,h⟩:=th_ok h
 obtain ⟨d,u4,h4,h⟩:=th_ok h
 obtain ⟨e,u5,h5,h⟩:=th_ok h
 injection h with h;injection h with h _;subst h
 have hp:=path_gt g h3
 refine ⟨?_,rfl⟩
 unfold okStmt
 simp[Pr.noHd,hp,e_val,e_cond,noCall,txt]
theorem named_gt (g:Gt t) {u v:St} {x:Hd} (h:Pr.named t u= .ok (x,v)):okStmt x true true=true∧(x.kind=1∨x.kind=3):=by
 unfold Pr.named at h
 split at h
 ·obtain ⟨a,u1,h1,h⟩:=th_ok h
  obtain ⟨b,u2,h2,h⟩:=th_ok h
  obtain ⟨c,u3,h3,h⟩:=th_ok h
  injection h with h;injection h with h _;subst h
  have hn:=name_gt g h1
  have hl:=listed_gt (P:=fun x=>okSide x=true) (fun _ _ _ h=>side_gt g h) h2
  refine ⟨?_,.inr rfl⟩
  unfold okStmt
  simp[Pr.noHd,hn,e_val,e_cond,e_pth]
  exact hl
 ·obtain ⟨a,u1,h1,h⟩:=th_ok h
  obtain ⟨b,u2,h2,h⟩:=th_ok h
  obtain ⟨c,u3,h3,h⟩:=th_ok h
  obtain ⟨d,u4,h4,h⟩:=th_ok h
  injection h with h;injection h with h _;subst h
  have hp:=path_gt g h1
  have hv:=value_gt g h3
  refine ⟨?_,.inl rfl⟩
  unfold okStmt
  simp[Pr.noHd,hp,hv,e_cond,noCall,txt]
theorem stmt_gt (g:Gt t) {rec:St→Res SL} (hr: ∀u l v,rec u= .ok (l,v)→u.b≤400→u.o≤20→Sp u v l) {u v:St} {h:Hd} {T E:SL} (hs:Pr.stmt t rec u= .ok ((h,T,E),v)) (hb:u.b≤400) (ho:u.o≤20):
  okStmt h (isNil T) (isNil E)=true∧okList T=true∧okList E=true∧v.o=u.o∧v.b=u.b+1+cnt T+cnt E∧v.b≤400∧u.o+(if 4≤h.kind then 1+max (dp T) (dp E) else 0)≤20:=by
 obtain ⟨a,u1,h1,hs⟩:=th_ok hs
 obtain ⟨rfl,hn⟩:=Pr.count_ok h1
 have hb1:u.b+1≤400:=by omega
 split at hs
 ·injection hs with hs;injection hs with hx hv;subst hv
  simp only[Prod.mk.injEq] at hx
  obtain ⟨rfl,rfl,rfl⟩:=hx
  exact ⟨by rfl,rfl,rfl,rfl,by show u.b+1=_;simp[cnt],hb1,by rw[if_neg (by show¬(4:Int)≤0;decide)];omega⟩
 ·split at hs
  ·obtain ⟨b,u2,h2,hs⟩:=th_ok hs
   injection hs with hs;injection hs with hx hv;subst hv
   simp only[Prod.mk.injEq] at hx
   obtain ⟨rfl,rfl,rfl⟩:=hx
   obtain ⟨g1,g2,g3,g4,g5⟩:=block_gt hr h2 hb1 ho
   refine ⟨?_,g1,rfl,g2,by rw[g3];simp[cnt],g4, ?_⟩
   ·unfold okStmt;simp[Pr.noHd,e_val,e_cond,e_pth,noCall,txt,isNil]
   ·rw[if_pos (by show (4:Int)≤6;decide)]
    have:=dp_nn b
    have e:dp SL.nil=0:=rfl
    simp only[e] at g5 ⊢
    omega
  ·split at hs
   ·obtain ⟨b,u2,h2,hs⟩:=th_ok hs
    injection hs with hs;injection hs with hx hv;subst hv
    simp only[Prod.mk.injEq] at hx
    obtain ⟨rfl,rfl,rfl⟩:=hx
    obtain ⟨f1,f2⟩:=free_gt g h2
    have hF:=fwd_o (Pr.free_fwd h2)
    exact ⟨f1,rfl,rfl,hF.1,by rw[hF.2];simp[cnt],by rw[hF.2];exact hb1,by rw[if_neg (by omega)];omega⟩
   ·split at hs
    ·obtain ⟨b,u2,h2,hs⟩:=th_ok hs
     obtain ⟨c,u3,h3,hs⟩:=th_ok hs
     obtain ⟨d,u4,h4,hs⟩:=th_ok hs
     have f2:=fwd_o (Pr.must_fwd h2)
     have f3:=fwd_o (Pr.held_fwd h3)
     have hc:=held_gt g h3
     have o3:u3.o=u.o:=f3.1.trans f2.1
     have b3:u3.b=u.b+1:=f3.2.trans f2.2
     obtain ⟨g1,g2,g3,g4,g5⟩:=block_gt hr h4 (by omega) (by omega)
     split at hs
     ·obtain ⟨e,u5,h5,hs⟩:=th_ok hs
      injection hs with hs;injection hs with hx hv;subst hv
      simp only[Prod.mk.injEq] at hx
      obtain ⟨rfl,rfl,rfl⟩:=hx
      obtain ⟨k1,k2,k3,k4,k5⟩:=block_gt hr h5 g4 (by show u4.o≤20;omega)
      simp only[St.go] at k2 k3 k5
      refine ⟨?_,g1,k1,by omega,by omega,k4, ?_⟩
      ·unfold okStmt;simp[Pr.noHd,e_val,e_pth,noCall,txt,hc]
      ·rw[if_pos (by show (4:Int)≤4;decide)];omega
     ·injection hs with hs;injection hs with hx hv;subst hv
      simp only[Prod.mk.injEq] at hx
      obtain ⟨rfl,rfl,rfl⟩:=hx
      refine ⟨?_,g1,rfl,by omega,by rw[g3];simp[cnt];omega,g4, ?_⟩
      ·unfold okStmt;simp[Pr.noHd,e_val,e_pth,noCall,txt,hc,isNil]
      ·rw[if_pos (by show (4:Int)≤4;decide)]
       have:=dp_nn d
       have e:dp SL.nil=0:=rfl
       simp only[e]
       omega
    ·split at hs
     ·obtain ⟨b,u2,h2,hs⟩:=th_ok hs
      obtain ⟨c,u3,h3,hs⟩:=th_ok hs
      obtain ⟨d,u4,h4,hs⟩:=th_ok hs
      have f2:=fwd_o (Pr.must_fwd h2)
      have f3:=fwd_o (Pr.held_fwd h3)
      have hc:=held_gt g h3
      have o3:u3.o=u.o:=f3.1.trans f2.1
      have b3:u3.b=u.b+1:=f3.2.trans f2.2
      obtain ⟨g1,g2,g3,g4,g5⟩:=block_gt hr h4 (by omega) (by omega)
      injection hs with hs;injection hs with hx hv;subst hv
      simp only[Prod.mk.injEq] at hx
      obtain ⟨rfl,rfl,rfl⟩:=hx
      refine ⟨?_,g1,rfl,by omega,by rw[g3];simp[cnt];omega,g4, ?_⟩
      ·unfold okStmt;simp[Pr.noHd,e_val,e_pth,noCall,txt,hc,isNil]
      ·rw[if_pos (by show (4:Int)≤5;decide)]
       have:=dp_nn d
       have e:dp SL.nil=0:=rfl
       simp only[e]
       omega
     ·obtain ⟨b,u2,h2,hs⟩:=th_ok hs
      injection hs with hs;injection hs with hx hv;subst hv
      simp only[Prod.mk.injEq] at hx
      obtain ⟨rfl,rfl,rfl⟩:=hx
      obtain ⟨f1,f2⟩:=named_gt g h2
      have hF:=fwd_o (Pr.named_fwd h2)
      exact ⟨f1,rfl,rfl,hF.1,by rw[hF.2];simp[cnt],by rw[hF.2];exact hb1,by rw[if_neg (by omega)];omega⟩
theorem stmts_gt (g:Gt t): ∀(n:Nat) (u:St) (l:SL) (v:St),Pr.stmts t n u= .ok (l,v)→u.b≤400→u.o≤20→Sp u v l
 |0,u,l,v,h,_,_=>by cases h
 |n+1,u,l,v,h,hb,ho=>by
  unfold Pr.stmts at h
  split at h
  ·obtain ⟨⟨hh,a,e⟩,u1,h1,h⟩:=th_ok h
   obtain ⟨r,u2,h2,h⟩:=th_ok h
   injection h with h;injection h with hl h;subst h;subst hl
   obtain ⟨g1,g2,g3,g4,g5,g6,g7⟩:=stmt_gt g (fun u l v h hb ho=>stmts_gt g n u l v h hb ho) h1 hb ho
   obtain ⟨k1,k2,k3,k4,k5⟩:=stmts_gt g n _ _ _ h2 g6 (by omega)
   refine ⟨?_,by omega, ?_,k4, ?_⟩
   ·simp only[okList,Bool.and_eq_true];exact ⟨⟨⟨g1,g2⟩,g3⟩,k1⟩
   ·simp only[cnt];omega
   ·simp only[dp];omega
  ·injection h with h;injection h with hl h;subst h;subst hl
   exact ⟨rfl,rfl,by simp[cnt],hb,by simp[dp];exact ho⟩
theorem fields_gt (g:Gt t): ∀(n:Nat) (acc:List Dc) (u:St) {l:List Dc} {v:St},Pr.fields t n acc u= .ok (l,v)→(∀x∈acc,okField x=true)→(∀x∈l,okField x=true)∧v.o=u.o∧v.b=u.b
 |0,acc,u,l,v,h,_=>by cases h
 |n+1,acc,u,l,v,h,ha=>by
  unfold Pr.fields at h
  split at h
  ·injection h with h;injection h with hl h;subst h;subst hl;exact ⟨ha,rfl,rfl⟩
  ·obtain ⟨x,u1,h1,h⟩:=th_ok h
   obtain ⟨y,u2,h2,h⟩:=th_ok h
   have f1:=fwd_o (Pr.pointer_fwd h1)
   have f2:=fwd_o (Pr.must_fwd h2)
   obtain ⟨k1,k2,k3⟩:=fields_gt g n _ u2 h (fun z hz=>by
    rcases List.mem_append.1 hz with hz |hz
    ·exact ha z hz
    ·rw[List.mem_singleton.1 hz];exact pointer_gt g h1)
   exact ⟨k1,k2.trans (f2.1.trans f1.1),k3.trans (f2.2.trans f1.2)⟩
theorem locals_gt (g:Gt t): ∀(n:Nat) (acc:List Dc) (u:St) {l:List Dc} {v:St},Pr.locals t n acc u= .ok (l,v)→(∀x∈acc,okDecl x=true)→(∀x∈l,okDecl x=true)∧v.o=u.o∧v.b=u.b
 |0,acc,u,l,v,h,_=>by cases h
 |n+1,acc,u,l,v,h,ha=>by
  unfold Pr.locals at h
  split at h
  ·obtain ⟨x,u1,h1,h⟩:=th_ok h
   have f1:=fwd_o (Pr.decl_fwd h1)
   obtain ⟨k1,k2,k3⟩:=locals_gt g n _ u1 h (fun z hz=>by
    rcases List.mem_append.1 hz with hz |hz
    ·exact ha z hz
    ·rw[List.mem_singleton.1 hz];exact decl_gt g h1)
   exact ⟨k1,k2.trans f1.1,k3.trans f1.2⟩
  ·injection h with h;injection h with hl h;subst h;subst hl;exact ⟨ha,rfl,rfl⟩
theorem struct_gt (g:Gt t) {u v:St} {x:Sr} (h:Pr.structure_ t u= .ok (x,v)):okStruct x=true∧v.o=u.o∧v.b=u.b:=by
 obtain ⟨a,u1,h1,h⟩:=th_ok h
 obtain ⟨b,u2,h2,h⟩:=th_ok h
 obtain ⟨c,u3,h3,h⟩:=th_ok h
 obtain ⟨d,u4,h4,h⟩:=th_ok h
 injection h with h;injection h with hl h;subst h;subst hl
 have f1:=fwd_o (Pr.must_fwd h1)
 have f2:=fwd_o (Pr.name_fwd h2)
 have f3:=fwd_o (Pr.must_fwd h3)
 obtain ⟨k1,k2,k3⟩:=fields_gt g _ _ _ h4 (by simp)
 refine ⟨?_,k2.trans (f3.1.trans (f2.1.trans f1.1)),k3.trans (f3.2.trans (f2.2.trans f1.2))⟩
 unfold okStruct
 simp only[Bool.and_eq_true,List.all_eq_true]
 exact ⟨name_gt g h2,k1⟩
theorem proc_gt (g:Gt t) {u v:St} {x:Pc} (h:Pr.proc t u= .ok (x,v)) (hb:u.b≤400) (ho:u.o≤20):okProc x=true∧v.o=u.o∧v.b=u.b+cnt x.body∧v.b≤400∧u.o+dp x.body≤20:=by
 obtain ⟨a,u1,h1,h⟩:=th_ok h
 obtain ⟨b,u2,h2,h⟩:=th_ok h
 obtain ⟨c,u3,h3,h⟩:=th_ok h
 obtain ⟨d,u4,h4,h⟩:=th_ok h
 obtain ⟨e,u5,h5,h⟩:=th_ok h
 obtain ⟨f,u6,h6,h⟩:=th_ok h
 obtain ⟨k,u7,h7,h⟩:=th_ok h
 injection h with h;injection h with hl h;subst h;subst hl
 have f1:=fwd_o (Pr.must_fwd h1)
 have f2:=fwd_o (Pr.name_fwd h2)
 have f3:=fwd_o (Pr.listed_fwd (fun _ _ _ h=>Pr.variable_fwd h) h3)
 have f4:=fwd_o (Pr.must_fwd h4)
 obtain ⟨k1,k2,k3⟩:=locals_gt g _ _ _ h5 (by simp)
 have hl:=listed_gt (P:=fun x=>okDecl x=true) (fun _ _ _ h=>variable_gt g h) h3
 have o5:u5.o=u.o:=k2.trans (f4.1.trans (f3.1.trans (f2.1.trans f1.1)))
 have b5:u5.b=u.b:=k3.trans (f4.2.trans (f3.2.trans (f2.2.trans f1.2)))
 obtain ⟨s1,s2,s3,s4,s5⟩:=stmts_gt g _ _ _ _ h6 (by omega) (by omega)
 have f7:=fwd_o (Pr.must_fwd h7)
 refine ⟨?_,by rw[f7.1,s2,o5],by rw[f7.2,s3,b5],by rw[f7.2];exact s4,by rw[←o5];exact s5⟩
 unfold okProc
 simp only[Bool.and_eq_true,List.all_eq_true]
 exact ⟨⟨⟨name_gt g h2,hl⟩,k1⟩,s1⟩
theorem cntP_snoc: ∀(l:List Pc) (x:Pc),cntP (l++ [x])=cntP l+cnt x.body
 | [],x=>by simp[cntP]
 |y::l,x=>by simp only[List.cons_append,cntP,cntP_snoc l x];omega
theorem program_gt (g:Gt t): ∀(n:Nat) (ss:List Sr) (gs:List Dc) (ps:List Pc) (u:St) {p:Pg} {v:St},Pr.program t n ss gs ps u= .ok (p,v)→(∀x∈ss,okStruct x=true)→(∀x∈gs,okDecl x=true)→(∀x∈ps,okProc x=true∧dp x.body≤20)→u.o=0→u.b=cntP ps→u.b≤400→right p=true
 |0,ss,gs,ps,u,p,v,h,_,_,_,_,_,_=>by cases h
 |n+1,ss,gs,ps,u,p,v,h,h1,h2,h3,ho,hb,hb4=>by
  unfold Pr.program at h
  split at h
  ·injection h with h;injection h with hl h;subst h;subst hl
   unfold right okProg
   simp only[Bool.and_eq_true,List.all_eq_true,decide_eq_true_eq]
   exact ⟨⟨⟨⟨h1,h2⟩,fun x hx=>(h3 x hx).1⟩,fun x hx=>(h3 x hx).2⟩,by omega⟩
  ·split at h
   ·obtain ⟨x,u1,q1,h⟩:=th_ok h
    obtain ⟨k1,k2,k3⟩:=struct_gt g q1
    exact program_gt g n _ gs ps u1 h (fun z hz=>by
     rcases List.mem_append.1 hz with hz |hz
     ·exact h1 z hz
     ·rw[List.mem_singleton.1 hz];exact k1) h2 h3 (by omega) (by omega) (by omega)
   ·split at h
    ·obtain ⟨x,u1,q1,h⟩:=th_ok h
     obtain ⟨k1,k2,k3,k4,k5⟩:=proc_gt g q1 hb4 (by omega)
     exact program_gt g n ss gs _ u1 h h1 h2 (fun z hz=>by
      rcases List.mem_append.1 hz with hz |hz
      ·exact h3 z hz
      ·rw[List.mem_singleton.1 hz];exact ⟨k1,by omega⟩) (by omega) (by rw[cntP_snoc];omega) k4
    ·obtain ⟨x,u1,q1,h⟩:=th_ok h
     have f1:=fwd_o (Pr.decl_fwd q1)
     exact program_gt g n ss _ ps u1 h h1 (fun z hz=>by
      rcases List.mem_append.1 hz with hz |hz
      ·exact h2 z hz
      ·rw[List.mem_singleton.1 hz];exact decl_gt g q1) h3 (by omega) (by omega) (by omega)
end
end Pn
end Go.Proofs.YtcehbcnloiooaaaGreatDoor
namespace Go.Proofs.YtcehbcnloiooaaaGreatDoor
open Go.RowKit Go.Sort
theorem stmtJ_core (x y:It) (b q:Nat) (w0:World) (J:Nat) (s o n:Int) (w:World) (hr:w0.rangeAt b q x.cells) (h:JS w0 J s o w) (hlt:s<400) (h0:0≤s)
  (HB: ∀cs w,cs=x.cells.toArray→Calls Tryz.prog 138 #[.agg cs] w fun e w'=>e= .returned (.agg y.cells.toArray)∧Below w.heap.size w w')
  (HN: ∀cs w,cs=y.cells.toArray→Calls Tryz.prog 137 #[.agg cs] w fun e w'=>e= .returned (.bool true)∧Below w.heap.size w w')
  (HP: ∀w',JS w0 J (s+1) o w'→Calls Tryz.prog 139 #[.pointer (some ⟨J,0,none⟩),.pointer (some ⟨b,q,none⟩)] w' fun e w''=>e= .returned (.bool true)∧JS w0 J n o w''):
  Calls Tryz.prog 117 #[.pointer (some ⟨J,0,none⟩),.pointer (some ⟨b,q,none⟩)] w fun e w'=>e= .returned (.bool true)∧JS w0 J n o w':=by
 have c0:w.cell? ⟨J,0,none⟩=some (.int .i64 s):=h.2.2.cell 0
 have f0:=h.2.2.frozen 0
 have HJ1:=hdn (h.seen (s+1))
 obtain ⟨cs,hcs⟩: ∃cs,cs=x.cells.toArray:=⟨_,rfl⟩
 have HSI:Hid ((Tryz.prog.info? 63).map (·.size)=some cs.size):=hdn (by rw[hcs];exact size57)
 have HR0:Hid (∀w' s' o',JS w0 J s' o' w'→w'.rangeAt b q cs.toList):=hdn (fun w' s' o' h'=>by rw[hcs];exact rangeAt_below hr h'.1)
 obtain ⟨ys,hys⟩: ∃ys,ys=y.cells.toArray:=⟨_,rfl⟩
 have CB:=hdn (fun w=>HB cs w hcs)
 have CN:=hdn (fun w=>HN ys w hys)
 rw[←hys] at CB
 have CP:=hdn HP
 have hne: ¬s=400:=by omega
 clear hr h HB HN HP hcs hys
 go_enter Tryz.func117,Tryz.ntmps117
 go_upto_region 4 with fail
 clear c0 f0
 generalize w.setCell ⟨J,0,none⟩ (.int .i64 (s+1))=w1 at HJ1 ⊢
 have HR1:=hdn (HR0.out _ _ _ HJ1.out)
 go_wp2_with (first |((with_reducible show wpList _ _ _ (Oper.mk (some 19) _ _ _ _ _::_) _ _);refine wpList_load_arr rfl 63 (.tmp 18) rfl b q rfl cs _ HR1.out Tryz.underlying63 rfl HSI.out ?_)|(go_at_call 138;refine (CB.out _).mono ?_;rintro e w2 ⟨rfl,hb⟩;have HJ2:=hdn (HJ1.out.below hb);clear hb)|(go_at_call 137;refine (CN.out _).mono ?_;rintro e w3 ⟨rfl,hb⟩;have HJ3:=hdn (HJ2.out.below hb);clear hb)|(go_at_call 139;refine (CP.out _ HJ3.out).mono ?_;rintro e w4 ⟨rfl,h4⟩;have HJ4:=hdn h4;clear h4))
 go_ret
 exact ⟨rfl,HJ4.out⟩
theorem stmtJ (x:It) (b q:Nat) (w0:World) (J:Nat) (s o:Int) (w:World) (hg:Gl w0) (hr:w0.rangeAt b q x.cells) (hl:itLies w0 x) (h:JS w0 J s o w)
  (ok:Pn.okStmt x.h (Pn.isNil x.t) (Pn.isNil x.e)=true) (oT:Pn.okList x.t=true) (oE:Pn.okList x.e=true) (hT:okJ x.t) (hE:okJ x.e) (hs:0≤s) (s4:s+1+Pn.cnt x.t+Pn.cnt x.e≤400) (h0:0≤o) (d20:o+(if 4≤x.h.kind then 1+max (Pn.dp x.t) (Pn.dp x.e) else 0)≤20):
  Calls Tryz.prog 117 #[.pointer (some ⟨J,0,none⟩),.pointer (some ⟨b,q,none⟩)] w fun e w'=>e= .returned (.bool true)∧JS w0 J (s+1+Pn.cnt x.t+Pn.cnt x.e) o w':=by
 have ct:=Pn.cnt_nn x.t;have ce:=Pn.cnt_nn x.e
 have core:=fun (y:It) n=>stmtJ_core x y b q w0 J s o n w hr h (by omega) hs
 have none_: ∀y:It,y.h.kind=0→Pn.noP y.h.place=true→Pn.noVal y.h.value=true→Pn.noCond y.h.cond=true→Pn.noCall y.h=true→y.h.both=false→y.t= .nil→y.e= .nil→
   ∀cs w,cs=y.cells.toArray→Calls Tryz.prog 137 #[.agg cs] w fun e w'=>e= .returned (.bool true)∧Below w.heap.size w w':=fun y a1 a2 a3 a4 a5 a6 a7 a8 cs w hcs=>by
  have:=isNothing_any y cs hcs w (bare_lies y w a2 a3 a4 a5 a7 a8)
  rwa[bare_same y a1 a2 a3 a4 a5 a6 a7 a8] at this
 have z:Pn.cnt .nil=0:=rfl
 unfold Pn.okStmt at ok
 by_cases k0:x.h.kind=0
 ·rw[if_pos k0] at ok
  simp only[Bool.and_eq_true,Bool.not_eq_true'] at ok
  obtain ⟨⟨⟨⟨⟨⟨o1,o2⟩,o3⟩,o4⟩,o5⟩,o6⟩,o7⟩:=ok
  have et:=Pn.nil_of o5;have ee:=Pn.nil_of o6
  rw[et,ee,z,Int.add_zero,Int.add_zero]
  exact core {x with h:= {x.h with kind:=0}} _ (fun cs w hcs=>besides0g x cs hcs w k0) (none_ _ rfl o1 o2 o3 o4 o7 et ee) (fun w' h'=>partsJ0 x b q w0 J _ o w' hg hr hl h' k0)
 rw[if_neg k0] at ok
 by_cases k1:x.h.kind=1
 ·rw[if_pos k1] at ok
  simp only[Bool.and_eq_true,Bool.not_eq_true'] at ok
  obtain ⟨⟨⟨⟨⟨⟨o1,o2⟩,o3⟩,o4⟩,o5⟩,o6⟩,o7⟩:=ok
  have et:=Pn.nil_of o5;have ee:=Pn.nil_of o6
  rw[et,ee,z,Int.add_zero,Int.add_zero]
  exact core x.bare1 _ (fun cs w hcs=>besides1 x cs hcs w k1) (none_ _ rfl (by rfl) (by rfl) o3 o4 o7 et ee) (fun w' h'=>partsJ1 x b q w0 J _ o w' hg hr hl h' k1 o1 o2)
 rw[if_neg k1] at ok
 by_cases k2:x.h.kind=2
 ·rw[if_pos k2] at ok
  simp only[Bool.and_eq_true,Bool.not_eq_true'] at ok
  obtain ⟨⟨⟨⟨⟨⟨o1,o2⟩,o3⟩,o4⟩,o5⟩,o6⟩,o7⟩:=ok
  have et:=Pn.nil_of o5;have ee:=Pn.nil_of o6
  rw[et,ee,z,Int.add_zero,Int.add_zero]
  exact core {x with h:= {x.h with kind:=0,place:=Pr.noPth}} _ (fun cs w hcs=>besides2g x cs hcs w k2) (none_ _ rfl (by rfl) o2 o3 o4 o7 et ee) (fun w' h'=>partsJ2 x b q w0 J _ o w' hg hr hl h' k2 o1)
 rw[if_neg k2] at ok
 by_cases k3:x.h.kind=3
 ·rw[if_pos k3] at ok
  simp only[Bool.and_eq_true,Bool.not_eq_true'] at ok
  obtain ⟨⟨⟨⟨⟨⟨⟨o1,o2⟩,o3⟩,o4⟩,o8⟩,o5⟩,o6⟩,o7⟩:=ok
  have et:=Pn.nil_of o5;have ee:=Pn.nil_of o6
  rw[et,ee,z,Int.add_zero,Int.add_zero]
  exact core {x with h:= {x.h with kind:=0,name:=ByteArray.empty,args:=⟨none,0,[]⟩}} _ (fun cs w hcs=>besides3g x cs hcs w k3) (none_ _ rfl o2 o3 o4 (by rfl) o7 et ee) (fun w' h'=>partsJ3 x b q w0 J _ o w' hg hr hl h' k3 o8 o1)
 rw[if_neg k3] at ok
 by_cases k4:x.h.kind=4
 ·rw[if_pos k4] at ok
  simp only[Bool.and_eq_true,Bool.or_eq_true] at ok
  obtain ⟨⟨⟨⟨o1,o2⟩,o3⟩,o4⟩,o5⟩:=ok
  rw[if_pos (by omega)] at d20
  cases hbo:x.h.both with
  |true=>
   exact core {x with h:= {x.h with kind:=0,cond:=Pr.noCd,both:=false},tp:=none,tc:=0,t:= .nil,ep:=none,ec:=0,e:= .nil} _ (fun cs w hcs=>besides4bg x cs hcs w k4 hbo) (none_ _ rfl o1 o2 (by rfl) o4 rfl rfl rfl)
    (fun w' h'=>partsJ4b x b q w0 J _ o w' hg hr hl h' k4 hbo o3 hT oT hE oE (by omega) (by omega) (by omega) h0 (by omega) (by omega))
  |false=>
   have ee:=Pn.nil_of (o5.resolve_left (by rw[hbo];decide))
   rw[ee,z,Int.add_zero]
   exact core {x with h:= {x.h with kind:=0,cond:=Pr.noCd},tp:=none,tc:=0,t:= .nil} _ (fun cs w hcs=>besides4g x cs hcs w k4 hbo) (none_ _ rfl o1 o2 (by rfl) o4 hbo rfl ee)
    (fun w' h'=>partsJ4a x b q w0 J _ o w' hg hr hl h' k4 hbo o3 hT oT (by omega) (by omega) h0 (by omega))
 rw[if_neg k4] at ok
 by_cases k5:x.h.kind=5
 ·rw[if_pos k5] at ok
  simp only[Bool.and_eq_true,Bool.not_eq_true'] at ok
  obtain ⟨⟨⟨⟨⟨o1,o2⟩,o3⟩,o4⟩,o6⟩,o7⟩:=ok
  have ee:=Pn.nil_of o6
  rw[if_pos (by omega)] at d20
  rw[ee,z,Int.add_zero]
  exact core {x with h:= {x.h with kind:=0,cond:=Pr.noCd},tp:=none,tc:=0,t:= .nil} _ (fun cs w hcs=>besides5g x cs hcs w k5) (none_ _ rfl o1 o2 (by rfl) o4 o7 rfl ee)
   (fun w' h'=>partsJ5 x b q w0 J _ o w' hg hr hl h' k5 o3 hT oT (by omega) (by omega) h0 (by omega))
 rw[if_neg k5] at ok
 by_cases k6:x.h.kind=6
 ·rw[if_pos k6] at ok
  simp only[Bool.and_eq_true,Bool.not_eq_true'] at ok
  obtain ⟨⟨⟨⟨⟨o1,o2⟩,o3⟩,o4⟩,o6⟩,o7⟩:=ok
  have ee:=Pn.nil_of o6
  rw[if_pos (by omega)] at d20
  rw[ee,z,Int.add_zero]
  exact core {x with h:= {x.h with kind:=0},tp:=none,tc:=0,t:= .nil} _ (fun cs w hcs=>besides6g x cs hcs w k6) (none_ _ rfl o1 o2 o3 o4 o7 rfl ee)
   (fun w' h'=>partsJ6 x b q w0 J _ o w' hg hr hl h' k6 hT oT (by omega) (by omega) h0 (by omega))
 rw[if_neg k6] at ok;cases ok
theorem allSt_one (l:SL) (hP:l.each okJ):okJ l:=by
 intro p c w0 J s o w hg hl h ho hs hs4 h0 h20
 obtain ⟨hlen,hl⟩:=hl
 have hlen':l.len≤300000000000:=by omega
 have HP:=hdn hP
 have HO0:=hdn ho
 have HG:=hdn hg;have HJ0:=hdn h
 have HD0:=hdn h20
 clear hlen hP ho hg h h20
 have hcl:=enters82
 go_enter Tryz.func116,Tryz.ntmps116
 go_wp2_with fail
 go_loopw [8] (fun i wr=> ∃(k:Nat) (rest:SL) (sk:Int),i= .int .i64 k∧k≤l.len∧Hid (k+rest.len=l.len)∧Hid (Pn.okList rest=true)∧
    Hid (rest= .nil∨∃b o,p=some ⟨b,o,none⟩∧lies w0 rest b (o+k*48))∧Hid (rest.each okJ)∧Hid (JS w0 J sk o wr)∧Hid (0≤sk∧sk+Pn.cnt rest=s+Pn.cnt l)∧Hid (o+Pn.dp rest≤20)) (fun i _=>l.len-(intOf i).toNat)
 case atStart=>exact ⟨0,l,s,rfl,Nat.zero_le _,hdn (Nat.zero_add _),HO0,hdn (by simpa using hl),HP,HJ0,hdn ⟨hs,rfl⟩,HD0⟩
 case round=>
  obtain ⟨k,rest,sk,rfl,hk,HK,HO,HL,HQ,HJ,HS,HD⟩:=hrel
  cases rest with
  |nil=>
   have hk':l.len≤k:=by have:=HK.out;simp only[SL.len] at this;omega
   have hse:sk=s+Pn.cnt l:=by have:=HS.out.2;simp only[Pn.cnt] at this;omega
   have HF:Hid (JS w0 J (s+Pn.cnt l) o wr):=hdn (by rw[←hse];exact HJ.out)
   have hk1: ¬(k:Int)<(l.len:Int):=by omega
   clear hse
   go_wp2_with fail
   go_ret
   exact ⟨rfl,HF.out⟩
  |cons h tp tc t ep ec e r=>
   have hkl:k<l.len:=by have:=HK.out;simp only[SL.len] at this;omega
   have ho:=HO.out
   simp only[Pn.okList,Bool.and_eq_true] at ho
   obtain ⟨⟨⟨o1,o2⟩,o3⟩,o4⟩:=ho
   have HL3:=hdn (hd_lies HL.out)
   obtain ⟨b,q,rfl,hrg,hhd,hts,hes,hrs⟩:=lies_head HL.out
   obtain ⟨hQt,hQe,hQr⟩:=HQ.out
   have HQR:=hdn hQr
   have HRS:=hdn hrs
   have HO4:=hdn o4
   have hcn:=HS.out
   simp only[Pn.cnt] at hcn
   have hdq:=HD.out
   simp only[Pn.dp] at hdq
   have n1:=Pn.cnt_nn t;have n2:=Pn.cnt_nn e;have n3:=Pn.cnt_nn r
   have CS:Hid (Calls Tryz.prog 117 #[.pointer (some ⟨J,0,none⟩),.pointer (some ⟨b,q+k*48,none⟩)] wr fun en w'=>en= .returned (.bool true)∧JS w0 J (sk+1+Pn.cnt t+Pn.cnt e) o w'):=
    hdn (stmtJ ⟨h,tp,tc,t,ep,ec,e⟩ b (q+k*48) w0 J sk o wr HG.out hrg ⟨HL3.out.1,HL3.out.2.1,HL3.out.2.2⟩ HJ.out o1 o2 o3 hQt hQe hcn.1 (by show sk+1+Pn.cnt t+Pn.cnt e≤400;omega) h0 (by show o+(if 4≤h.kind then 1+max (Pn.dp t) (Pn.dp e) else 0)≤20;omega))
   have HS1:Hid (0≤sk+1+Pn.cnt t+Pn.cnt e∧sk+1+Pn.cnt t+Pn.cnt e+Pn.cnt r=s+Pn.cnt l):=hdn (by omega)
   have HD1:Hid (o+Pn.dp r≤20):=hdn (by omega)
   generalize sk+1+Pn.cnt t+Pn.cnt e=sk1 at*
   clear hrg hhd hts hes hrs o1 o2 o3 o4 hQt hQe hQr HO HQ hcn hdq n1 n2 n3
   have hk0:(0:Int)≤(k:Int):=Int.natCast_nonneg _
   have hk1:(k:Int)<(l.len:Int):=by omega
   go_wp2_with fail
   refine CS.out.mono ?_;rintro en w1 ⟨rfl,h1⟩
   have HJ1:=hdn h1
   clear h1
   go_wp2_with fail
   go_roundw
   case rel=>exact ⟨k+1,r,sk1,by go_num,by omega,hdn (by have:=HK.out;simp only[SL.len] at this;omega),HO4,HRS,HQR,HJ1,HS1,HD1⟩
   case measure=>simp[intOf];omega
theorem allSt_J (l:SL):okJ l:=(SL.all allSt_one l).1
theorem procJ (x:Pc) (b q:Nat) (w0:World) (J:Nat) (s:Int) (w:World) (hg:Gl w0) (hr:w0.rangeAt b q x.cells) (hl:pcLies w0 x) (h:JS w0 J s 0 w) (ok:Pn.okProc x=true) (hs:0≤s) (s4:s+Pn.cnt x.body≤400) (d20:Pn.dp x.body≤20):
  Calls Tryz.prog 87 #[.pointer (some ⟨J,0,none⟩),.pointer (some ⟨b,q,none⟩)] w fun e w'=>e= .returned (.bool true)∧JS w0 J (s+Pn.cnt x.body) 0 w':=by
 unfold Pn.okProc at ok
 simp only[Bool.and_eq_true,List.all_eq_true] at ok
 obtain ⟨⟨⟨o1,o2⟩,o3⟩,o4⟩:=ok
 have hrw:=rangeAt_below hr h.1
 have c0:w.cell? ⟨b,q,none⟩=some (.string x.name):=cell_at hrw 0 _ rfl
 have c3:=cell_at hrw 3 _ rfl
 have c4:=cell_at hrw 4 _ rfl
 have c5:=cell_at hrw 5 _ rfl
 have CN:=hdn (isName_ok x.name w (h.gl hg) o1)
 have CA:=hdn (allDc_any x.params.l x.params.p x.params.cap w (h.gl hg) (Lay.of_sl (R:=triv) (slLies_below hl.1 h.1 (fun _ h=>h)) (by decide)) o2)
 have CB:=hdn (allDc_any x.locals_.l x.locals_.p x.locals_.cap w (h.gl hg) (Lay.of_sl (R:=triv) (slLies_below hl.2.1 h.1 (fun _ h=>h)) (by decide)) o3)
 have CS:=hdn (allSt_J x.body x.bp x.bc w0 J s 0 w hg hl.2.2 h o4 hs s4 (Int.le_refl _) (by omega))
 clear hg hr hl h o1 o2 o3 o4 hrw s4 d20
 go_enter Tryz.func87,Tryz.ntmps87
 go_wp2_with (first |(go_at_call 114;refine CN.out.mono ?_;rintro e w1 ⟨rfl,rfl⟩)|(go_at_call 84;(with_reducible refine CA.out.mono ?_);rintro e w2 ⟨rfl,rfl⟩)|(go_at_call 84;(with_reducible refine CB.out.mono ?_);rintro e w2 ⟨rfl,rfl⟩)|(go_at_call 116;refine CS.out.mono ?_;rintro e w3 ⟨rfl,h3⟩;have HJ3:=hdn h3;clear h3))
 go_ret
 exact ⟨rfl,HJ3.out⟩
theorem allPc_J (l:List Pc) (p:Option Addr) (c:Nat) (w0:World) (J:Nat) (w:World) (hg:Gl w0) (h1:Lay 6 Pc.cells pcLies w0 p l) (h:JS w0 J 0 0 w) (ok: ∀x∈l,Pn.okProc x=true) (s4:Pn.cntP l≤400) (d20: ∀x∈l,Pn.dp x.body≤20):
  Calls Tryz.prog 86 #[.slice p l.length c,.func (.func 87) #[.pointer (some ⟨J,0,none⟩)] #[]] w fun e w'=>e= .returned (.bool true)∧JS w0 J (Pn.cntP l) 0 w':=by
 obtain ⟨hl,h1⟩:=h1
 have H1:=hdn h1;have HO:=hdn ok;have HG:=hdn hg;have HJ0:=hdn h;have HD:=hdn d20
 clear h1 ok hg h d20
 have hcl:=enters41
 go_enter Tryz.func86,Tryz.ntmps86
 go_wp2_with fail
 go_loopw [8] (fun i wr=> ∃n:Nat,n≤l.length∧i= .int .i64 n∧Hid (JS w0 J (Pn.cntP (l.take n)) 0 wr)) (fun i _=>l.length-(intOf i).toNat)
 case atStart=>exact ⟨0,Nat.zero_le _,rfl,HJ0⟩
 case round=>
  obtain ⟨n,hn,rfl,HJ⟩:=hrel
  by_cases hnl:n<l.length
  ·obtain ⟨b1,o1,rfl,hx⟩: ∃b o,p=some ⟨b,o,none⟩∧∀k x,l[k]? =some x→w0.rangeAt b (o+k*6) (Pc.cells x)∧pcLies w0 x:=by
    rcases H1.out with h |h
    ·rw[h] at hnl;simp at hnl
    ·exact h
   have hxn:=hx n l[n] (List.getElem?_eq_getElem hnl)
   have hok:=HO.out l[n] (List.getElem_mem hnl)
   have hd:=HD.out l[n] (List.getElem_mem hnl)
   have e:l.take (n+1)=l.take n++ [l[n]]:=(List.take_append_getElem hnl).symm
   have HE:Hid (Pn.cntP (l.take n)+Pn.cnt l[n].body=Pn.cntP (l.take (n+1))):=hdn (by rw[e,Pn.cntP_snoc])
   have hle:Pn.cntP (l.take (n+1))≤Pn.cntP l:=by
    have: ∀(m:List Pc) (k:Nat),Pn.cntP (m.take k)≤Pn.cntP m:=by
     intro m
     induction m with
     |nil=>intro k;simp
     |cons a m ih=>
      intro k
      cases k with
      |zero=>simpa [Pn.cntP] using Pn.cntP_nn (a::m)
      |succ k=>simp only[List.take_succ_cons,Pn.cntP];have:=ih k;omega
    exact this l (n+1)
   generalize l[n]=x at hxn hok hd HE
   have HC:=hdn (procJ x b1 (o1+n*6) w0 J _ wr HG.out hxn.1 hxn.2 HJ.out hok (Pn.cntP_nn _) (by rw[HE.out];omega) hd)
   rw[HE.out] at HC
   have hn0:(0:Int)≤(n:Int):=Int.natCast_nonneg _
   have hn1:(n:Int)<(l.length:Int):=by omega
   clear hx hxn hok hd e hle
   go_wp2_with fail
   refine HC.out.mono ?_;rintro en w1 ⟨rfl,h1⟩
   have HJ1:=hdn h1
   clear h1
   go_wp2_with fail
   go_roundw
   case rel=>exact ⟨n+1,by omega,by go_num,HJ1⟩
   case measure=>simp[intOf];omega
  ·obtain rfl:n=l.length:=by omega
   have HF:Hid (JS w0 J (Pn.cntP l) 0 wr):=hdn (by have:=HJ.out;rwa[List.take_length] at this)
   go_wp2_with fail
   go_ret
   exact ⟨rfl,HF.out⟩
theorem hasForm_any (p:Pg) (w:World) (hg:Gl w) (hl:pgLies w p) (ho:Pn.right p=true):
  Calls Tryz.prog 69 #[.agg #[.slice p.structs.p p.structs.l.length p.structs.cap,.slice p.globals.p p.globals.l.length p.globals.cap,.slice p.procs.p p.procs.l.length p.procs.cap]] w fun e w'=>e= .returned (.bool true)∧Below w.heap.size w w':=by
 unfold Pn.right Pn.okProg at ho
 simp only[Bool.and_eq_true,List.all_eq_true,decide_eq_true_eq] at ho
 obtain ⟨⟨⟨⟨o1,o2⟩,o3⟩,o4⟩,o5⟩:=ho
 obtain ⟨wA,hwA⟩: ∃wA:World,wA=w.alloc (.cells #[.slice p.structs.p p.structs.l.length p.structs.cap,.slice p.globals.p p.globals.l.length p.globals.cap,.slice p.procs.p p.procs.l.length p.procs.cap] 26):=⟨_,rfl⟩
 have HBA:Hid (Below w.heap.size w wA):=hdn (by rw[hwA];exact (Below.refl _ _).alloc (Nat.le_refl _) _)
 have HKA:Hid (Bk wA w.heap.size 26 #[.slice p.structs.p p.structs.l.length p.structs.cap,.slice p.globals.p p.globals.l.length p.globals.cap,.slice p.procs.p p.procs.l.length p.procs.cap]):=hdn (by rw[hwA];exact heap_alloc_new _ _)
 have hsz:w.heap.size<wA.heap.size:=HKA.out.lt
 obtain ⟨wJ,hwJ⟩: ∃wJ:World,wJ=wA.alloc (.cells #[.int .i64 0,.int .i64 0] 164):=⟨_,rfl⟩
 have HBJ:Hid (Below wA.heap.size wA wJ):=hdn (by rw[hwJ];exact (Below.refl _ _).alloc (Nat.le_refl _) _)
 have HKJ:Hid (Bk wJ wA.heap.size 164 #[.int .i64 0,.int .i64 0]):=hdn (by rw[hwJ];exact heap_alloc_new _ _)
 have HWJ:=hdn hwJ
 have HB2:Hid (Below w.heap.size w wJ):=hdn (HBA.out.trans (HBJ.out.mono HBA.out.size))
 have k1:=HKA.out.below HBJ.out HKA.out.lt
 have hgJ:=hg.below HB2.out hg.two
 have CS:=hdn (allSr_any p.structs.l p.structs.p p.structs.cap wJ hgJ (Lay.of_sl (R:=fun w (x:Sr)=>declsLie w x.fields) (slLies_below hl.1 HB2.out (fun _ h=>slLies_below h HB2.out (fun _ h=>h))) (by decide)) o1)
 have CD:=hdn (allDc_any p.globals.l p.globals.p p.globals.cap wJ hgJ (Lay.of_sl (R:=triv) (slLies_below hl.2.1 HB2.out (fun _ h=>h)) (by decide)) o2)
 have HC:=hdn (allPc_J p.procs.l p.procs.p p.procs.cap w wA.heap.size wJ hg (Lay.of_sl (R:=pcLies) hl.2.2 (by decide)) ⟨HB2.out,Nat.le_of_lt hsz,HKJ.out⟩ o3 o5 o4)
 have c0:wJ.cell? ⟨w.heap.size,0,none⟩=some (.slice p.structs.p p.structs.l.length p.structs.cap):=k1.cell 0
 have c1:wJ.cell? ⟨w.heap.size,1,none⟩=some (.slice p.globals.p p.globals.l.length p.globals.cap):=k1.cell 1
 have c2:wJ.cell? ⟨w.heap.size,2,none⟩=some (.slice p.procs.p p.procs.l.length p.procs.cap):=k1.cell 2
 clear hg hl hsz k1 hwJ hgJ o1 o2 o3 o4 o5
 go_enter Tryz.func69,Tryz.ntmps69
 go_upto_region 1 with fail
 rw[←hwA]
 clear hwA
 obtain ⟨A,hA⟩: ∃A,A=w.heap.size:=⟨_,rfl⟩
 rw[←hA] at c0 c1 c2 ⊢
 clear hA
 go_upto_region 2 with fail
 rw[←HWJ.out]
 obtain ⟨J,hJ⟩: ∃J,J=wA.heap.size:=⟨_,rfl⟩
 rw[←hJ] at HC ⊢
 clear hJ
 go_wp2_with (first |(go_at_call 82;refine CS.out.mono ?_;rintro e w1 ⟨rfl,rfl⟩)|(go_at_call 84;refine CD.out.mono ?_;rintro e w2 ⟨rfl,rfl⟩)|(go_at_call 86;refine HC.out.mono ?_;rintro e w3 ⟨rfl,h3⟩;have HJ3:=hdn h3;clear h3))
 go_ret
 exact ⟨rfl,HJ3.out.1⟩
end Go.Proofs.YtcehbcnloiooaaaGreatDoor
namespace Go.Proofs
open Go.Shelf
def Tryz.lays156_ren:Go.Shelf.Ren:=⟨fun |156=>142 |165=>163 |166=>140 |169=>71 |240=>162 |241=>174 |276=>173 |277=>183 |n=>n,fun |31=>154 |9=>9 |3=>3 |4=>4 |0=>0 |20=>20 |72=>147 |76=>209 |70=>144 |37=>145 |75=>208 |127=>177 |164=>240 |5=>5 |80=>151 |n=>n,fun |n=>n⟩
theorem Tryz.lays156:Go.Proofs.Lays.n156 Tryz.prog Tryz.lays156_ren:= {
 mixed:=by kernel_rfl
 f156:=Tryz.func142.trans (congrArg some (by kernel_rfl))
 f165:=Tryz.func163.trans (congrArg some (by kernel_rfl))
 f166:=Tryz.func140.trans (congrArg some (by kernel_rfl))
 f169:=Tryz.func71.trans (congrArg some (by kernel_rfl))
 f240:=Tryz.func162.trans (congrArg some (by kernel_rfl))
 f241:=Tryz.func174.trans (congrArg some (by kernel_rfl))
 f276:=Tryz.func173.trans (congrArg some (by kernel_rfl))
 f277:=Tryz.func183.trans (congrArg some (by kernel_rfl))
 t0:=Tryz.underlying0
 a0:=Tryz.isAgg0
 z0:=Tryz.sizeOf0
 v0:=Tryz.zeroValue0
 t3:=Tryz.underlying3
 a3:=Tryz.isAgg3
 z3:=Tryz.sizeOf3
 v3:=Tryz.zeroValue3
 t4:=Tryz.underlying4
 a4:=Tryz.isAgg4
 z4:=Tryz.sizeOf4
 v4:=Tryz.zeroValue4
 t9:=Tryz.underlying9
 a9:=Tryz.isAgg9
 z9:=Tryz.sizeOf9
 v9:=Tryz.zeroValue9
 t20:=Tryz.underlying20
 a20:=Tryz.isAgg20
 z20:=Tryz.sizeOf20
 v20:=Tryz.zeroValue20
 t31:=Tryz.underlying154
 a31:=Tryz.isAgg154
 z31:=Tryz.sizeOf154
 v31:=Tryz.zeroValue154
 t37:=Tryz.underlying145
 a37:=Tryz.isAgg145
 z37:=Tryz.sizeOf145
 v37:=Tryz.zeroValue145
 t70:=Tryz.underlying144
 a70:=Tryz.isAgg144
 z70:=Tryz.sizeOf144
 v70:=Tryz.zeroValue144
 t72:=Tryz.underlying147
 a72:=Tryz.isAgg147
 z72:=Tryz.sizeOf147
 v72:=Tryz.zeroValue147
 t75:=Tryz.underlying208
 a75:=Tryz.isAgg208
 z75:=Tryz.sizeOf208
 v75:=Tryz.zeroValue208
 t76:=Tryz.underlying209
 a76:=Tryz.isAgg209
 z76:=Tryz.sizeOf209
 v76:=Tryz.zeroValue209
 t127:=Tryz.underlying177
 a127:=Tryz.isAgg177
 z127:=Tryz.sizeOf177
 v127:=Tryz.zeroValue177
 t164:=Tryz.underlying240
 a164:=Tryz.isAgg240
 z164:=Tryz.sizeOf240
 v164:=Tryz.zeroValue240}
theorem Tryz.Builder_Extra_156:Builder.Extra Tryz.prog Tryz.lays156_ren:= {
 sizeBuilder:=by kernel_rfl
 liesBuilder:=by kernel_rfl
 t5:=Tryz.underlying5
 a5:=Tryz.isAgg5
 z5:=Tryz.sizeOf5
 v5:=Tryz.zeroValue5
 infoByte:=by kernel_rfl
 cellsByte:=by kernel_rfl
 sizeByte:=by kernel_rfl
 neB5:=by decide}
theorem Tryz.strings_Join_none (a:Option Addr) (c:Nat) (sep:ByteArray) (w:World):
  Calls Tryz.prog 142 #[.slice a 0 c,.string sep] w fun e w'=>e= .returned (.string ⟨#[]⟩)∧w'=w:=Any.strings_Join_none Tryz.lays156 Tryz.Builder_Extra_156 a c sep w
open Go.RowKit in
theorem Tryz.strings_Join (bk o c:Nat) (xs:List ByteArray) (sep:ByteArray) (w:World) (hcells: ∀(j:Nat) x,xs[j]? =some x→w.cell? ⟨bk,o+j,none⟩=some (.string x)) (hbk:bk<w.heap.size) (hN:xs.length≤140737488355328) (hcap:xs.length≤c) (hlen:(Lib.join (xs.map (·.data.toList)) sep.data.toList).length≤140737488355328):
  Calls Tryz.prog 142 #[.slice (some ⟨bk,o,none⟩) xs.length c,.string sep] w fun e w'=>e= .returned (.string ⟨(Lib.join (xs.map (·.data.toList)) sep.data.toList).toArray⟩)∧Below w.heap.size w w':=Any.strings_Join Tryz.lays156 Tryz.Builder_Extra_156 bk o c xs sep w hcells hbk hN hcap hlen
def Tryz.laysM171_ren:Go.Shelf.Ren:=⟨fun |171=>175 |243=>184 |246=>190 |283=>193 |284=>194 |285=>195 |286=>196 |129=>198 |317=>197 |318=>199 |319=>200 |320=>201 |337=>202 |338=>203 |n=>n,fun |3=>3 |9=>9 |2=>2 |4=>4 |171=>259 |0=>0 |53=>260 |37=>145 |5=>5 |173=>263 |212=>267 |51=>268 |20=>20 |213=>269 |46=>270 |232=>273 |233=>274 |n=>n,fun |17=>4 |18=>5 |19=>6 |n=>n⟩
theorem Tryz.laysM171:Go.Proofs.LaysM.n171 Tryz.prog Tryz.laysM171_ren:= {
 mixed:=by kernel_rfl
 f129:=Tryz.func198.trans (congrArg some (by kernel_rfl))
 f171:=Tryz.func175.trans (congrArg some (by kernel_rfl))
 f243:=Tryz.func184.trans (congrArg some (by kernel_rfl))
 f246:=Tryz.func190.trans (congrArg some (by kernel_rfl))
 f283:=Tryz.func193.trans (congrArg some (by kernel_rfl))
 f284:=Tryz.func194.trans (congrArg some (by kernel_rfl))
 f285:=Tryz.func195.trans (congrArg some (by kernel_rfl))
 f286:=Tryz.func196.trans (congrArg some (by kernel_rfl))
 f317:=Tryz.func197.trans (congrArg some (by kernel_rfl))
 f318:=Tryz.func199.trans (congrArg some (by kernel_rfl))
 f319:=Tryz.func200.trans (congrArg some (by kernel_rfl))
 f320:=Tryz.func201.trans (congrArg some (by kernel_rfl))
 f337:=Tryz.func202.trans (congrArg some (by kernel_rfl))
 f338:=Tryz.func203.trans (congrArg some (by kernel_rfl))
 t0:=Tryz.underlying0
 a0:=Tryz.isAgg0
 z0:=Tryz.sizeOf0
 v0:=Tryz.zeroValue0
 t2:=Tryz.underlying2
 a2:=Tryz.isAgg2
 z2:=Tryz.sizeOf2
 v2:=Tryz.zeroValue2
 t3:=Tryz.underlying3
 a3:=Tryz.isAgg3
 z3:=Tryz.sizeOf3
 v3:=Tryz.zeroValue3
 t4:=Tryz.underlying4
 a4:=Tryz.isAgg4
 z4:=Tryz.sizeOf4
 v4:=Tryz.zeroValue4
 t5:=Tryz.underlying5
 a5:=Tryz.isAgg5
 z5:=Tryz.sizeOf5
 v5:=Tryz.zeroValue5
 t9:=Tryz.underlying9
 a9:=Tryz.isAgg9
 z9:=Tryz.sizeOf9
 v9:=Tryz.zeroValue9
 t20:=Tryz.underlying20
 a20:=Tryz.isAgg20
 z20:=Tryz.sizeOf20
 v20:=Tryz.zeroValue20
 t37:=Tryz.underlying145
 a37:=Tryz.isAgg145
 z37:=Tryz.sizeOf145
 v37:=Tryz.zeroValue145
 t46:=Tryz.underlying270
 a46:=Tryz.isAgg270
 z46:=Tryz.sizeOf270
 v46:=Tryz.zeroValue270
 t51:=Tryz.underlying268
 a51:=Tryz.isAgg268
 z51:=Tryz.sizeOf268
 v51:=Tryz.zeroValue268
 t53:=Tryz.underlying260
 a53:=Tryz.isAgg260
 z53:=Tryz.sizeOf260
 v53:=Tryz.zeroValue260
 t171:=Tryz.underlying259
 a171:=Tryz.isAgg259
 z171:=Tryz.sizeOf259
 v171:=Tryz.zeroValue259
 t173:=Tryz.underlying263
 a173:=Tryz.isAgg263
 z173:=Tryz.sizeOf263
 v173:=Tryz.zeroValue263
 t212:=Tryz.underlying267
 a212:=Tryz.isAgg267
 z212:=Tryz.sizeOf267
 v212:=Tryz.zeroValue267
 t213:=Tryz.underlying269
 a213:=Tryz.isAgg269
 z213:=Tryz.sizeOf269
 t232:=Tryz.underlying273
 a232:=Tryz.isAgg273
 z232:=Tryz.sizeOf273
 v232:=Tryz.zeroValue273
 t233:=Tryz.underlying274
 a233:=Tryz.isAgg274
 z233:=Tryz.sizeOf274
 v233:=Tryz.zeroValue274
 g17:=by kernel_rfl
 g18:=by kernel_rfl
 g19:=by kernel_rfl
 i0:=by kernel_rfl
 i2:=by kernel_rfl
 i3:=by kernel_rfl
 i4:=by kernel_rfl
 i5:=by kernel_rfl
 i9:=by kernel_rfl
 i20:=by kernel_rfl
 i37:=by kernel_rfl
 i46:=by kernel_rfl
 i51:=by kernel_rfl
 i53:=by kernel_rfl
 i171:=by kernel_rfl
 i173:=by kernel_rfl
 i212:=by kernel_rfl
 i232:=by kernel_rfl
 i233:=by kernel_rfl
 m17:=by kernel_rfl
 m18:=by kernel_rfl
 m19:=by kernel_rfl}
open Go.RowKit Go.Sort Go.Lib in
theorem Tryz.strconv_Itoa (n:Int) (h0: -9223372036854775808≤n) (h1:n≤9223372036854775807) (w:World) (htab:Lib.TabIs Tryz.prog w "internal/strconv.uint64pow10" .u64 Lib.pow10Tab):
  Calls Tryz.prog 175 #[.int .i64 n] w fun e w'=>e= .returned (.string ⟨(Lib.itoa n).toArray⟩)∧∃k os,w'=grow (w.drewN k) os:=Any.strconv_Itoa Tryz.laysM171 n h0 h1 w htab
end Go.Proofs
namespace Go.Proofs.YtcehbcnloiooaaaGreatDoor
open Go.RowKit Go.Sort
def bt (l:List UInt8):ByteArray:=⟨l.toArray⟩
theorem bt_size (l:List UInt8):(bt l).size=l.length:=rfl
theorem bt_txt (x:ByteArray):bt (Pn.txt x)=x:=Lib.mk_data x
theorem ret_text {a b:ByteArray} (h:a=b):Ending.returned (.string a)= .returned (.string b):=by rw[h]
theorem pad_len: ∀d,(Pn.pad d).length=2*d
 |0=>rfl
 |d+1=>by simp only[Pn.pad,List.length_append,List.length_cons,List.length_nil,pad_len d];omega
theorem ba_ext {a b:ByteArray} (h:a.data.toList=b.data.toList):a=b:=by rw[←Lib.mk_data a,h,Lib.mk_data]
namespace Pn
theorem hopsT_snoc: ∀(l:List Hp) (h:Hp),hopsT (l++ [h])=hopsT l++ [45,62]++txt h.name
 | [],h=>by simp[hopsT]
 |x::l,h=>by simp only[List.cons_append,hopsT,hopsT_snoc l h,List.append_assoc,List.cons_append]
theorem hopsT_len: ∀l:List Hp,(∀h∈l,okN h.name=true)→(hopsT l).length≤18*l.length
 | [],_=>by simp[hopsT]
 |x::l,h=>by
  have h1:=(okN_nameB (h x (by simp))).1
  have h2:=hopsT_len l (fun y hy=>h y (by simp[hy]))
  simp only[hopsT,txt,List.length_cons,List.length_append,List.length_nil,Tx.len_eq]
  omega
end Pn
theorem decl_len {x:Dc} (h:Pn.okDecl x=true):(Pn.declT x).length≤40:=by
 unfold Pn.okDecl at h
 simp only[Bool.and_eq_true,Bool.or_eq_true,decide_eq_true_eq] at h
 have h1:=(Pn.okN_nameB h.1).1
 have e1:(Pn.txt x.name).length=x.name.size:=Tx.len_eq _
 unfold Pn.declT
 split
 ·simp only[Pn.tInt,List.length_append,List.length_cons,List.length_nil];omega
 ·rename_i hn
  have h2:=(Pn.okN_nameB (h.2.resolve_left hn)).1
  have e2:(Pn.txt x.type).length=x.type.size:=Tx.len_eq _
  simp only[List.length_append,List.length_cons,List.length_nil];omega
end Go.Proofs.YtcehbcnloiooaaaGreatDoor
namespace Go.Proofs.YtcehbcnloiooaaaGreatDoor
open Go.RowKit Go.Sort
theorem digits_small (n:Nat) (h:n<10):Tx.digits n= [UInt8.ofNat (48+n)]:=by rw[Tx.digits,if_pos h]
theorem digits_great (n:Nat) (h: ¬n<10):Tx.digits n=Tx.digits (n/10)++ [UInt8.ofNat (48+n % 10)]:=by rw[Tx.digits,if_neg h]
theorem conv_cell (w:World) (g:Nat) (m:Int) (h:w.cell? ⟨g,0,none⟩=some (.int .u8 m)):
  (convert 145 9 (.slice (some ⟨g,0,none⟩) 1 1)).run Tryz.prog w= .ok (.string (bt [UInt8.ofNat m.toNat])) w:=
 run_convert_bytes_arg w 145 5 Tryz.underlying145 Tryz.underlying5 g 0 1 1 [m] rfl (fun i hi=>by
  obtain rfl:i=0:=by omega
  exact h) 9 Tryz.underlying9
theorem conv_byte (w:World) (m:Int):
  (convert 145 9 (.slice (some ⟨w.heap.size,0,none⟩) 1 1)).run Tryz.prog (w.alloc (.cells #[.int .u8 m] 5))= .ok (.string (bt [UInt8.ofNat m.toNat])) (w.alloc (.cells #[.int .u8 m] 5)):=
 conv_cell _ _ _ (by simp[go_sem])
attribute [local go_sem ↓] conv_byte
theorem okNum_nat {n:Int} (h:Pn.okNum n=true):((n.toNat:Nat):Int)=n∧n.toNat≤999999999:=by
 unfold Pn.okNum at h
 simp only[Bool.and_eq_true,decide_eq_true_eq] at h
 omega
theorem digits_len: ∀(k n:Nat),n<10 ^ (k+1)→(Tx.digits n).length≤k+1
 |0,n,h=>by rw[digits_small n (by omega)];simp
 |k+1,n,h=>by
  by_cases h10:n<10
  ·rw[digits_small n h10];simp
  ·rw[digits_great n h10,List.length_append]
   have:=digits_len k (n/10) (by rw[Nat.pow_succ] at h;omega)
   simp only[List.length_cons,List.length_nil];omega
theorem term_len {x:Tm} (h:Pn.okTerm x=true):(Pn.termT x).length≤16:=by
 unfold Pn.okTerm at h
 unfold Pn.termT
 split
 ·rename_i h0
  rw[if_pos h0] at h
  have:=digits_len 8 x.n.toNat (by have:=(okNum_nat h).2;omega)
  omega
 ·rename_i h0
  rw[if_neg h0] at h
  simp only[Bool.and_eq_true] at h
  have:=(Pn.okN_nameB h.1).1
  have e:(Pn.txt x.name).length=x.name.size:=Tx.len_eq _
  omega
end Go.Proofs.YtcehbcnloiooaaaGreatDoor
namespace Go.Proofs.YtcehbcnloiooaaaGreatDoor
open Go.RowKit Go.Sort
end Go.Proofs.YtcehbcnloiooaaaGreatDoor
namespace Go.Proofs.YtcehbcnloiooaaaGreatDoor
open Go.RowKit Go.Sort
end Go.Proofs.YtcehbcnloiooaaaGreatDoor
namespace Go.Proofs.YtcehbcnloiooaaaGreatDoor
open Go.RowKit Go.Sort
theorem conv_byte2 (w:World) (m:Int):
  (convert 145 9 (.slice (some ⟨w.heap.size,0,none⟩) 1 1)).run Tryz.prog (w.alloc (.cells #[.int .u8 m] 5))= .ok (.string ⟨#[UInt8.ofNat m.toNat]⟩) (w.alloc (.cells #[.int .u8 m] 5)):=conv_byte w m
theorem conv_g (w:World) (g:Nat) (m:Int) (hg:g=w.heap.size):
  (convert 145 9 (.slice (some ⟨g,0,none⟩) 1 1)).run Tryz.prog (w.alloc (.cells #[.int .u8 m] 5))= .ok (.string ⟨#[UInt8.ofNat m.toNat]⟩) (w.alloc (.cells #[.int .u8 m] 5)):=by subst hg;exact conv_byte w m
theorem conv_gd (w:World) (g:Nat) (m:Int) (hg:g=w.heap.size):
  (convert 145 9 (.slice (some ⟨g,0,none⟩) 1 1)).run Tryz.prog (w.alloc (.cells #[.int .u8 m] 5)).drew= .ok (.string ⟨#[UInt8.ofNat m.toNat]⟩) (w.alloc (.cells #[.int .u8 m] 5)).drew:=
 conv_cell _ _ _ (by subst hg;show (w.alloc (.cells #[.int .u8 m] 5)).cell? ⟨w.heap.size,0,none⟩=_;simp[go_sem])
attribute [local go_sem ↓] conv_byte2 conv_g conv_gd
end Go.Proofs.YtcehbcnloiooaaaGreatDoor
namespace Go.Proofs.YtcehbcnloiooaaaGreatDoor
open Go.RowKit Go.Sort
theorem side_len {x:Vl} (h:Pn.okSide x=true):(Pn.valT x).length≤200:=by
 unfold Pn.okSide at h
 simp only[Bool.and_eq_true,Bool.or_eq_true,decide_eq_true_eq] at h
 obtain ⟨hv,hk⟩:=h
 unfold Pn.okVal at hv
 unfold Pn.valT
 by_cases k0:x.kind=0
 ·rw[if_pos k0];decide
 rw[if_neg k0]
 by_cases k1:x.kind=1
 ·rw[if_pos k1]
  rw[if_neg (by omega),if_pos k1] at hv
  simp only[Bool.and_eq_true] at hv
  have hp:=hv.2
  unfold Pn.okPath at hp
  simp only[Bool.and_eq_true,decide_eq_true_eq,List.all_eq_true] at hp
  have h1:=(Pn.okN_nameB hp.1.1).1
  have h2:=Pn.hopsT_len x.path.hops.l hp.2
  simp only[Pn.pathT,List.length_append,Pn.txt,Tx.len_eq]
  have:=hp.1.2
  omega
 rw[if_neg k1]
 have k4:x.kind=4:=by omega
 rw[if_neg (by omega),if_neg (by omega),if_pos k4]
 rw[if_neg (by omega),if_neg k1,if_neg (by omega),if_pos k4] at hv
 simp only[Bool.and_eq_true] at hv
 have:=digits_len 9 x.left.n.toNat (by have:=(okNum_nat hv.2).2;omega)
 omega
end Go.Proofs.YtcehbcnloiooaaaGreatDoor
namespace Go.Proofs.YtcehbcnloiooaaaGreatDoor
open Go.RowKit Go.Sort
end Go.Proofs.YtcehbcnloiooaaaGreatDoor
namespace Go.Proofs.YtcehbcnloiooaaaGreatDoor
open Go.RowKit Go.Sort
theorem info59:(Tryz.prog.info? 147).map (·.size)=some 2:=by kernel_rfl
theorem lies59:liesAt Tryz.prog Tryz.prog.depth 149 (3/Tryz.prog.cellsOf 149) 0 147 1=true:=by kernel_rfl
theorem infoByte:(Tryz.prog.info? 5).map (fun i=>(i.zero,i.size,i.bytes))=some (some (.int .u8 0),1,1):=by kernel_rfl
theorem cells5:Tryz.prog.cellsOf 5=1:=by kernel_rfl
def PbA (B b:Nat) (l:List UInt8) (op:Int) (a:Value) (w:World):Prop:=
 B≤b∧∃v,w.heap[b]? =some (.cells #[a,v,.int .i64 op] 149 (0,0))∧w.ownsRow B 5 1 v l.length (Lib.byteCells l)∧v.ownBlock≠some b
def Pb (B b:Nat) (l:List UInt8) (op:Int) (w:World):Prop:=PbA B b l op (.pointer none) w∨PbA B b l op (.pointer (some ⟨b,0,none⟩)) w
theorem copyCheck_used (b:Nat) (w:World) (h0:w.cell? ⟨b,0,none⟩=some (.pointer (some ⟨b,0,none⟩))):
  Calls Tryz.prog 162 #[.pointer (some ⟨b,0,none⟩)] w fun e w'=>e= .returned (.tuple #[])∧w'=w:=by
 obtain ⟨j,hj,_⟩:=Option.map_eq_some_iff.1 info59
 go_enter Tryz.func162,Tryz.ntmps162
 go_wp2
 rw[Lib.run_neq_ptr_same w _ Tryz.underlying144 hj]
 go_wp2
 go_end0
 exact ⟨rfl,rfl⟩
theorem copyCheck_fresh (b:Nat) (w:World) (h0:w.cell? ⟨b,0,none⟩=some (.pointer none)) (hsh:w.shape? b=some (149,3)) (hfz:w.frozen? ⟨b,0,none⟩=false):
  Calls Tryz.prog 162 #[.pointer (some ⟨b,0,none⟩)] w fun e w'=>e= .returned (.tuple #[])∧w'=w.setCell ⟨b,0,none⟩ (.pointer (some ⟨b,0,none⟩)):=by
 obtain ⟨j,hj,hjs⟩:=Option.map_eq_some_iff.1 info59
 go_enter Tryz.func162,Tryz.ntmps162
 go_wp2
 rw[Lib.run_to_unsafe w ⟨b,0,none⟩ Tryz.underlying144 Tryz.underlying240 hj (by rw[hjs];decide) hsh (Nat.zero_lt_succ 2)]
 simp only[Result.andThen]
 rw[Oper.upon_value]
 go_wp2
 rw[run_callFunc_extern Tryz.func173 (by kernel_rfl) (by kernel_rfl) (by kernel_rfl) (e:=Extern.AbiNoEscape.same) (by kernel_rfl)]
 rw[Lib.run_noEscape]
 simp only[Result.andThen]
 rw[Oper.upon_value]
 go_wp2
 rw[Lib.run_from_unsafe w ⟨b,0,none⟩ Tryz.underlying240 Tryz.underlying144 hj hsh lies59]
 simp only[Result.andThen]
 rw[Oper.upon_value]
 go_wp2
 go_end0
 exact ⟨rfl,rfl⟩
theorem PbA.cell {B b:Nat} {l:List UInt8} {op:Int} {a:Value} {w:World} (h:PbA B b l op a w):w.cell? ⟨b,0,none⟩=some a∧w.cell? ⟨b,2,none⟩=some (.int .i64 op)∧w.shape? b=some (149,3)∧∀i,w.frozen? ⟨b,i,none⟩=false:=by
 obtain ⟨_,v,hb,_⟩:=h
 exact ⟨cell_of_row _ _ 0 _ _ _ hb,cell_of_row _ _ 2 _ _ _ hb,by simp[World.shape?,hb],fun i=>frozen_of_row w b i _ _ hb⟩
theorem own_set {B b e:Nat} {v:Value} {n:Nat} {xs:List Value} {w:World} (h:w.ownsRow B e 1 v n xs) (hne:v.ownBlock≠some b) (i:Nat) (u:Value):(w.setCell ⟨b,i,none⟩ u).ownsRow B e 1 v n xs:=
 h.kept (row:=some b) ⟨rfl,rfl,rfl,by simp[World.setCell],fun k _ hk=>Below.heap_setCell _ _ _ _ (fun e=>hk (by simp[e]))⟩ (Or.inr hne)
theorem PbA.put {B b:Nat} {a v v':Value} {l':List UInt8} {op:Int} {w:World} (hB:B≤b) (hb:w.heap[b]? =some (.cells #[a,v,.int .i64 op] 149 (0,0))) (hown:w.ownsRow B 5 1 v' l'.length (Lib.byteCells l')):
  PbA B b l' op a (w.setCell ⟨b,1,none⟩ v'):=by
 have hne:v'.ownBlock≠some b:=by
  intro e
  rcases hown.2 with ⟨hv,_⟩|⟨g,cap,cur,hv,_,hg,_⟩
  ·rw[hv] at e;cases e
  ·rw[hv] at e;injection e with e
   subst e
   rw[show (⟨g,0,none⟩:Addr).block=g from rfl,hg] at hb
   injection hb with hb;injection hb with _ hb
   cases hb
 exact ⟨hB,v',by simp[World.setCell,Array.getElem?_modify,hb],own_set hown hne _ _,hne⟩
theorem string_any (B b:Nat) (l:List UInt8) (op:Int) (w:World) (h:Pb B b l op w) (h0:l≠ []):
  Calls Tryz.prog 71 #[.pointer (some ⟨b,0,none⟩)] w fun e w'=>e= .returned (.string ⟨l.toArray⟩)∧Below B w w':=by
 obtain ⟨p,hB,v,hbk,hown,hne⟩: ∃p,PbA B b l op p w:=by
  rcases h with h |h
  ·exact ⟨_,h⟩
  ·exact ⟨_,h⟩
 have hl0:l.length≠0:=by simpa using h0
 obtain ⟨g,cap,cur,rfl,hbg,hg,hnc,hcm,hcs,htake⟩: ∃g cap cur,v= .slice (some ⟨g,0,none⟩) l.length cap∧B≤g∧w.heap[g]? =some (.cells cur 5 (0,0))∧l.length≤cap∧cap≤maxLen∧cur.size=cap*1∧cur.toList.take (l.length*1)=Lib.byteCells l:=by
  rcases hown.2 with ⟨_,hz⟩|⟨g,cap,cur,hv,r⟩
  ·exact absurd hz hl0
  ·exact ⟨g,cap,cur,hv,r⟩
 have c1:w.drew.cell? ⟨b,1,none⟩=some (.slice (some ⟨g,0,none⟩) l.length cap):=by
  have:w.drew.heap[b]? =some (.cells #[p,.slice (some ⟨g,0,none⟩) l.length cap,.int .i64 op] 149 (0,0)):=hbk
  exact cell_of_row _ _ 1 _ _ _ this
 have hSD:(Builtin.unsafeSliceData_ #[145] 177 #[.slice (some ⟨g,0,none⟩) l.length cap]).run Tryz.prog w.drew= .ok (.pointer (some ⟨g,0,none⟩)) w.drew:=
  Lib.run_unsafeSliceData_row _ _ _ _ _ _ (by omega)
 have hUS:(Builtin.unsafeString_ #[177,3] 9 #[.pointer (some ⟨g,0,none⟩),.int .i64 l.length]).run Tryz.prog w.drew= .ok (.string ⟨l.toArray⟩) (w.drew.freeze ⟨g,0,none⟩ l.length):=by
  refine Lib.run_unsafeString_row w.drew 177 3 9 5 Tryz.underlying177 cells5 g cur.size (by have hg':w.drew.heap[g]? =some (.cells cur 5 (0,0)):=hg;simp[World.shape?,hg']) l h0 (by omega) (by unfold maxLen at hcm;omega) ?_
  intro j x hx
  have:=hown.cells (g:=g) rfl j (.int .u8 x.toNat) (by simp[Lib.byteCells,hx])
  exact this
 go_enter Tryz.func71,Tryz.ntmps71
 go_wp2
 go_region
 all_goals (go_wp2;go_ret;exact ⟨rfl,Lib.below_freeze (Below.drew (Below.refl B w)) (p:=⟨g,0,none⟩) hbg _⟩)
end Go.Proofs.YtcehbcnloiooaaaGreatDoor
