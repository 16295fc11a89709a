/-
  The walk of a procedure's parameters and locals. The walk of the procedures' addition. The walk of Build. The walks of Fields and Global. The walks of the document's Struct, Type, Proc. The walk of the document's declarations. The walk of the document's structs. The walk of the document's Build: wor
-/
import Derived.Test.YtcehbcnloiooaaaGreatDoorM01
import Derived.Lib.SliceRun
import Derived.Lib.QuietBelow
import Derived.BigQuiet
import Derived.WalkLawsBesides
import Derived.Laws.StructEq
import Derived.Deep.RegionHeld3
set_option maxHeartbeats 6400000
set_option maxRecDepth 100000
namespace Go.Proofs.YtcehbcnloiooaaaGreatDoor
namespace Sc
open Go.RowKit Go.Sort Go.Maps
def lists2 (q:Pc):List (Sl Dc):= [q.params,q.locals_]
theorem frame_lists (q:Pc):frameOf q=(lists2 q).flatMap (·.l):=by simp[frameOf,lists2]
structure FrInv (sn:List ByteArray) (q:Pc) (M:Nat) (w wr:World) (hd rest:List Dc):Prop where
 go:declsGo sn [] (frameOf q)=declsGo sn (dNames hd) rest
 roll:Roll byName wr (w.heap.size+1) (dNames hd)
 below:Below w.heap.size w wr
 bk:Bk wr (w.heap.size+1+1) 23 #[.slice q.params.p q.params.l.length q.params.cap,.slice q.locals_.p q.locals_.l.length q.locals_.cap]
theorem FrInv.fresh {sn:List ByteArray} {q:Pc} {M:Nat} {w wr w':World} {hd rest:List Dc} (h:FrInv sn q M w wr hd rest) (hg:Gr wr w' (fun _=>False)):FrInv sn q M w w' hd rest where
 go:=h.go
 roll:=hg.roll h.roll (fun h=>h)
 below:=h.below.trans ((hg.below (N:=w.heap.size) h.below.size (fun _ h=>h.elim)))
 bk:=hg.bk h.bk (fun h=>h)
theorem FrInv.step {sn:List ByteArray} {q:Pc} {M:Nat} {w wr w':World} {hd rest:List Dc} {d:Dc} {en:Ending} (h:FrInv sn q M w wr hd (d::rest)) (hp:DePost sn (dNames hd) d (w.heap.size+1) wr en w') (h0:declE sn (dNames hd) d=0):FrInv sn q M w w' (hd++ [d]) rest where
 go:=by rw[h.go,declsGo_cons,if_pos h0,dNames_snoc]
 roll:=by
  have:=hp.2.1
  unfold addL at this
  rw[if_pos (declE_add h0)] at this
  rw[dNames_snoc];exact this
 below:=h.below.trans (hp.2.2.below (N:=w.heap.size) h.below.size (fun k h=>by omega))
 bk:=hp.2.2.bk h.bk (by omega)
def FrPost (sn:List ByteArray) (q:Pc) (w:World) (en:Ending) (w':World):Prop:=
 en= .returned (.tuple #[.int .i64 (declsGo sn [] (frameOf q)).1,.int .i64 (declsGo sn [] (frameOf q)).2])∧Below w.heap.size w w'
theorem dcsLay {w w':World} {s:Sl Dc} (h:declsLie w s) (hb:Below w.heap.size w w'):Lay 3 Dc.cells dcR w' s.p s.l:=declsLie_below h hb
theorem checkFrame_any (q:Pc) (M:Nat) (sn:List ByteArray) (w:World) (hq:pcLies w q) (hM:M+4<w.heap.size) (h0:w.cell? ⟨M+4,0,none⟩=some (.map (some M))) (hS:Roll byName w M sn):
  Calls Tryz.prog 62 #[tptr M,.agg #[.string q.name,.int .i64 q.pos,.int .i64 q.fin,.slice q.params.p q.params.l.length q.params.cap,.slice q.locals_.p q.locals_.l.length q.locals_.cap,.slice q.bp q.body.len q.bc]] w (FrPost sn q w):=by
 have hgn:Gr w (w.alloc (.cells #[.string q.name,.int .i64 q.pos,.int .i64 q.fin,.slice q.params.p q.params.l.length q.params.cap,.slice q.locals_.p q.locals_.l.length q.locals_.cap,.slice q.bp q.body.len q.bc] 37)) (fun _=>False):=(Gr.refl w _).alloc _
 have HMK:Hid (Roll byName (((w.alloc (.cells #[.string q.name,.int .i64 q.pos,.int .i64 q.fin,.slice q.params.p q.params.l.length q.params.cap,.slice q.locals_.p q.locals_.l.length q.locals_.cap,.slice q.bp q.body.len q.bc] 37)).alloc (.map #[] 0)).alloc (.cells #[.slice q.params.p q.params.l.length q.params.cap,.slice q.locals_.p q.locals_.l.length q.locals_.cap] 23)) (w.heap.size+1) []):=hdn (by
  have h1:=Roll.made byName (w.alloc (.cells #[.string q.name,.int .i64 q.pos,.int .i64 q.fin,.slice q.params.p q.params.l.length q.params.cap,.slice q.locals_.p q.locals_.l.length q.locals_.cap,.slice q.bp q.body.len q.bc] 37))
  have h2:=((Gr.refl _ (fun _=>False)).alloc (.cells #[.slice q.params.p q.params.l.length q.params.cap,.slice q.locals_.p q.locals_.l.length q.locals_.cap] 23)).roll h1 (fun h=>h)
  rwa[World.size_alloc] at h2)
 have HBL:Hid (Below w.heap.size w (((w.alloc (.cells #[.string q.name,.int .i64 q.pos,.int .i64 q.fin,.slice q.params.p q.params.l.length q.params.cap,.slice q.locals_.p q.locals_.l.length q.locals_.cap,.slice q.bp q.body.len q.bc] 37)).alloc (.map #[] 0)).alloc (.cells #[.slice q.params.p q.params.l.length q.params.cap,.slice q.locals_.p q.locals_.l.length q.locals_.cap] 23))):=hdn ((((Below.refl _ _).alloc (Nat.le_refl _) _).alloc (by simp) _).alloc (by simp;omega) _)
 have HBK:Hid (Bk (((w.alloc (.cells #[.string q.name,.int .i64 q.pos,.int .i64 q.fin,.slice q.params.p q.params.l.length q.params.cap,.slice q.locals_.p q.locals_.l.length q.locals_.cap,.slice q.bp q.body.len q.bc] 37)).alloc (.map #[] 0)).alloc (.cells #[.slice q.params.p q.params.l.length q.params.cap,.slice q.locals_.p q.locals_.l.length q.locals_.cap] 23)) (w.heap.size+1+1) 23 #[.slice q.params.p q.params.l.length q.params.cap,.slice q.locals_.p q.locals_.l.length q.locals_.cap]):=hdn (by
  have h1:=heap_alloc_new ((w.alloc (.cells #[.string q.name,.int .i64 q.pos,.int .i64 q.fin,.slice q.params.p q.params.l.length q.params.cap,.slice q.locals_.p q.locals_.l.length q.locals_.cap,.slice q.bp q.body.len q.bc] 37)).alloc (.map #[] 0)) (.cells #[.slice q.params.p q.params.l.length q.params.cap,.slice q.locals_.p q.locals_.l.length q.locals_.cap] 23)
  rw[World.size_alloc,World.size_alloc] at h1
  exact h1)
 have HI0:Hid (FrInv sn q M w (((w.alloc (.cells #[.string q.name,.int .i64 q.pos,.int .i64 q.fin,.slice q.params.p q.params.l.length q.params.cap,.slice q.locals_.p q.locals_.l.length q.locals_.cap,.slice q.bp q.body.len q.bc] 37)).alloc (.map #[] 0)).alloc (.cells #[.slice q.params.p q.params.l.length q.params.cap,.slice q.locals_.p q.locals_.l.length q.locals_.cap] 23)) [] (((lists2 q).drop 0).flatMap (·.l))):=hdn ⟨by rw[frame_lists];rfl,HMK.out,HBL.out,HBK.out⟩
 have HQ:=hdn hq
 have HM:=hdn hM
 have H0:=hdn h0
 have HS:=hdn hS
 clear hq hM h0 hS HMK HBL HBK hgn
 have hmm:= @run_makeMap Tryz.prog
 unfold tptr
 go_enter Tryz.func62,Tryz.ntmps62
 go_wp2_with fail
 generalize ((w.alloc (.cells #[.string q.name,.int .i64 q.pos,.int .i64 q.fin,.slice q.params.p q.params.l.length q.params.cap,.slice q.locals_.p q.locals_.l.length q.locals_.cap,.slice q.bp q.body.len q.bc] 37)).alloc (.map #[] 0)).alloc (.cells #[.slice q.params.p q.params.l.length q.params.cap,.slice q.locals_.p q.locals_.l.length q.locals_.cap] 23)=wA at HI0 ⊢
 clear hmm
 go_loopw [20] (fun i wr=> ∃(k:Nat) (hd:List Dc),i= .int .i64 k∧k≤2∧Hid (FrInv sn q M w wr hd (((lists2 q).drop k).flatMap (·.l)))) (fun i _=>2-(intOf i).toNat)
 case atStart=>exact ⟨0,[],rfl,Nat.zero_le _,HI0⟩
 case round=>
  obtain ⟨k,hd,rfl,hk,HV⟩:=hrel
  by_cases hkl:k<2
  ·obtain ⟨s,hcell,hlay,hrest⟩: ∃s:Sl Dc,wr.cell? ⟨w.heap.size+1+1,k,none⟩=some (.slice s.p s.l.length s.cap)∧declsLie w s∧((lists2 q).drop k).flatMap (·.l)=s.l++((lists2 q).drop (k+1)).flatMap (·.l):=by
    have hk2:k=0∨k=1:=by omega
    rcases hk2 with rfl |rfl
    ·exact ⟨q.params,HV.out.bk.cell 0,HQ.out.1,rfl⟩
    ·exact ⟨q.locals_,HV.out.bk.cell 1,HQ.out.2.1,rfl⟩
   have HV1:Hid (FrInv sn q M w wr hd (s.l++((lists2 q).drop (k+1)).flatMap (·.l))):=hdn (by have:=HV.out;rwa[hrest] at this)
   have HLY:Hid (∀wi,Below w.heap.size w wi→Lay 3 Dc.cells dcR wi s.p s.l):=hdn (fun wi hb=>dcsLay hlay hb)
   have hml:s.l.length≤1048576:=hlay.1
   generalize s.l=m at hcell HV1 HLY hml
   generalize s.p=mp at hcell HLY
   generalize s.cap=mc at hcell
   obtain ⟨tl,htl⟩: ∃tl,tl=((lists2 q).drop (k+1)).flatMap (·.l):=⟨_,rfl⟩
   rw[←htl] at HV1
   have HTL:=hdn htl
   have hk0:(0:Int)≤(k:Int):=Int.natCast_nonneg _
   have hk1:(k:Int)<2:=by omega
   clear hlay hrest HV htl
   go_wp2_with fail
   obtain ⟨wo,rfl⟩: ∃wo:World,wo=wr:=⟨_,rfl⟩
   go_loopw [26] (fun i wr=> ∃(j:Nat) (hd:List Dc),i= .int .i64 j∧j≤m.length∧Hid (FrInv sn q M w wr hd (m.drop j++tl))) (fun i _=>m.length-(intOf i).toNat)
   case atStart=>exact ⟨0,hd,rfl,Nat.zero_le _,HV1⟩
   case round=>
    clear HV1 hcell
    obtain ⟨j,hd,rfl,hj,HV⟩:=hrel
    by_cases hjl:j<m.length
    ·obtain ⟨b,o,rfl,hrg,hdc⟩:=(HLY.out wr HV.out.below).at_ hjl
     have HV2:Hid (FrInv sn q M w wr hd (m[j]::(m.drop (j+1)++tl))):=hdn (by have:=HV.out;rwa[List.drop_eq_getElem_cons hjl] at this)
     generalize hdd:m[j]=d at hrg hdc HV2
     clear hdd HV
     have HRG:Hid (wr.rangeAt b (o+j*3) (#[.string d.type,.string d.name,.int .i64 d.pos]:Array Value).toList):=hdn hrg
     have HNB:Hid (Bk (wr.alloc (.cells #[.string d.type,.string d.name,.int .i64 d.pos] 65)) wr.heap.size 65 #[.string d.type,.string d.name,.int .i64 d.pos]):=hdn (heap_alloc_new _ _)
     have HV3:Hid (FrInv sn q M w (wr.alloc (.cells #[.string d.type,.string d.name,.int .i64 d.pos] 65)) hd (d::(m.drop (j+1)++tl))):=hdn (HV2.out.fresh ((Gr.refl wr (fun _=>False)).alloc _))
     have HC:Hid (Calls Tryz.prog 61 #[tptr M,.map (some (w.heap.size+1)),.agg #[.string d.type,.string d.name,.int .i64 d.pos]] (wr.alloc (.cells #[.string d.type,.string d.name,.int .i64 d.pos] 65)) (DePost sn (dNames hd) d (w.heap.size+1) (wr.alloc (.cells #[.string d.type,.string d.name,.int .i64 d.pos] 65)))):=
      hdn (declare_any d sn (dNames hd) M (w.heap.size+1) _ hdc (by have:=HM.out;omega) (by have:=HM.out;omega) ((HV3.out.below.cell (p:=⟨M+4,0,none⟩) HM.out).trans H0.out) (HS.out.below HV3.out.below (by have:=HM.out;omega)) HV3.out.roll)
     unfold tptr at HC
     have HWR:Hid (w.heap.size+1<wr.heap.size):=hdn HV2.out.roll.lt
     have n0:(0:Int)≤(j:Int):=Int.natCast_nonneg _
     have n1:(j:Int)<(m.length:Int):=by omega
     clear hrg hdc HV2
     go_wp2_with (first |((with_reducible show wpList _ _ _ (Oper.mk (some 29) _ _ _ _ _::_) _ _);refine wpList_load_arr rfl 65 (.tmp 28) rfl b (o+j*3) rfl #[.string d.type,.string d.name,.int .i64 d.pos] _ HRG.out Tryz.underlying65 rfl size46 ?_)|((with_reducible show wpList _ _ _ (Oper.mk none (Op.store _ _ _) _ _ _ _::_) _ _);refine wpList_store_new rfl 65 (.tmp 10) (.tmp 29) rfl _ #[.string d.type,.string d.name,.int .i64 d.pos] rfl rfl size46 rfl rfl ?_)|((with_reducible show wpList _ _ _ (Oper.mk (some 33) _ _ _ _ _::_) _ _);refine wpList_load_arr rfl 65 (.tmp 10) rfl wr.heap.size 0 rfl #[.string d.type,.string d.name,.int .i64 d.pos] _ (fun i u hu=>by rw[Nat.zero_add];exact (HNB.out.cell i).trans (by simpa using hu)) Tryz.underlying65 rfl size46 ?_))
     generalize wr.alloc (.cells #[.string d.type,.string d.name,.int .i64 d.pos] 65)=wB at HNB HV3 HC ⊢
     refine HC.out.mono ?_;rintro en w2 hp
     have HP:=hdn hp
     obtain ⟨rfl,_,hg2⟩:=hp
     have HNB2:Hid (Bk w2 wr.heap.size 65 #[.string d.type,.string d.name,.int .i64 d.pos]):=hdn (hg2.bk HNB.out (by have:=HWR.out;omega))
     have HBL2:Hid (Below w.heap.size w w2):=hdn (HV3.out.below.trans (hg2.below (N:=w.heap.size) HV3.out.below.size (fun k h=>by omega)))
     clear hg2
     by_cases he:declE sn (dNames hd) d=0
     ·have HIN:Hid (FrInv sn q M w w2 (hd++ [d]) (m.drop (j+1)++tl)):=hdn (HV3.out.step HP.out he)
      rw[he]
      clear he
      go_wp2_with fail
      go_roundw
      case rel=>exact ⟨j+1,_,by go_num,by omega,HIN⟩
      case measure=>simp[intOf];omega
     ·have hne:=declE_ne he
      have HX:=hdn he
      have HFE:Hid (declsGo sn [] (frameOf q)=(d.pos,declE sn (dNames hd) d)):=hdn (by rw[HV3.out.go,declsGo_cons,if_neg he])
      have d2:w2.cell? ⟨wr.heap.size,2,none⟩=some (.int .i64 d.pos):=HNB2.out.cell 2
      clear he
      go_wp2_with fail
      go_ret2
      exact ⟨by rw[HFE.out];rfl,HBL2.out⟩
    ·have HIN:Hid (FrInv sn q M w wr hd (((lists2 q).drop (k+1)).flatMap (·.l))):=hdn (by have:=HV.out;rwa[List.drop_eq_nil_of_le (by omega),List.nil_append,HTL.out] at this)
     go_wp2_with fail
     go_roundw
     case rel=>exact ⟨k+1,hd,by go_num,by omega,HIN⟩
     case measure=>simp[intOf];omega
  ·have HG:Hid (declsGo sn [] (frameOf q)=(0,0)):=hdn (by
    have:=HV.out.go
    rw[List.drop_eq_nil_of_le (by simp[lists2];omega)] at this
    rw[this];rfl)
   go_wp2_with fail
   go_ret2
   exact ⟨by rw[HG.out];rfl,HV.out.below⟩
end Sc
end Go.Proofs.YtcehbcnloiooaaaGreatDoor
namespace Go.Proofs.YtcehbcnloiooaaaGreatDoor
namespace Sc
open Go.RowKit Go.Sort Go.Maps
def pNames (l:List Pc):List ByteArray:=l.map (·.name)
theorem pNames_take {l:List Pc} {k:Nat} (h:k<l.length):pNames (l.take (k+1))=pNames (l.take k)++ [l[k].name]:=by
 show (l.take (k+1)).map _=_
 rw[List.take_succ_eq_append_getElem h,List.map_append];rfl
theorem procsGo_cons (sn hv:List ByteArray) (q:Pc) (r:List Pc):procsGo sn hv (q::r)=if addE 16 hv q.name=0 then (if (declsGo sn [] (frameOf q)).2=0 then procsGo sn (hv++ [q.name]) r else declsGo sn [] (frameOf q)) else (q.pos,addE 16 hv q.name):=by
 rw[procsGo];unfold addE
 split
 ·rfl
 ·split
  ·rfl
  ·rfl
def PsPost (sn:List ByteArray) (M:Nat) (w:World) (l:List Pc) (en:Ending) (w':World):Prop:=
 en= .returned (.tuple #[.int .i64 (procsGo sn [] l).1,.int .i64 (procsGo sn [] l).2])∧((procsGo sn [] l).2=0→Roll byName w' (M+3) (pNames l))∧Gr w w' (fun k=>k=M+3)
theorem addProcs_any (p:Option Addr) (l:List Pc) (c M:Nat) (e v:Value) (sn:List ByteArray) (w:World) (hM:M+4<w.heap.size) (hlen:l.length≤1048576) (hL: ∀wr,Gr w wr (fun k=>k=M+3)→Lay 6 Pc.cells pcLies wr p l)
  (hT:Bk w (M+4) 95 (tcells M e v)) (hS:Roll byName w M sn) (hR:Roll byName w (M+3) []):
  Calls Tryz.prog 34 #[tptr M,.slice p l.length c] w (PsPost sn M w l):=by
 have HL:=hdn hL
 have HT:=hdn hT
 have HR:=hdn hR
 have HS:=hdn hS
 have HM:=hdn hM
 clear hL hT hS hR hM
 unfold tptr
 go_enter Tryz.func34,Tryz.ntmps34
 go_wp2_with fail
 go_loopw [13] (fun i wr=> ∃k:Nat,i= .int .i64 k∧k≤l.length∧Hid (procsGo sn [] l=procsGo sn (pNames (l.take k)) (l.drop k))∧Hid (Roll byName wr (M+3) (pNames (l.take k)))∧Hid (Gr w wr (fun k=>k=M+3))) (fun i _=>l.length-(intOf i).toNat)
 case atStart=>exact ⟨0,rfl,Nat.zero_le _,hdn rfl,HR,hdn (Gr.refl _ _)⟩
 case round=>
  obtain ⟨k,rfl,hk,HG,HRO,HGR⟩:=hrel
  by_cases hkl:k<l.length
  ·obtain ⟨b,o,rfl,hrg,hsr⟩:=(HL.out wr HGR.out).at_ hkl
   have hst:procsGo sn [] l=if addE 16 (pNames (l.take k)) l[k].name=0 then (if (declsGo sn [] (frameOf l[k])).2=0 then procsGo sn (pNames (l.take k)++ [l[k].name]) (l.drop (k+1)) else declsGo sn [] (frameOf l[k])) else (l[k].pos,addE 16 (pNames (l.take k)) l[k].name):=by
    rw[HG.out,List.drop_eq_getElem_cons hkl,procsGo_cons]
   have hnx:=pNames_take hkl
   have HQK:Hid (∀wi,Gr w wi (fun k=>k=M+3)→pcLies wi l[k]):=hdn (fun wi hi=>by
    obtain ⟨_,_,_,_,h⟩:=(HL.out wi hi).at_ hkl
    exact h)
   generalize hs:l[k]=q at hrg hsr hst hnx HQK
   clear hs
   obtain ⟨cs,hcs⟩: ∃cs:Array Value,cs= #[.string q.name,.int .i64 q.pos,.int .i64 q.fin,.slice q.params.p q.params.l.length q.params.cap,.slice q.locals_.p q.locals_.l.length q.locals_.cap,.slice q.bp q.body.len q.bc]:=⟨_,rfl⟩
   have HCS:=hdn hcs
   have HRG:Hid (wr.rangeAt b (o+k*6) cs.toList):=hdn (by rw[hcs];exact hrg)
   have HSZ:Hid ((Tryz.prog.info? 37).map (·.size)=some cs.size):=hdn (by rw[hcs];exact size49)
   have HZ:Hid (6=cs.size):=hdn (by rw[hcs];rfl)
   have HON:Hid (cs.all (·.oneCell')=true):=hdn (by rw[hcs];simp[Value.oneCell'])
   have HNB:Hid (Bk (wr.alloc (.cells cs 37)) wr.heap.size 37 cs):=hdn (heap_alloc_new _ _)
   have hT1:Bk (wr.alloc (.cells cs 37)) (M+4) 95 (tcells M e v):=(HGR.out.alloc _).bk HT.out (by omega)
   have HT1:=hdn hT1
   have e0:(wr.alloc (.cells cs 37)).cell? ⟨wr.heap.size,0,none⟩=some (.string q.name):=(HNB.out.cell 0).trans (by rw[hcs];rfl)
   have t0:(wr.alloc (.cells cs 37)).cell? ⟨M+4,5,none⟩=some (.map (some (M+3))):=hT1.cell 5
   have HG1:Hid (Gr w (wr.alloc (.cells cs 37)) (fun k=>k=M+3)):=hdn (HGR.out.alloc _)
   have HS1:Hid (Roll byName (wr.alloc (.cells cs 37)) M sn):=hdn (HG1.out.roll HS.out (by omega))
   have HA:Hid (Calls Tryz.prog 59 #[.map (some (M+3)),.string q.name,.int .i64 16] (wr.alloc (.cells cs 37)).drew (Added byName 16 (wr.alloc (.cells cs 37)).drew (M+3) (pNames (l.take k)) q.name)):=
    hdn (addN_any q.name (M+3) 16 _ _ ((HRO.out.kept (World.grownBy_alloc wr (.cells cs 37) none) (by simp)).same rfl) hsr.2.2.2 (by decide))
   have HX:=hdn hst
   have HNX:=hdn hnx
   have HMw:Hid (M+4<wr.heap.size):=hdn (Nat.lt_of_lt_of_le HM.out HGR.out.size)
   have hk0:(0:Int)≤(k:Int):=Int.natCast_nonneg _
   have hk1:(k:Int)<(l.length:Int):=by omega
   clear hst hnx hrg hsr hT1 hcs
   go_wp2_with (first |((with_reducible show wpList _ _ _ (Oper.mk (some 16) _ _ _ _ _::_) _ _);refine wpList_load_arr rfl 37 (.tmp 15) rfl b (o+k*6) rfl cs _ HRG.out Tryz.underlying37 rfl HSZ.out ?_)|((with_reducible show wpList _ _ _ (Oper.mk none (Op.store _ _ _) _ _ _ _::_) _ _);refine wpList_store_new rfl 37 (.tmp 7) (.tmp 16) rfl _ cs rfl rfl HSZ.out HZ.out HON.out ?_))
   have HWB:Hid (wr.heap.size<(wr.alloc (.cells cs 37)).heap.size):=hdn (by simp)
   generalize wr.alloc (.cells cs 37)=wB at t0 e0 HG1 HA HNB HT1 HS1 HWB ⊢
   go_still_tail 6,(by kernel_rfl)
   change wpList _ _ _ _ _ wB.drew
   go_wp2_with fail
   refine HA.out.mono ?_;rintro en w2 ⟨rfl,hr2,hg2⟩
   have HR2:=hdn hr2
   have HN2:Hid (Gr wB w2 (fun k=>k=M+3)):=hdn ((Gr.refl wB _).drew.grown hg2 (fun i _ e=>by injection e))
   have HG2:Hid (Gr w w2 (fun k=>k=M+3)):=hdn (HG1.out.trans HN2.out)
   have HNB2:Hid (Bk w2 wr.heap.size 37 cs):=hdn (HN2.out.bk HNB.out (by have:=HMw.out;omega))
   clear hr2 hg2 t0 e0
   by_cases he:addE 16 (pNames (l.take k)) q.name=0
   ·have HE:Hid (addE 16 (pNames (l.take k)) q.name=0):=hdn he
    have HT2:Hid (Bk w2 (M+4) 95 (tcells M e v)):=hdn (HN2.out.bk HT1.out (by omega))
    have HQ2:Hid (pcLies w2 q):=hdn (HQK.out w2 HG2.out)
    have HF:Hid (Calls Tryz.prog 62 #[tptr M,.agg #[.string q.name,.int .i64 q.pos,.int .i64 q.fin,.slice q.params.p q.params.l.length q.params.cap,.slice q.locals_.p q.locals_.l.length q.locals_.cap,.slice q.bp q.body.len q.bc]] w2 (FrPost sn q w2)):=
     hdn (checkFrame_any q M sn w2 HQ2.out HT2.out.lt (HT2.out.cell 0) (HN2.out.roll HS1.out (by omega)))
    unfold tptr at HF
    rw[←HCS.out] at HF
    rw[he]
    clear he
    go_wp2_with (first |((with_reducible show wpList _ _ _ (Oper.mk (some 31) _ _ _ _ _::_) _ _);refine wpList_load_arr rfl 37 (.tmp 7) rfl wr.heap.size 0 rfl cs _ (fun i u hu=>by rw[Nat.zero_add];exact (HNB2.out.cell i).trans (by simpa using hu)) Tryz.underlying37 rfl HSZ.out ?_))
    refine HF.out.mono ?_;rintro en w3 ⟨rfl,hb3⟩
    have HG3:Hid (Gr w w3 (fun k=>k=M+3)):=hdn (HG2.out.trans (Gr.of_below hb3))
    have HR3:Hid (Roll byName w3 (M+3) (addL 16 (pNames (l.take k)) q.name)):=hdn (HR2.out.below hb3 HR2.out.lt)
    clear hb3
    by_cases he2:(declsGo sn [] (frameOf q)).2=0
    ·have HE2:=hdn he2
     rw[he2]
     clear he2
     go_wp2_with fail
     go_roundw
     case rel=>
      refine ⟨k+1,by go_num,by omega,hdn ?_,hdn ?_,HG3⟩
      ·rw[HX.out,if_pos HE.out,if_pos HE2.out,HNX.out]
      ·have:=HR3.out
       unfold addL at this
       rw[if_pos HE.out] at this
       rw[HNX.out];exact this
     case measure=>simp[intOf];omega
    ·have hne:((declsGo sn [] (frameOf q)).2 !=0)=true:=by rw[bne_iff_ne];exact he2
     have HE2:=hdn he2
     clear he2
     go_wp2_with fail
     go_ret2
     exact ⟨by rw[HX.out,if_pos HE.out,if_neg HE2.out];rfl,fun h=>absurd (by rw[HX.out,if_pos HE.out,if_neg HE2.out] at h;exact h) HE2.out,HG3.out⟩
   ·have hne:=addE_pos he
    have HE:=hdn he
    have d1:w2.cell? ⟨wr.heap.size,1,none⟩=some (.int .i64 q.pos):=(HNB2.out.cell 1).trans (by rw[HCS.out];rfl)
    clear he
    go_wp2_with fail
    go_ret2
    exact ⟨by rw[HX.out,if_neg HE.out];rfl,fun h=>absurd (by rw[HX.out,if_neg HE.out] at h;exact h) HE.out,HG2.out⟩
  ·have HF:Hid (procsGo sn [] l=(0,0)):=hdn (by rw[HG.out,List.drop_eq_nil_of_le (by omega)];rfl)
   have HRF:Hid (Roll byName wr (M+3) (pNames l)):=hdn (by have:=HRO.out;rwa[List.take_of_length_le (by omega)] at this)
   go_wp2_with fail
   go_ret2
   exact ⟨by rw[HF.out];rfl,fun _=>HRF.out,HGR.out⟩
end Sc
end Go.Proofs.YtcehbcnloiooaaaGreatDoor
namespace Go.Proofs.YtcehbcnloiooaaaGreatDoor
namespace Sc
open Go.RowKit Go.Sort Go.Maps
def allPairs (x:Pg):List (Nat×Dc):=pairsFrom 0 x.structs.l
def endsP (x:Pg):List (Int×Int):=endsOf (sNames x.structs.l) (allPairs x)
def varsP (x:Pg):List (Int×Int):=varsGo (sNames x.structs.l) 0 0 x.globals.l
structure TabIs (x:Pg) (w:World) (M:Nat):Prop where
 rs:Roll byName w M (sNames x.structs.l)
 rf:Roll byMember w (M+1) ((allPairs x).map memb)
 rg:Roll byName w (M+2) (dNames x.globals.l)
 rp:Roll byName w (M+3) (pNames x.procs.l)
 tab: ∃e v base base',Bk w (M+4) 95 (tcells M e v)∧w.ownsRow base 102 2 e (endsP x).length (pcells (endsP x))∧w.ownsRow base' 133 2 v (varsP x).length (pcells (varsP x))
 fsmall:(allPairs x).length≤8
 gsmall:x.globals.l.length≤16
 vlen:(varsP x).length=x.globals.l.length
theorem TabIs.keep {x:Pg} {w w':World} {M:Nat} (h:TabIs x w M) (hb:Below w.heap.size w w'):TabIs x w' M where
 rs:=h.rs.below hb h.rs.lt
 rf:=h.rf.below hb h.rf.lt
 rg:=h.rg.below hb h.rg.lt
 rp:=h.rp.below hb h.rp.lt
 tab:=by
  obtain ⟨e,v,b1,b2,h1,h2,h3⟩:=h.tab
  have hg:Gr w w' (fun _=>False):=Gr.of_below hb
  exact ⟨e,v,b1,b2,hg.bk h1 (fun h=>h),own_gr h2 hg (fun _ _ _ h=>h),own_gr h3 hg (fun _ _ _ h=>h)⟩
 fsmall:=h.fsmall
 gsmall:=h.gsmall
 vlen:=h.vlen
def BdPost (x:Pg) (w:World) (en:Ending) (w':World):Prop:=
 ∃t,en= .returned (.tuple #[t,.int .i64 (buildGo x).1,.int .i64 (buildGo x).2])∧((buildGo x).2=0→∃M,t=tptr M∧TabIs x w' M∧w.heap.size≤M)∧((buildGo x).2≠0→t= .pointer none)∧Below w.heap.size w w'
theorem procsGo_zero (sn:List ByteArray): ∀(l:List Pc) (hv:List ByteArray),(procsGo sn hv l).2=0→procsGo sn hv l=(0,0)
 | [],_,_=>rfl
 |q::r,hv,h=>by
  rw[procsGo_cons] at h ⊢
  by_cases h1:addE 16 hv q.name=0
  ·rw[if_pos h1] at h ⊢
   by_cases h2:(declsGo sn [] (frameOf q)).2=0
   ·rw[if_pos h2] at h ⊢
    exact procsGo_zero sn r _ h
   ·rw[if_neg h2] at h
    exact absurd h h2
  ·rw[if_neg h1] at h
   exact absurd h h1
theorem made_tab (w:World) (o:Obj) (M:Nat) (hM:w.heap.size+1=M):
  Bk ((((((w.alloc o).alloc (.map #[] 0)).alloc (.map #[] 0)).alloc (.map #[] 0)).alloc (.map #[] 0)).alloc (.cells #[.map (some M),.map (some (M+1)),.slice none 0 0,.map (some (M+2)),.slice none 0 0,.map (some (M+3))] 95)) (M+4) 95 (tcells M (.slice none 0 0) (.slice none 0 0))∧
  Roll byName ((((((w.alloc o).alloc (.map #[] 0)).alloc (.map #[] 0)).alloc (.map #[] 0)).alloc (.map #[] 0)).alloc (.cells #[.map (some M),.map (some (M+1)),.slice none 0 0,.map (some (M+2)),.slice none 0 0,.map (some (M+3))] 95)) M []∧
  Roll byMember ((((((w.alloc o).alloc (.map #[] 0)).alloc (.map #[] 0)).alloc (.map #[] 0)).alloc (.map #[] 0)).alloc (.cells #[.map (some M),.map (some (M+1)),.slice none 0 0,.map (some (M+2)),.slice none 0 0,.map (some (M+3))] 95)) (M+1) []∧
  Roll byName ((((((w.alloc o).alloc (.map #[] 0)).alloc (.map #[] 0)).alloc (.map #[] 0)).alloc (.map #[] 0)).alloc (.cells #[.map (some M),.map (some (M+1)),.slice none 0 0,.map (some (M+2)),.slice none 0 0,.map (some (M+3))] 95)) (M+2) []∧
  Roll byName ((((((w.alloc o).alloc (.map #[] 0)).alloc (.map #[] 0)).alloc (.map #[] 0)).alloc (.map #[] 0)).alloc (.cells #[.map (some M),.map (some (M+1)),.slice none 0 0,.map (some (M+2)),.slice none 0 0,.map (some (M+3))] 95)) (M+3) []:=by
 subst hM
 have f: ∀(a:World) (o:Obj),Gr a (a.alloc o) (fun _=>False):=fun a o=>(Gr.refl a _).alloc o
 have r1:=Roll.made byName (w.alloc o)
 have r2:=Roll.made byMember ((w.alloc o).alloc (.map #[] 0))
 have r3:=Roll.made byName (((w.alloc o).alloc (.map #[] 0)).alloc (.map #[] 0))
 have r4:=Roll.made byName ((((w.alloc o).alloc (.map #[] 0)).alloc (.map #[] 0)).alloc (.map #[] 0))
 have r5:=heap_alloc_new (((((w.alloc o).alloc (.map #[] 0)).alloc (.map #[] 0)).alloc (.map #[] 0)).alloc (.map #[] 0)) (.cells (tcells (w.heap.size+1) (.slice none 0 0) (.slice none 0 0)) 95)
 simp only[World.size_alloc] at r1 r2 r3 r4 r5
 exact ⟨r5,((((f _ _).trans (f _ _)).trans (f _ _)).trans (f _ _)).roll r1 (fun h=>h),(((f _ _).trans (f _ _)).trans (f _ _)).roll r2 (fun h=>h),((f _ _).trans (f _ _)).roll r3 (fun h=>h),(f _ _).roll r4 (fun h=>h)⟩
theorem build_any (x:Pg) (w:World) (hx:pgLies w x):
  Calls Tryz.prog 12 #[.agg #[.slice x.structs.p x.structs.l.length x.structs.cap,.slice x.globals.p x.globals.l.length x.globals.cap,.slice x.procs.p x.procs.l.length x.procs.cap]] w (BdPost x w):=by
 obtain ⟨M,hM⟩: ∃M,w.heap.size+1=M:=⟨_,rfl⟩
 have HX:=hdn hx
 have HM:=hdn hM
 have HMT:=hdn (made_tab w (.cells #[.slice x.structs.p x.structs.l.length x.structs.cap,.slice x.globals.p x.globals.l.length x.globals.cap,.slice x.procs.p x.procs.l.length x.procs.cap] 26) M hM)
 have HB0:Hid (Below M w ((((((w.alloc (.cells #[.slice x.structs.p x.structs.l.length x.structs.cap,.slice x.globals.p x.globals.l.length x.globals.cap,.slice x.procs.p x.procs.l.length x.procs.cap] 26)).alloc (.map #[] 0)).alloc (.map #[] 0)).alloc (.map #[] 0)).alloc (.map #[] 0)).alloc (.cells #[.map (some M),.map (some (M+1)),.slice none 0 0,.map (some (M+2)),.slice none 0 0,.map (some (M+3))] 95))→True):=hdn (fun _=>trivial)
 have HBW:Hid (Below w.heap.size w ((((((w.alloc (.cells #[.slice x.structs.p x.structs.l.length x.structs.cap,.slice x.globals.p x.globals.l.length x.globals.cap,.slice x.procs.p x.procs.l.length x.procs.cap] 26)).alloc (.map #[] 0)).alloc (.map #[] 0)).alloc (.map #[] 0)).alloc (.map #[] 0)).alloc (.cells #[.map (some M),.map (some (M+1)),.slice none 0 0,.map (some (M+2)),.slice none 0 0,.map (some (M+3))] 95))):=hdn ((((((((Below.refl _ _).alloc (Nat.le_refl _) _).alloc (by simp) _).alloc (by simp;omega) _).alloc (by simp;omega) _).alloc (by simp;omega) _).alloc (by simp;omega) _))
 have HPB:Hid (Bk ((((((w.alloc (.cells #[.slice x.structs.p x.structs.l.length x.structs.cap,.slice x.globals.p x.globals.l.length x.globals.cap,.slice x.procs.p x.procs.l.length x.procs.cap] 26)).alloc (.map #[] 0)).alloc (.map #[] 0)).alloc (.map #[] 0)).alloc (.map #[] 0)).alloc (.cells #[.map (some M),.map (some (M+1)),.slice none 0 0,.map (some (M+2)),.slice none 0 0,.map (some (M+3))] 95)) w.heap.size 26 #[.slice x.structs.p x.structs.l.length x.structs.cap,.slice x.globals.p x.globals.l.length x.globals.cap,.slice x.procs.p x.procs.l.length x.procs.cap]):=hdn (by
  have f: ∀(a:World) (o:Obj),Gr a (a.alloc o) (fun _=>False):=fun a o=>(Gr.refl a _).alloc o
  exact (((((f _ _).trans (f _ _)).trans (f _ _)).trans (f _ _)).trans (f _ _)).bk (heap_alloc_new w _) (fun h=>h))
 have hmm:= @run_makeMap Tryz.prog
 clear hx hM HB0
 go_enter Tryz.func12,Tryz.ntmps12
 go_wp2_with fail
 clear hmm
 rw[HM.out,show M+1+1+1+1=M+4 from rfl,show M+1+1+1=M+3 from rfl,show M+1+1=M+2 from rfl]
 generalize (((((w.alloc (.cells #[.slice x.structs.p x.structs.l.length x.structs.cap,.slice x.globals.p x.globals.l.length x.globals.cap,.slice x.procs.p x.procs.l.length x.procs.cap] 26)).alloc (.map #[] 0)).alloc (.map #[] 0)).alloc (.map #[] 0)).alloc (.map #[] 0)).alloc (.cells #[.map (some M),.map (some (M+1)),.slice none 0 0,.map (some (M+2)),.slice none 0 0,.map (some (M+3))] 95)=wA at HMT HBW HPB ⊢
 obtain ⟨m1,m2,m3,m4,m5⟩:=HMT.out
 have HT:=hdn m1;have HR1:=hdn m2;have HR2:=hdn m3;have HR3:=hdn m4;have HR4:=hdn m5
 clear m1 m2 m3 m4 m5 HMT
 have HSUB:Hid (∀(S:Nat→Prop) wi,Gr wA wi S→(∀k,S k→M≤k)→Below w.heap.size w wi):=hdn (fun S wi hg hS=>HBW.out.trans (hg.below HBW.out.size (fun k hk=>by have:=hS k hk;have:=HM.out;omega)))
 have HLs:Hid (∀wi,Below w.heap.size w wi→Lay 3 Sr.cells srLies wi x.structs.p x.structs.l):=hdn (fun wi hb=>srsLie_below HX.out.1 hb)
 have HLg:Hid (∀wi,Below w.heap.size w wi→Lay 3 Dc.cells dcR wi x.globals.p x.globals.l):=hdn (fun wi hb=>declsLie_below HX.out.2.1 hb)
 have HLp:Hid (∀wi,Below w.heap.size w wi→Lay 6 Pc.cells pcLies wi x.procs.p x.procs.l):=hdn (fun wi hb=>pcsLie_below HX.out.2.2 hb)
 have HC1:=hdn (addStructs_any x.structs.p x.structs.l x.structs.cap M _ _ wA HT.out.lt (HLs.out wA HBW.out) (fun _ wr hg=>HLs.out wr (HSUB.out _ wr hg (fun k h=>by omega))) HT.out HR1.out)
 unfold tptr at HC1
 refine HC1.out.mono ?_;rintro en w1 ⟨rfl,hr1,hg1⟩
 have HRS:=hdn hr1
 have HG1:=hdn hg1
 have HB1:=hdn (HSUB.out _ w1 hg1 (fun k h=>by omega))
 clear hr1 hg1
 by_cases e1:(structsGo [] x.structs.l).2=0
 ·have HE1:=hdn e1
  have HT1:Hid (Bk w1 (M+4) 95 (tcells M (.slice none 0 0) (.slice none 0 0))):=hdn (HG1.out.bk HT.out (by omega))
  have HPB1:Hid (Bk w1 w.heap.size 26 #[.slice x.structs.p x.structs.l.length x.structs.cap,.slice x.globals.p x.globals.l.length x.globals.cap,.slice x.procs.p x.procs.l.length x.procs.cap]):=hdn (HG1.out.bk HPB.out (by have:=HM.out;omega))
  have HR21:Hid (Roll byMember w1 (M+1) []):=hdn (HG1.out.roll HR2.out (by omega))
  have HR31:Hid (Roll byName w1 (M+2) []):=hdn (HG1.out.roll HR3.out (by omega))
  have HR41:Hid (Roll byName w1 (M+3) []):=hdn (HG1.out.roll HR4.out (by omega))
  have HSUB1:Hid (∀(S:Nat→Prop) wi,Gr w1 wi S→(∀k,S k→M≤k)→Below w.heap.size w wi):=hdn (fun S wi hg hS=>HB1.out.trans (hg.below HB1.out.size (fun k hk=>by have:=hS k hk;have:=HM.out;omega)))
  have HC2:=hdn (addFields_any x.structs.p x.structs.l x.structs.cap M _ (sNames x.structs.l) w1 HT1.out.lt HX.out.1.1 (fun wr hg=>HLs.out wr (HSUB1.out _ wr hg (fun k h=>by omega))) HT1.out (HRS.out e1) HR21.out)
  unfold tptr at HC2
  have q0:w1.cell? ⟨w.heap.size,0,none⟩=some (.slice x.structs.p x.structs.l.length x.structs.cap):=HPB1.out.cell 0
  rw[e1]
  clear e1
  go_wp2_with fail
  refine HC2.out.mono ?_;rintro en w2 ⟨rfl,hr2,hg2⟩
  have HRF:=hdn hr2
  have HG2:=hdn hg2
  have HB2:=hdn (HSUB1.out _ w2 hg2 (fun k h=>by omega))
  clear hr2 hg2 q0
  by_cases e2:(fieldsGo (sNames x.structs.l) [] (pairsFrom 0 x.structs.l)).2=0
  ·have HE2:=hdn e2
   have HFI:=hdn (HRF.out e2)
   obtain ⟨ev,hT2,hO2⟩:=HFI.out.tab
   have HT2:=hdn hT2
   have HO2:=hdn hO2
   have HPB2:Hid (Bk w2 w.heap.size 26 #[.slice x.structs.p x.structs.l.length x.structs.cap,.slice x.globals.p x.globals.l.length x.globals.cap,.slice x.procs.p x.procs.l.length x.procs.cap]):=hdn (HG2.out.bk HPB1.out (by have:=HM.out;omega))
   have HR32:Hid (Roll byName w2 (M+2) []):=hdn (HG2.out.roll HR31.out (by omega))
   have HR42:Hid (Roll byName w2 (M+3) []):=hdn (HG2.out.roll HR41.out (by omega))
   have HSUB2:Hid (∀(S:Nat→Prop) wi,Gr w2 wi S→(∀k,S k→M≤k)→Below w.heap.size w wi):=hdn (fun S wi hg hS=>HB2.out.trans (hg.below HB2.out.size (fun k hk=>by have:=hS k hk;have:=HM.out;omega)))
   have HC3:=hdn (addGlobals_any x.globals.p x.globals.l x.globals.cap M _ (sNames x.structs.l) w2 hT2.lt HX.out.2.1.1 (fun wr hg=>HLg.out wr (HSUB2.out _ wr hg (fun k h=>by omega))) hT2 HFI.out.sroll HR32.out)
   unfold tptr at HC3
   have q1:w2.cell? ⟨w.heap.size,1,none⟩=some (.slice x.globals.p x.globals.l.length x.globals.cap):=HPB2.out.cell 1
   have HW1:Hid (M+4<w1.heap.size):=hdn HT1.out.lt
   rw[e2]
   clear e2 hT2 hO2
   go_wp2_with fail
   refine HC3.out.mono ?_;rintro en w3 ⟨rfl,hr3,hg3⟩
   have HRG:=hdn hr3
   have HG3:=hdn hg3
   have HB3:=hdn (HSUB2.out _ w3 hg3 (fun k h=>by omega))
   clear hr3 hg3 q1
   by_cases e3:(declsGo (sNames x.structs.l) [] x.globals.l).2=0
   ·have HE3:=hdn e3
    obtain ⟨hg16,hrg3,hvl,vv,hT3,hV3⟩:=HRG.out e3
    have HT3:=hdn hT3;have HV3:=hdn hV3;have HGS:=hdn hg16;have HVL:=hdn hvl;have HRG3:=hdn hrg3
    have HPB3:Hid (Bk w3 w.heap.size 26 #[.slice x.structs.p x.structs.l.length x.structs.cap,.slice x.globals.p x.globals.l.length x.globals.cap,.slice x.procs.p x.procs.l.length x.procs.cap]):=hdn (HG3.out.bk HPB2.out (by have:=HM.out;omega))
    have HR43:Hid (Roll byName w3 (M+3) []):=hdn (HG3.out.roll HR42.out (by omega))
    have HS3:Hid (Roll byName w3 M (sNames x.structs.l)):=hdn (HG3.out.roll HFI.out.sroll (by omega))
    have HF3:Hid (Roll byMember w3 (M+1) ((pairsFrom 0 x.structs.l).map memb)):=hdn (HG3.out.roll HFI.out.roll (by omega))
    have HO3:Hid (w3.ownsRow w1.heap.size 102 2 ev (endsOf (sNames x.structs.l) (pairsFrom 0 x.structs.l)).length (pcells (endsOf (sNames x.structs.l) (pairsFrom 0 x.structs.l)))):=hdn (own_gr HO2.out HG3.out (fun i hi _ h=>by have:=HW1.out;omega))
    have HSUB3:Hid (∀(S:Nat→Prop) wi,Gr w3 wi S→(∀k,S k→M≤k)→Below w.heap.size w wi):=hdn (fun S wi hg hS=>HB3.out.trans (hg.below HB3.out.size (fun k hk=>by have:=hS k hk;have:=HM.out;omega)))
    have HW2:Hid (M+4<w2.heap.size):=hdn HT2.out.lt
    have HC4:=hdn (addProcs_any x.procs.p x.procs.l x.procs.cap M _ _ (sNames x.structs.l) w3 hT3.lt HX.out.2.2.1 (fun wr hg=>HLp.out wr (HSUB3.out _ wr hg (fun k h=>by omega))) hT3 HS3.out HR43.out)
    unfold tptr at HC4
    have q2:w3.cell? ⟨w.heap.size,2,none⟩=some (.slice x.procs.p x.procs.l.length x.procs.cap):=HPB3.out.cell 2
    rw[e3]
    clear e3 hg16 hrg3 hvl hT3 hV3
    go_wp2_with fail
    refine HC4.out.mono ?_;rintro en w4 ⟨rfl,hr4,hg4⟩
    have HRP:=hdn hr4
    have HG4:=hdn hg4
    have HB4:=hdn (HSUB3.out _ w4 hg4 (fun k h=>by omega))
    clear hr4 hg4 q2
    have HBG:Hid (buildGo x=procsGo (sNames x.structs.l) [] x.procs.l):=hdn (by unfold buildGo;rw[if_pos HE1.out,if_pos HE2.out,if_pos HE3.out])
    by_cases e4:(procsGo (sNames x.structs.l) [] x.procs.l).2=0
    ·have HE4:=hdn e4
     have HP4:=hdn (HRP.out e4)
     rw[e4]
     clear e4
     go_wp2_with fail
     refine bodyPost_ret (results_tmp3 rfl _ _ _) rfl ⟨_, ?_,fun _=>⟨M,rfl, ?_,by have:=HM.out;omega⟩,fun h=>absurd (by rw[HBG.out];exact HE4.out) h,HB4.out⟩
     ·rw[HBG.out,procsGo_zero _ _ _ HE4.out];rfl
     ·exact ⟨HG4.out.roll HS3.out (by omega),HG4.out.roll HF3.out (by omega),HG4.out.roll HRG3.out (by omega),HP4.out,⟨ev,vv,_,_,HG4.out.bk HT3.out (by omega),own_gr HO3.out HG4.out (fun i hi _ h=>by have:=HW1.out;omega),own_gr HV3.out HG4.out (fun i hi _ h=>by have:=HW2.out;omega)⟩,HFI.out.small,HGS.out,HVL.out⟩
    ·have n4:((procsGo (sNames x.structs.l) [] x.procs.l).2 !=0)=true:=by rw[bne_iff_ne];exact e4
     have HE4:=hdn e4
     clear e4
     go_wp2_with fail
     exact bodyPost_ret (results_tmp3 rfl _ _ _) rfl ⟨.pointer none,by rw[HBG.out];rfl,fun h=>absurd (by rw[HBG.out] at h;exact h) HE4.out,fun _=>rfl,HB4.out⟩
   ·have HBG:Hid (buildGo x=declsGo (sNames x.structs.l) [] x.globals.l):=hdn (by unfold buildGo;rw[if_pos HE1.out,if_pos HE2.out,if_neg e3])
    have n3:((declsGo (sNames x.structs.l) [] x.globals.l).2 !=0)=true:=by rw[bne_iff_ne];exact e3
    have HE3:=hdn e3
    clear e3
    go_wp2_with fail
    exact bodyPost_ret (results_tmp3 rfl _ _ _) rfl ⟨.pointer none,by rw[HBG.out];rfl,fun h=>absurd (by rw[HBG.out] at h;exact h) HE3.out,fun _=>rfl,HB3.out⟩
  ·have HBG:Hid (buildGo x=fieldsGo (sNames x.structs.l) [] (pairsFrom 0 x.structs.l)):=hdn (by unfold buildGo;rw[if_pos HE1.out,if_neg e2])
   have n2:((fieldsGo (sNames x.structs.l) [] (pairsFrom 0 x.structs.l)).2 !=0)=true:=by rw[bne_iff_ne];exact e2
   have HE2:=hdn e2
   clear e2
   go_wp2_with fail
   exact bodyPost_ret (results_tmp3 rfl _ _ _) rfl ⟨.pointer none,by rw[HBG.out];rfl,fun h=>absurd (by rw[HBG.out] at h;exact h) HE2.out,fun _=>rfl,HB2.out⟩
 ·have HBG:Hid (buildGo x=structsGo [] x.structs.l):=hdn (by unfold buildGo;rw[if_neg e1])
  have n1:((structsGo [] x.structs.l).2 !=0)=true:=by rw[bne_iff_ne];exact e1
  have HE1:=hdn e1
  clear e1
  go_wp2_with fail
  exact bodyPost_ret (results_tmp3 rfl _ _ _) rfl ⟨.pointer none,by rw[HBG.out];rfl,fun h=>absurd (by rw[HBG.out] at h;exact h) HE1.out,fun _=>rfl,HB1.out⟩
end Sc
end Go.Proofs.YtcehbcnloiooaaaGreatDoor
namespace Go.Proofs.YtcehbcnloiooaaaGreatDoor
namespace Sc
open Go.RowKit Go.Sort Go.Maps
theorem pcells_len (l:List (Int×Int)):(pcells l).length=l.length*2:=by
 induction l with
 |nil=>rfl
 |cons a r ih=>simp[pcells] at ih ⊢;omega
theorem pcells_one (l:List (Int×Int)): ∀u∈pcells l,u.oneCell'=true:=by
 intro u hu
 simp[pcells] at hu
 obtain ⟨a,b,_,h |h⟩:=hu<;>subst h<;>rfl
theorem Gr.cellq {a b:World} {S:Nat→Prop} (h:Gr a b S) {p:Addr} {u:Value} (k:a.cell? p=some u) (hS: ¬S p.block:=by exact fun h=>h):b.cell? p=some u:=
 (World.cell?_of_block (h.block p.block (World.block_lt_of_cell? a _ k) hS)).trans k
def ClPost (l:List (Int×Int)) (w:World) (en:Ending) (w':World):Prop:=
 ∃v,en= .returned v∧w'.ownsRow w.heap.size 102 2 v l.length (pcells l)∧Below w.heap.size w w'
theorem clone_any (l:List (Int×Int)) (e:Value) (base:Nat) (w:World) (hl:l.length≤1048576) (hO:w.ownsRow base 102 2 e l.length (pcells l)):Calls Tryz.prog 66 #[e] w (ClPost l w):=by
 obtain ⟨i0,hi0,hz0,hz1,hz2⟩:=info_parts zinfo42
 have HI:=hdn hi0;have HZ0:=hdn hz0;have HZ1:=hdn hz1;have HZ2:=hdn hz2
 clear hi0 hz0 hz1 hz2
 rcases hO.2 with ⟨rfl,h0⟩|⟨g,cap,cur,rfl,hg⟩
 ·obtain rfl:l= []:=List.length_eq_zero_iff.1 h0
  have hn:=fun (w:World)=>Lib.run_eql_slice_nil (P:=Tryz.prog) w 44 102 none 0 0 0 0 Tryz.underlying44
  clear hO hl h0
  go_enter Tryz.func66,Tryz.ntmps66
  go_wp2
  go_ret
  exact ⟨_,rfl,World.ownsRow_nil _ _ _ _,Below.refl _ _⟩
 ·clear hg
  have HN:Hid (∀j u,(pcells l)[j]? =some u→w.cell? ((⟨g,0,none⟩:Addr).add j)=some u):=hdn (hO.cells rfl)
  have hn:=fun (w:World)=>Lib.run_eql_slice_nil (P:=Tryz.prog) w 44 102 (some ⟨g,0,none⟩) l.length cap 0 0 Tryz.underlying44
  have HE:Hid ((w.alloc (.cells #[] 102)).ownsRow w.heap.size 102 2 (.slice (some ⟨w.heap.size,0,none⟩) 0 0) 0 []):=hdn (World.ownsRow_made w #[] 0 (Nat.le_refl _) (Nat.zero_le _) rfl)
  clear hO
  go_enter Tryz.func66,Tryz.ntmps66
  go_wp2_with (at_builtin;go_must (refine wpList_append_own _ rfl (.tmp 5) (.tmp 6) 44 rfl w.heap.size 102 i0 (.agg #[.int .i64 0,.int .i64 0]) 2 16 Tryz.underlying44 HI.out HZ0.out HZ1.out HZ2.out rfl (by decide) _ 0 [] rfl HE.out ⟨g,0,none⟩ l.length cap (pcells l) rfl (pcells_len l) (fun j u hu=>((Gr.refl w (fun _=>False)).alloc _).cellq (HN.out j u hu)) (pcells_one l) (by unfold maxLen;omega) (by omega) (by simp) ?_);intro v' w1 hown1 hgrow1 _;have HO1:=hdn hown1;have HG1:=hdn hgrow1;clear hown1 hgrow1)
  go_ret
  refine ⟨_,rfl,by simpa using HO1.out, ?_⟩
  exact ((Below.refl _ _).alloc (Nat.le_refl _) _).grown HG1.out (by simp) (fun k hk=>by injection hk with hk;exact Nat.le_of_eq hk)
theorem fields_any (x:Pg) (M:Nat) (w:World) (h:TabIs x w M):Calls Tryz.prog 39 #[tptr M] w (ClPost (endsP x) w):=by
 obtain ⟨e,v,b1,b2,h1,h2,_⟩:=h.tab
 have hs:(endsP x).length≤1048576:=by have:=h.fsmall;unfold endsP;rw[endsOf_len];omega
 have HC:=hdn (clone_any (endsP x) e b1 w hs h2)
 have c2:w.cell? ⟨M+4,2,none⟩=some e:=h1.cell 2
 clear h h1 h2 hs
 unfold tptr
 go_enter Tryz.func39,Tryz.ntmps39
 go_wp2_with (go_at_call 66;refine HC.out.mono ?_;rintro en w1 ⟨v1,rfl,ho1,hb1⟩;have HO1:=hdn ho1;have HB1:=hdn hb1;clear ho1 hb1)
 go_ret
 exact ⟨_,rfl,HO1.out,HB1.out⟩
theorem pcells_at: ∀(l:List (Int×Int)) (k:Nat) (x:Int×Int),l[k]? =some x→(pcells l)[k*2]? =some (.int .i64 x.1)∧(pcells l)[k*2+1]? =some (.int .i64 x.2)
 |a::r,0,x,h=>by simp at h;subst h;exact ⟨rfl,rfl⟩
 |a::r,k+1,x,h=>by
  have:=pcells_at r k x (by simpa using h)
  rw[show (k+1)*2=k*2+2 by omega,show k*2+2+1=k*2+1+2 by omega]
  exact this
theorem own_cells {w:World} {B:Nat} {e:TypeId} {v:Value} {l:List (Int×Int)} (h:w.ownsRow B e 2 v l.length (pcells l)) {k:Nat} {x:Int×Int} (hk:l[k]? =some x):
  ∃g c,v= .slice (some ⟨g,0,none⟩) l.length c∧w.cell? ⟨g,k*2,none⟩=some (.int .i64 x.1)∧w.cell? ⟨g,k*2+1,none⟩=some (.int .i64 x.2):=by
 have h0:=h
 rcases h.2 with ⟨_,h1⟩|⟨g,c,_,rfl,_⟩
 ·rw[List.length_eq_zero_iff.1 h1] at hk;simp at hk
 ·have hc:=h0.cells (g:=g) rfl
  obtain ⟨p1,p2⟩:=pcells_at l k x hk
  refine ⟨g,c,rfl, ?_, ?_⟩
  ·have h3:=hc _ _ p1
   rw[Addr.add_mid] at h3
   rwa[Nat.zero_add] at h3
  ·have h3:=hc _ _ p2
   rw[Addr.add_mid] at h3
   rwa[Nat.zero_add] at h3
def placeOf {κ:Type} [DecidableEq κ] (l:List κ) (x:κ):Nat:=l.idxOf x
theorem placeOf_lt {κ:Type} [DecidableEq κ] {l:List κ} {x:κ} (h:isIn l x=true):placeOf l x<l.length:=List.idxOf_lt_length_of_mem (isIn_iff.1 h)
theorem numOf_in {κ:Type} [DecidableEq κ] {l:List κ} {x:κ} (h:isIn l x=true):numOf l x=(placeOf l x:Int):=by unfold numOf placeOf;rw[h];rfl
def globOf (x:Pg) (n:ByteArray):Int×Int:=if isIn (dNames x.globals.l) n=true then ((varsP x)[placeOf (dNames x.globals.l) n]?).getD (0,0) else (0,0)
theorem global_any (x:Pg) (n:ByteArray) (M:Nat) (w:World) (h:TabIs x w M) (hn:n.size≤maxLen):Calls Tryz.prog 65 #[tptr M,.string n] w fun en w'=>en= .returned (.tuple #[.int .i64 (globOf x n).1,.int .i64 (globOf x n).2,.bool (isIn (dNames x.globals.l) n)])∧Below w.heap.size w w':=by
 obtain ⟨e,v,b1,b2,h1,_,h2⟩:=h.tab
 have HF:=hdn (findN_any n (M+2) _ w h.rg hn)
 have c3:w.cell? ⟨M+4,3,none⟩=some (.map (some (M+2))):=h1.cell 3
 have c4:w.cell? ⟨M+4,4,none⟩=some v:=h1.cell 4
 cases hin:isIn (dNames x.globals.l) n
 ·have HG:Hid (globOf x n=(0,0)):=hdn (by unfold globOf;rw[hin];rfl)
  rw[hin] at HF
  clear h h1 h2 hin
  unfold tptr
  go_enter Tryz.func65,Tryz.ntmps65
  go_wp2_with (go_at_call 45;refine HF.out.mono ?_;rintro en w1 ⟨rfl,rfl⟩)
  exact bodyPost_ret (results_tmp3 rfl _ _ _) rfl ⟨by rw[HG.out];rfl,Below.refl _ _⟩
 ·have hlt:=placeOf_lt hin
  have hdl:(dNames x.globals.l).length=x.globals.l.length:=by simp[dNames]
  have hnum:=numOf_in hin
  have hgl:globOf x n=((varsP x)[placeOf (dNames x.globals.l) n]?).getD (0,0):=by unfold globOf;rw[hin];rfl
  have hvl:=h.vlen
  have hgs:=h.gsmall
  generalize placeOf (dNames x.globals.l) n=k at hlt hnum hgl
  have hk:(varsP x)[k]? =some ((varsP x)[k]'(by omega)):=List.getElem?_eq_getElem (by omega)
  generalize (varsP x)[k]'(by omega)=y at hk
  obtain ⟨g,c,rfl,d0,d1⟩:=own_cells h2 hk
  have HG:Hid (globOf x n=y):=hdn (by rw[hgl,hk];rfl)
  rw[hin,hnum] at HF
  have n0:(0:Int)≤(k:Int):=Int.natCast_nonneg _
  have n1:(k:Int)<((varsP x).length:Int):=by omega
  generalize (varsP x).length=vl at c4 n1
  clear h h1 h2 hin hnum hgl hk hvl hgs hdl hlt
  unfold tptr
  go_enter Tryz.func65,Tryz.ntmps65
  go_wp2_with (go_at_call 45;refine HF.out.mono ?_;rintro en w1 ⟨rfl,rfl⟩)
  go_quiet (fail)
  go_wp2_with fail
  exact bodyPost_ret (results_tmp3 rfl _ _ _) rfl ⟨by rw[HG.out];rfl,below_drewN_ (Below.refl _ _) _⟩
end Sc
end Go.Proofs.YtcehbcnloiooaaaGreatDoor
namespace Go.Proofs.YtcehbcnloiooaaaGreatDoor
namespace Sc
open Go.RowKit Go.Sort Go.Maps
abbrev pval (x:Pg):Array Value:= #[.slice x.structs.p x.structs.l.length x.structs.cap,.slice x.globals.p x.globals.l.length x.globals.cap,.slice x.procs.p x.procs.l.length x.procs.cap]
end Sc
end Go.Proofs.YtcehbcnloiooaaaGreatDoor
namespace Go.Proofs.YtcehbcnloiooaaaGreatDoor
namespace Sc
open Go.RowKit Go.Sort Go.Maps
def Lay2 {α:Type} (size:Nat) (cells:α→List Value) (R:World→α→Prop) (w:World) (p:Option Addr) (l:List α):Prop:=
 l.length≤4194304∧(l= []∨∃b o,p=some ⟨b,o,none⟩∧∀k x,l[k]? =some x→w.rangeAt b (o+k*size) (cells x)∧R w x)
theorem Lay.two {α:Type} {size:Nat} {cells:α→List Value} {R:World→α→Prop} {w:World} {p:Option Addr} {l:List α} (h:Lay size cells R w p l):Lay2 size cells R w p l:=⟨by have:=h.1;omega,h.2⟩
end Sc
end Go.Proofs.YtcehbcnloiooaaaGreatDoor
namespace Go.Proofs.YtcehbcnloiooaaaGreatDoor
namespace Sc
open Go.RowKit Go.Sort Go.Maps
theorem sNames_len (l:List Sr):(sNames l).length=l.length:=by simp[sNames]
def ahead (l:List Sr) (m:List Dc) (i k:Nat):List (Nat×Dc):=pairsFrom 0 (l.take i)++(m.take k).map (fun f=>(i,f))
end Sc
end Go.Proofs.YtcehbcnloiooaaaGreatDoor
namespace Go.Proofs.YtcehbcnloiooaaaGreatDoor
namespace Sc
open Go.RowKit Go.Sort Go.Maps
theorem Bk.range {w:World} {g:Nat} {t:TypeId} {cs:Array Value} (h:Bk w g t cs):w.rangeAt g 0 cs.toList:=fun j v hv=>by
 rw[Nat.zero_add,h.cell];simpa using hv
theorem size26:(Tryz.prog.info? 26).map (·.size)=some 3:=by kernel_rfl
end Sc
end Go.Proofs.YtcehbcnloiooaaaGreatDoor
namespace Go.Proofs.YtcehbcnloiooaaaGreatDoor
namespace Sc
open Go.RowKit Go.Sort Go.Maps
structure RbInv (x:Pg) (w wr:World):Prop where
 below:Below w.heap.size w wr
 box:Bk wr w.heap.size 26 #[.slice x.structs.p x.structs.l.length x.structs.cap,.slice x.globals.p x.globals.l.length x.globals.cap,.slice x.procs.p x.procs.l.length x.procs.cap]
 res:Bk wr (w.heap.size+1) 46 #[.slice none 0 0,.slice none 0 0,.slice none 0 0,.slice none 0 0]
theorem RbInv.keep {x:Pg} {w wr w':World} (h:RbInv x w wr) (hb:Below wr.heap.size wr w'):RbInv x w w':=
 ⟨h.below.trans (hb.mono h.below.size),h.box.below hb h.box.lt,h.res.below hb h.res.lt⟩
theorem RbInv.gr {x:Pg} {w wr w':World} {S:Nat→Prop} (h:RbInv x w wr) (hg:Gr wr w' S) (hS: ∀k,S k→w.heap.size+2≤k):RbInv x w w':=
 ⟨h.below.trans (hg.below (N:=w.heap.size) h.below.size (fun k hk=>by have:=hS k hk;omega)),hg.bk h.box (fun hk=>by have:=hS _ hk;omega),hg.bk h.res (fun hk=>by have:=hS _ hk;omega)⟩
def RbPost (x:Pg) (w:World) (en:Ending) (w':World):Prop:=
 ∃cs:Array Value,en= .returned (.tuple #[.agg cs,.int .i64 (buildGo x).1,.int .i64 (buildGo x).2])∧Below w.heap.size w w'∧
  (cs.size=4∧cs.all (·.oneCell')=true)∧
  ((buildGo x).2=0→∃v base,cs= #[.slice x.structs.p x.structs.l.length x.structs.cap,.slice x.globals.p x.globals.l.length x.globals.cap,.slice x.procs.p x.procs.l.length x.procs.cap,v]∧w'.ownsRow base 102 2 v (endsP x).length (pcells (endsP x))∧(allPairs x).length≤8)
theorem RbPost.zero {x:Pg} {w w':World} {a b:Int} (hg:buildGo x=(a,b)) (hb:b≠0) (h:Below w.heap.size w w'):RbPost x w (.returned (.tuple #[.agg #[.slice none 0 0,.slice none 0 0,.slice none 0 0,.slice none 0 0],.int .i64 a,.int .i64 b])) w':=
 ⟨_,by rw[hg],h,⟨rfl,by simp[Value.oneCell']⟩,fun e=>absurd (by rw[hg] at e;exact e) hb⟩
theorem own_one {w:World} {B:Nat} {e:TypeId} {k:Nat} {v:Value} {n:Nat} {xs:List Value} (h:w.ownsRow B e k v n xs):v.oneCell'=true:=by
 rcases h.2 with ⟨rfl,_⟩|⟨g,cap,cur,rfl,_⟩<;>rfl
end Sc
end Go.Proofs.YtcehbcnloiooaaaGreatDoor
namespace Go.Proofs.YtcehbcnloiooaaaGreatDoor
namespace Sc
open Go.RowKit Go.Sort Go.Maps
abbrev tval (x:Pg) (v:Value):Array Value:= #[.slice x.structs.p x.structs.l.length x.structs.cap,.slice x.globals.p x.globals.l.length x.globals.cap,.slice x.procs.p x.procs.l.length x.procs.cap,v]
end Sc
end Go.Proofs.YtcehbcnloiooaaaGreatDoor
namespace Go.Proofs.YtcehbcnloiooaaaGreatDoor
namespace Sc
open Go.RowKit Go.Sort Go.Maps
end Sc
end Go.Proofs.YtcehbcnloiooaaaGreatDoor
namespace Go.Proofs.YtcehbcnloiooaaaGreatDoor
namespace Sc
open Go.RowKit
def kindT (x:Pg) (t:ByteArray):Int:=if tyOk (sNames x.structs.l) t=true then kindOf (sNames x.structs.l) t else-1
def findD (x:Pg):List Dc→ByteArray→Option Int
 | [],_=>none
 |d::r,n=>if d.name=n then some (kindT x d.type) else findD x r n
def pairM (x:Pg):List (Int×ByteArray):=(allPairs x).map memb
def endAt (x:Pg) (f:Int):Int:=(((endsP x)[f.toNat]?).getD (0,0)).2
def hopsGo (x:Pg):Int→List Hp→Int×Int×Int
 |k,[]=>(k,0,0)
 |k,h::r=>if k= -1 then (0,h.pos,9) else if isIn (pairM x) (k,h.name)=true then hopsGo x (endAt x (numOf (pairM x) (k,h.name))) r else (0,h.pos,8)
def varOf (x:Pg) (q:Pc) (n:ByteArray):Option Int:=
 match findD x (frameOf q) n with
 |some k=>some k
 |none=>if isIn (dNames x.globals.l) n=true then some (globOf x n).1 else none
def pathGo (x:Pg) (q:Pc) (w:Pth):Int×Int×Int:=
 match varOf x q w.name with
 |some k=>hopsGo x k w.hops.l
 |none=>(0,w.pos,8)
theorem numOf_nn {κ:Type} [DecidableEq κ] (l:List κ) (a:κ):0≤numOf l a:=by
 unfold numOf;split
 ·exact Int.natCast_nonneg _
 ·exact Int.le_refl _
theorem kindOf_ge (sn:List ByteArray) (t:ByteArray): -1≤kindOf sn t:=by
 unfold kindOf;split
 ·exact Int.le_refl _
 ·have:=numOf_nn sn t;omega
theorem kindT_ge (x:Pg) (t:ByteArray): -1≤kindT x t:=by
 unfold kindT;split
 ·exact kindOf_ge _ _
 ·exact Int.le_refl _
theorem findD_ge (x:Pg): ∀(l:List Dc) (n:ByteArray) (k:Int),findD x l n=some k→ -1≤k
 | [],_,_,h=>by cases h
 |d::r,n,k,h=>by
  unfold findD at h
  split at h
  ·injection h with h;subst h;exact kindT_ge x _
  ·exact findD_ge x r n k h
theorem varsGo_ge (sn:List ByteArray): ∀(l:List Dc) (a b:Int),∀y∈varsGo sn a b l,-1≤y.1
 | [],_,_,_,h=>by cases h
 |d::r,a,b,y,h=>by
  unfold varsGo at h
  rcases List.mem_cons.1 h with rfl |h
  ·exact kindOf_ge _ _
  ·split at h
   ·exact varsGo_ge sn r _ _ y h
   ·exact varsGo_ge sn r _ _ y h
theorem globOf_ge (x:Pg) (n:ByteArray): -1≤(globOf x n).1:=by
 unfold globOf
 split
 ·cases h:(varsP x)[placeOf (dNames x.globals.l) n]? with
  |none=>show (-1:Int)≤0;omega
  |some y=>exact varsGo_ge _ _ _ _ y (List.mem_of_getElem? h)
 ·show (-1:Int)≤0;omega
theorem endAt_nn (x:Pg) (f:Int):0≤endAt x f:=by
 unfold endAt
 cases h:(endsP x)[f.toNat]? with
 |none=>exact Int.le_refl _
 |some y=>
  have h:=List.mem_of_getElem? h
  unfold endsP endsOf at h
  obtain ⟨z,_,rfl⟩:=List.mem_map.1 h
  exact numOf_nn _ _
theorem varOf_ge (x:Pg) (q:Pc) (n:ByteArray) (k:Int) (h:varOf x q n=some k): -1≤k:=by
 unfold varOf at h
 split at h
 ·rename_i j hj
  injection h with h;subst h
  exact findD_ge x _ _ _ hj
 ·split at h
  ·injection h with h;subst h;exact globOf_ge x n
  ·cases h
def thenE (a b:Int×Int):Int×Int:=if a.2=0 then b else a
def mustE (r:Bool) (at_:Int):Int×Int:=if r=true then (0,0) else (at_,9)
def termE (x:Pg) (q:Pc) (t:Tm):Int×Int:=
 if t.name.toList.isEmpty=true then (0,0)
 else if (pathGo x q ⟨t.name,t.pos,⟨none,0,[]⟩⟩).2.2=0 then mustE (decide ((pathGo x q ⟨t.name,t.pos,⟨none,0,[]⟩⟩).1= -1)) t.pos
 else (pathGo x q ⟨t.name,t.pos,⟨none,0,[]⟩⟩).2
def fitE (x:Pg) (q:Pc) (v:Vl) (k:Int):Int×Int:=
 if v.kind=0 then mustE (!decide (k= -1)) v.pos
 else if v.kind=1 then (if (pathGo x q v.path).2.2=0 then mustE (decide ((pathGo x q v.path).1=k)) v.pos else (pathGo x q v.path).2)
 else if v.kind=2 then (if isIn (sNames x.structs.l) v.type=true then mustE (decide (numOf (sNames x.structs.l) v.type=k)) v.pos else (v.pos,8))
 else if k= -1 then (if v.kind=5∨v.kind=6 then thenE (termE x q v.left) (termE x q v.right) else (0,0))
 else (v.pos,9)
def sideGo (x:Pg) (q:Pc) (v:Vl):Int×Int×Int:=
 if v.kind=0 then (-2,0,0) else if v.kind=1 then pathGo x q v.path else (-1,0,0)
def alike (a b:Int):Bool:=if a= -2∨b= -2 then !decide (a= -1) && !decide (b= -1) else decide (a=b)
def condE (x:Pg) (q:Pc) (c:Cd):Int×Int:=
 if c.kind=0 then (0,0)
 else if (sideGo x q c.left).2.2=0 then
  if (sideGo x q c.right).2.2=0 then
   mustE (if c.kind=3∨c.kind=4 then decide ((sideGo x q c.left).1= -1) && decide ((sideGo x q c.right).1= -1) else alike (sideGo x q c.left).1 (sideGo x q c.right).1) c.pos
  else (sideGo x q c.right).2
 else (sideGo x q c.left).2
def argsE (x:Pg) (q:Pc):List Vl→List Dc→Int×Int
 |v::vs,d::ds=>thenE (fitE x q v (kindT x d.type)) (argsE x q vs ds)
 |_,_=>(0,0)
def mainN:ByteArray:=⟨#[109,97,105,110]⟩
def paramsOf (x:Pg) (n:ByteArray):List Dc:=((x.procs.l[(numOf (pNames x.procs.l) n).toNat]?).map (·.params.l)).getD []
def callE (x:Pg) (q:Pc) (h:Hd):Int×Int:=
 if isIn (pNames x.procs.l) h.name=true then
  if h.name=mainN∨h.args.l.length≠(paramsOf x h.name).length then (h.pos,9) else argsE x q h.args.l (paramsOf x h.name)
 else (h.pos,8)
def stmtE (x:Pg) (q:Pc) (h:Hd):Int×Int:=
 if h.kind=1 then (if (pathGo x q h.place).2.2=0 then fitE x q h.value (pathGo x q h.place).1 else (pathGo x q h.place).2)
 else if h.kind=2 then (if (pathGo x q h.place).2.2=0 then mustE (!decide ((pathGo x q h.place).1= -1)) h.place.pos else (pathGo x q h.place).2)
 else if h.kind=3 then callE x q h
 else if h.kind=4∨h.kind=5 then condE x q h.cond
 else (0,0)
def listE (x:Pg) (q:Pc):SL→Int×Int
 |.nil=>(0,0)
 |.cons h _ _ t _ _ e r=>thenE (stmtE x q h) (thenE (listE x q t) (thenE (listE x q e) (listE x q r)))
def procsE (x:Pg):List Pc→Int×Int
 | []=>(0,0)
 |q::r=>thenE (listE x q q.body) (procsE x r)
def checkE (x:Pg):Int×Int:=
 if (buildGo x).2=0 then
  if isIn (pNames x.procs.l) mainN=true then
   if 0<(paramsOf x mainN).length then (((x.procs.l[(numOf (pNames x.procs.l) mainN).toNat]?).map (·.pos)).getD 0,9)
   else procsE x x.procs.l
  else (0,8)
 else buildGo x
end Sc
end Go.Proofs.YtcehbcnloiooaaaGreatDoor
namespace Go.Proofs.YtcehbcnloiooaaaGreatDoor
namespace Sc
open Go.RowKit Go.Sort Go.Maps
theorem TabIs.c0 {x:Pg} {w:World} {M:Nat} (h:TabIs x w M):w.cell? ⟨M+4,0,none⟩=some (.map (some M)):=by
 obtain ⟨e,v,b1,b2,h1,_,_⟩:=h.tab;exact h1.cell 0
theorem TabIs.c1 {x:Pg} {w:World} {M:Nat} (h:TabIs x w M):w.cell? ⟨M+4,1,none⟩=some (.map (some (M+1))):=by
 obtain ⟨e,v,b1,b2,h1,_,_⟩:=h.tab;exact h1.cell 1
theorem TabIs.c5 {x:Pg} {w:World} {M:Nat} (h:TabIs x w M):w.cell? ⟨M+4,5,none⟩=some (.map (some (M+3))):=by
 obtain ⟨e,v,b1,b2,h1,_,_⟩:=h.tab;exact h1.cell 5
theorem tab_type (x:Pg) (n:ByteArray) (M:Nat) (w:World) (h:TabIs x w M) (hn:n.size≤maxLen):
  Calls Tryz.prog 81 #[tptr M,.string n] w fun en w'=>en= .returned (.tuple #[.int .i64 (kindOf (sNames x.structs.l) n),.bool (tyOk (sNames x.structs.l) n)])∧w=w':=
 type_any n (M+4) M _ w h.c0 h.rs hn
theorem tab_struct (x:Pg) (n:ByteArray) (M:Nat) (w:World) (h:TabIs x w M) (hn:n.size≤maxLen):
  Calls Tryz.prog 80 #[tptr M,.string n] w fun en w'=>en= .returned (.tuple #[.int .i64 (numOf (sNames x.structs.l) n),.bool (isIn (sNames x.structs.l) n)])∧w=w':=
 struct_any n (M+4) M _ w h.c0 h.rs hn
theorem tab_proc (x:Pg) (n:ByteArray) (M:Nat) (w:World) (h:TabIs x w M) (hn:n.size≤maxLen):
  Calls Tryz.prog 19 #[tptr M,.string n] w fun en w'=>en= .returned (.tuple #[.int .i64 (numOf (pNames x.procs.l) n),.bool (isIn (pNames x.procs.l) n)])∧w=w':=
 proc_any n (M+4) (M+3) _ w h.c5 h.rp hn
theorem must_any (r:Bool) (a:Int) (w:World):
  Calls Tryz.prog 226 #[.bool r,.int .i64 a] w fun en w'=>en= .returned (.tuple #[.int .i64 (mustE r a).1,.int .i64 (mustE r a).2])∧w=w':=by
 cases r
 ·go_enter Tryz.func226,Tryz.ntmps226
  go_wp2
  go_ret2
  exact ⟨rfl,rfl⟩
 ·go_enter Tryz.func226,Tryz.ntmps226
  go_wp2
  go_ret2
  exact ⟨rfl,rfl⟩
theorem alike_any (a b:Int) (w:World):
  Calls Tryz.prog 227 #[.int .i64 a,.int .i64 b] w fun en w'=>en= .returned (.bool (alike a b))∧w=w':=by
 have HA:Hid (alike a b=(if ((a== -2)||(b== -2))=true then (!(a== -1) && !(b== -1)) else (a==b))):=hdn (by unfold alike;simp only[Bool.or_eq_true,beq_iff_eq];rfl)
 cases h1:(a== -2)<;>cases h2:(b== -2)<;>cases h3:(a== -1)<;>cases h4:(b== -1)<;>cases h5:(a==b)<;>rw[h1,h2,h3,h4,h5] at HA
 all_goals have h6:(a != -1)= !(a== -1):=rfl
 all_goals have h7:(b != -1)= !(b== -1):=rfl
 all_goals rw[h3] at h6
 all_goals rw[h4] at h7
 all_goals
  go_enter Tryz.func227,Tryz.ntmps227
  go_wp2
  go_ret
  exact ⟨by rw[HA.out];rfl,rfl⟩
theorem typeOf_any (x:Pg) (d:Dc) (M:Nat) (w:World) (hT:TabIs x w M) (hd:d.type.size≤maxLen):
  Calls Tryz.prog 64 #[tptr M,.agg #[.string d.type,.string d.name,.int .i64 d.pos]] w fun en w'=>en= .returned (.int .i64 (kindT x d.type))∧Below w.heap.size w w':=by
 have HA:Hid (Below w.heap.size w (w.alloc (.cells #[.string d.type,.string d.name,.int .i64 d.pos] 65))):=hdn ((Below.refl _ _).alloc (Nat.le_refl _) _)
 have HK:Hid (Bk (w.alloc (.cells #[.string d.type,.string d.name,.int .i64 d.pos] 65)) w.heap.size 65 #[.string d.type,.string d.name,.int .i64 d.pos]):=hdn (heap_alloc_new _ _)
 have HC:=hdn (tab_type x d.type M (w.alloc (.cells #[.string d.type,.string d.name,.int .i64 d.pos] 65)) (hT.keep HA.out) hd)
 cases ht:tyOk (sNames x.structs.l) d.type
 ·have HE:Hid (kindT x d.type= -1):=hdn (by unfold kindT;rw[ht];rfl)
  rw[ht] at HC
  clear hT
  go_enter Tryz.func64,Tryz.ntmps64
  go_wp2_with (first |(go_at_call 81;refine HC.out.mono ?_;rintro en w1 ⟨rfl,rfl⟩))
  go_ret
  exact ⟨by rw[HE.out];rfl,HA.out⟩
 ·have HE:Hid (kindT x d.type=kindOf (sNames x.structs.l) d.type):=hdn (by unfold kindT;rw[ht];rfl)
  rw[ht] at HC
  clear hT
  go_enter Tryz.func64,Tryz.ntmps64
  go_wp2_with (first |(go_at_call 81;refine HC.out.mono ?_;rintro en w1 ⟨rfl,rfl⟩))
  go_ret
  exact ⟨by rw[HE.out];rfl,HA.out⟩
end Sc
end Go.Proofs.YtcehbcnloiooaaaGreatDoor
namespace Go.Proofs.YtcehbcnloiooaaaGreatDoor
namespace Sc
open Go.RowKit Go.Sort Go.Maps
theorem findD_app (x:Pg) (n:ByteArray): ∀(a b:List Dc),findD x a n=none→findD x (a++b) n=findD x b n
 | [],_,_=>rfl
 |d::r,b,h=>by
  unfold findD at h
  split at h
  ·cases h
  ·rename_i hn
   rw[List.cons_append,findD,if_neg hn]
   exact findD_app x n r b h
theorem findD_snoc (x:Pg) (n:ByteArray) (a:List Dc) (d:Dc) (h:findD x a n=none) (hd:d.name≠n):findD x (a++ [d]) n=none:=by
 rw[findD_app x n a [d] h,findD,if_neg hd,findD]
theorem findD_hit (x:Pg) (n:ByteArray) (a:List Dc) (d:Dc) (r:List Dc) (h:findD x a n=none) (hd:d.name=n):findD x (a++d::r) n=some (kindT x d.type):=by
 rw[findD_app x n a _ h,findD,if_pos hd]
structure VrInv (x:Pg) (q:Pc) (n:ByteArray) (w wr:World) (hd rest:List Dc):Prop where
 all:frameOf q=hd++rest
 none_:findD x hd n=none
 below:Below w.heap.size w wr
 bk:Bk wr (w.heap.size+1) 23 #[.slice q.params.p q.params.l.length q.params.cap,.slice q.locals_.p q.locals_.l.length q.locals_.cap]
theorem VrInv.fresh {x:Pg} {q:Pc} {n:ByteArray} {w wr w':World} {hd rest:List Dc} (h:VrInv x q n w wr hd rest) (hg:Gr wr w' (fun _=>False)):VrInv x q n w w' hd rest where
 all:=h.all
 none_:=h.none_
 below:=h.below.trans ((hg.below (N:=w.heap.size) h.below.size (fun _ h=>h.elim)))
 bk:=hg.bk h.bk (fun h=>h)
theorem VrInv.step {x:Pg} {q:Pc} {n:ByteArray} {w wr:World} {hd rest:List Dc} {d:Dc} (h:VrInv x q n w wr hd (d::rest)) (hd':d.name≠n):VrInv x q n w wr (hd++ [d]) rest where
 all:=by rw[h.all];simp
 none_:=findD_snoc x n hd d h.none_ hd'
 below:=h.below
 bk:=h.bk
def VrPost (x:Pg) (q:Pc) (n:ByteArray) (w:World) (en:Ending) (w':World):Prop:=
 en= .returned (.tuple #[.int .i64 ((varOf x q n).getD 0),.bool (varOf x q n).isSome])∧Below w.heap.size w w'
abbrev pcA (q:Pc):Array Value:= #[.string q.name,.int .i64 q.pos,.int .i64 q.fin,.slice q.params.p q.params.l.length q.params.cap,.slice q.locals_.p q.locals_.l.length q.locals_.cap,.slice q.bp q.body.len q.bc]
theorem globOf_none {x:Pg} {n:ByteArray} (h:isIn (dNames x.globals.l) n=false):(globOf x n).1=0:=by unfold globOf;rw[h];rfl
theorem variable_any (x:Pg) (q:Pc) (n:ByteArray) (M:Nat) (w:World) (hT:TabIs x w M) (hq:pcLies w q) (hn:n.size≤maxLen):
  Calls Tryz.prog 38 #[tptr M,.agg (pcA q),.string n] w (VrPost x q n w):=by
 have HI0:Hid (VrInv x q n w ((w.alloc (.cells (pcA q) 37)).alloc (.cells #[.slice q.params.p q.params.l.length q.params.cap,.slice q.locals_.p q.locals_.l.length q.locals_.cap] 23)) [] (((lists2 q).drop 0).flatMap (·.l))):=
  hdn ⟨by rw[List.nil_append,frame_lists];rfl,rfl,((Below.refl _ _).alloc (Nat.le_refl _) _).alloc (by simp) _,heap_alloc2_new w _ _⟩
 have HT:=hdn hT
 have HQ:=hdn hq
 clear hT hq
 go_enter Tryz.func38,Tryz.ntmps38
 go_wp2_with fail
 generalize (w.alloc (.cells (pcA q) 37)).alloc (.cells #[.slice q.params.p q.params.l.length q.params.cap,.slice q.locals_.p q.locals_.l.length q.locals_.cap] 23)=wA at HI0 ⊢
 go_loopw [21] (fun i wr=> ∃(k:Nat) (hd:List Dc),i= .int .i64 k∧k≤2∧Hid (VrInv x q n w wr hd (((lists2 q).drop k).flatMap (·.l)))) (fun i _=>2-(intOf i).toNat)
 case atStart=>exact ⟨0,[],rfl,Nat.zero_le _,HI0⟩
 case round=>
  clear HI0
  obtain ⟨k,hd,rfl,hk,HV⟩:=hrel
  by_cases hkl:k<2
  ·obtain ⟨s,hcell,hlay,hrest⟩: ∃s:Sl Dc,wr.cell? ⟨w.heap.size+1,k,none⟩=some (.slice s.p s.l.length s.cap)∧declsLie w s∧((lists2 q).drop k).flatMap (·.l)=s.l++((lists2 q).drop (k+1)).flatMap (·.l):=by
    have hk2:k=0∨k=1:=by omega
    rcases hk2 with rfl |rfl
    ·exact ⟨q.params,HV.out.bk.cell 0,HQ.out.1,rfl⟩
    ·exact ⟨q.locals_,HV.out.bk.cell 1,HQ.out.2.1,rfl⟩
   have HV1:Hid (VrInv x q n w wr hd (s.l++((lists2 q).drop (k+1)).flatMap (·.l))):=hdn (by have:=HV.out;rwa[hrest] at this)
   have HLY:Hid (∀wi,Below w.heap.size w wi→Lay 3 Dc.cells dcR wi s.p s.l):=hdn (fun wi hb=>dcsLay hlay hb)
   have hml:s.l.length≤1048576:=hlay.1
   generalize s.l=m at hcell HV1 HLY hml
   generalize s.p=mp at hcell HLY
   generalize s.cap=mc at hcell
   obtain ⟨tl,htl⟩: ∃tl,tl=((lists2 q).drop (k+1)).flatMap (·.l):=⟨_,rfl⟩
   rw[←htl] at HV1
   have HTL:=hdn htl
   have hk0:(0:Int)≤(k:Int):=Int.natCast_nonneg _
   have hk1:(k:Int)<2:=by omega
   clear hlay hrest HV htl
   go_wp2_with fail
   obtain ⟨wo,rfl⟩: ∃wo:World,wo=wr:=⟨_,rfl⟩
   go_loopw [27] (fun i wr=> ∃(j:Nat) (hd:List Dc),i= .int .i64 j∧j≤m.length∧Hid (VrInv x q n w wr hd (m.drop j++tl))) (fun i _=>m.length-(intOf i).toNat)
   case atStart=>exact ⟨0,hd,rfl,Nat.zero_le _,HV1⟩
   case round=>
    clear HV1 hcell
    obtain ⟨j,hd,rfl,hj,HV⟩:=hrel
    by_cases hjl:j<m.length
    ·obtain ⟨b,o,rfl,hrg,hdc⟩:=(HLY.out wr HV.out.below).at_ hjl
     have HV2:Hid (VrInv x q n w wr hd (m[j]::(m.drop (j+1)++tl))):=hdn (by have:=HV.out;rwa[List.drop_eq_getElem_cons hjl] at this)
     generalize hdd:m[j]=d at hrg hdc HV2
     clear hdd HV
     have HRG:Hid (wr.rangeAt b (o+j*3) (#[.string d.type,.string d.name,.int .i64 d.pos]:Array Value).toList):=hdn hrg
     have HNB:Hid (Bk (wr.alloc (.cells #[.string d.type,.string d.name,.int .i64 d.pos] 65)) wr.heap.size 65 #[.string d.type,.string d.name,.int .i64 d.pos]):=hdn (heap_alloc_new _ _)
     have HV3:Hid (VrInv x q n w (wr.alloc (.cells #[.string d.type,.string d.name,.int .i64 d.pos] 65)) hd (d::(m.drop (j+1)++tl))):=hdn (HV2.out.fresh ((Gr.refl wr (fun _=>False)).alloc _))
     have HC:Hid (Calls Tryz.prog 64 #[tptr M,.agg #[.string d.type,.string d.name,.int .i64 d.pos]] (wr.alloc (.cells #[.string d.type,.string d.name,.int .i64 d.pos] 65)) fun en w'=>en= .returned (.int .i64 (kindT x d.type))∧Below (wr.alloc (.cells #[.string d.type,.string d.name,.int .i64 d.pos] 65)).heap.size (wr.alloc (.cells #[.string d.type,.string d.name,.int .i64 d.pos] 65)) w'):=
      hdn (typeOf_any x d M _ (HT.out.keep HV3.out.below) hdc.1)
     have n0:(0:Int)≤(j:Int):=Int.natCast_nonneg _
     have n1:(j:Int)<(m.length:Int):=by omega
     have hc1:(wr.alloc (.cells #[.string d.type,.string d.name,.int .i64 d.pos] 65)).cell? ⟨wr.heap.size,1,none⟩=some (.string d.name):=HNB.out.cell 1
     clear hrg hdc HV2
     by_cases he:d.name=n
     ·have hq1:(d.name.toList==n.toList)=true:=by rw[eqName,decide_eq_true_eq];exact he
      have HX:=hdn he
      have HVO:Hid (varOf x q n=some (kindT x d.type)):=hdn (by unfold varOf;rw[HV3.out.all,findD_hit x n hd d _ HV3.out.none_ HX.out])
      have HBW:=hdn HV3.out.below
      clear he HV3
      go_wp2_with (first |((with_reducible show wpList _ _ _ (Oper.mk (some 30) _ _ _ _ _::_) _ _);refine wpList_load_arr rfl 65 (.tmp 29) rfl b (o+j*3) rfl #[.string d.type,.string d.name,.int .i64 d.pos] _ HRG.out Tryz.underlying65 rfl size46 ?_)|((with_reducible show wpList _ _ _ (Oper.mk none (Op.store _ _ _) _ _ _ _::_) _ _);refine wpList_store_new rfl 65 (.tmp 11) (.tmp 30) rfl _ #[.string d.type,.string d.name,.int .i64 d.pos] rfl rfl size46 rfl rfl ?_)|((with_reducible show wpList _ _ _ (Oper.mk (some 36) _ _ _ _ _::_) _ _);refine wpList_load_arr rfl 65 (.tmp 11) rfl wr.heap.size 0 rfl #[.string d.type,.string d.name,.int .i64 d.pos] _ (fun i u hu=>by rw[Nat.zero_add];exact (HNB.out.cell i).trans (by simpa using hu)) Tryz.underlying65 rfl size46 ?_)|(go_at_call 64;refine HC.out.mono ?_;rintro en w2 ⟨rfl,hb2⟩;have HB2:=hdn hb2;clear hb2))
      go_ret2
      exact ⟨by rw[HVO.out];rfl,HBW.out.trans (HB2.out.mono HBW.out.size)⟩
     ·have hq1:(d.name.toList==n.toList)=false:=by rw[eqName,decide_eq_false_iff_not];exact he
      have HIN:=hdn (HV3.out.step he)
      clear he
      go_wp2_with (first |((with_reducible show wpList _ _ _ (Oper.mk (some 30) _ _ _ _ _::_) _ _);refine wpList_load_arr rfl 65 (.tmp 29) rfl b (o+j*3) rfl #[.string d.type,.string d.name,.int .i64 d.pos] _ HRG.out Tryz.underlying65 rfl size46 ?_)|((with_reducible show wpList _ _ _ (Oper.mk none (Op.store _ _ _) _ _ _ _::_) _ _);refine wpList_store_new rfl 65 (.tmp 11) (.tmp 30) rfl _ #[.string d.type,.string d.name,.int .i64 d.pos] rfl rfl size46 rfl rfl ?_))
      go_roundw
      case rel=>exact ⟨j+1,_,by go_num,by omega,HIN⟩
      case measure=>simp[intOf];omega
    ·have HIN:Hid (VrInv x q n w wr hd (((lists2 q).drop (k+1)).flatMap (·.l))):=hdn (by have:=HV.out;rwa[List.drop_eq_nil_of_le (by omega),List.nil_append,HTL.out] at this)
     go_wp2_with fail
     go_roundw
     case rel=>exact ⟨k+1,hd,by go_num,by omega,HIN⟩
     case measure=>simp[intOf];omega
  ·have HF:Hid (findD x (frameOf q) n=none):=hdn (by
    have:=HV.out.all
    rw[List.drop_eq_nil_of_le (by simp[lists2];omega),List.flatMap_nil,List.append_nil] at this
    rw[this];exact HV.out.none_)
   have HBW:=hdn HV.out.below
   have HG:=hdn (global_any x n M wr (HT.out.keep HBW.out) hn)
   clear HV
   cases hin:isIn (dNames x.globals.l) n
   ·have HVO:Hid (varOf x q n=none∧(globOf x n).1=0):=hdn ⟨by unfold varOf;rw[HF.out,hin];rfl,globOf_none hin⟩
    rw[hin] at HG
    go_wp2_with (go_at_call 65;refine HG.out.mono ?_;rintro en w2 ⟨rfl,hb2⟩;have HB2:=hdn hb2;clear hb2)
    go_ret2
    exact ⟨by rw[HVO.out.1,HVO.out.2];rfl,HBW.out.trans (HB2.out.mono HBW.out.size)⟩
   ·have HVO:Hid (varOf x q n=some (globOf x n).1):=hdn (by unfold varOf;rw[HF.out,hin];rfl)
    rw[hin] at HG
    go_wp2_with (go_at_call 65;refine HG.out.mono ?_;rintro en w2 ⟨rfl,hb2⟩;have HB2:=hdn hb2;clear hb2)
    go_ret2
    exact ⟨by rw[HVO.out];rfl,HBW.out.trans (HB2.out.mono HBW.out.size)⟩
end Sc
end Go.Proofs.YtcehbcnloiooaaaGreatDoor
namespace Go.Proofs.YtcehbcnloiooaaaGreatDoor
namespace Sc
open Go.RowKit Go.Sort Go.Maps
abbrev pthA (p:Pth):Array Value:= #[.string p.name,.int .i64 p.pos,.slice p.hops.p p.hops.l.length p.hops.cap]
def PtPost (x:Pg) (q:Pc) (p:Pth) (w:World) (en:Ending) (w':World):Prop:=
 en= .returned (.tuple #[.int .i64 (pathGo x q p).1,.int .i64 (pathGo x q p).2.1,.int .i64 (pathGo x q p).2.2])∧Below w.heap.size w w'
def hpR (_:World) (h:Hp):Prop:=h.name.size≤maxLen
def pthLies (w:World) (p:Pth):Prop:=Lay 2 Hp.cells hpR w p.hops.p p.hops.l∧p.name.size≤maxLen
theorem pthLies_below {w w':World} {p:Pth} (h:pthLies w p) (hb:Below w.heap.size w w'):pthLies w' p:=⟨h.1.below hb fun _ h=>h,h.2⟩
theorem size106:(Tryz.prog.info? 106).map (·.size)=some 2:=by kernel_rfl
theorem size37:(Tryz.prog.info? 37).map (·.size)=some 6:=by kernel_rfl
theorem wf_small {k:Int} (h0: -1≤k) (h1:k≤1048576):(Lit.int .i64 k).wf=true:=by
 exact WalkArith.wf_i64 (by omega)
theorem endsP_len (x:Pg):(endsP x).length=(pairM x).length:=by unfold endsP pairM;rw[endsOf_len,List.length_map]
theorem placeOf_le {κ:Type} [DecidableEq κ] (l:List κ) (a:κ):numOf l a≤l.length:=by
 unfold numOf;split
 ·rename_i h;have:=List.idxOf_lt_length_of_mem (isIn_iff.1 h);omega
 ·omega
theorem kindOf_le (sn:List ByteArray) (t:ByteArray):kindOf sn t≤sn.length:=by
 unfold kindOf;split
 ·omega
 ·exact placeOf_le _ _
theorem findD_le (x:Pg) (hx:x.structs.l.length≤1048576): ∀(l:List Dc) (n:ByteArray) (k:Int),findD x l n=some k→k≤1048576
 | [],_,_,h=>by cases h
 |d::r,n,k,h=>by
  unfold findD at h
  split at h
  ·injection h with h;subst h
   unfold kindT
   split
   ·have:=kindOf_le (sNames x.structs.l) d.type;rw[sNames_len] at this;omega
   ·omega
  ·exact findD_le x hx r n k h
theorem varsGo_le (sn:List ByteArray) (hs:sn.length≤1048576): ∀(l:List Dc) (a b:Int),∀y∈varsGo sn a b l,y.1≤1048576
 | [],_,_,_,h=>by cases h
 |d::r,a,b,y,h=>by
  unfold varsGo at h
  rcases List.mem_cons.1 h with rfl |h
  ·have:=kindOf_le sn d.type
   show kindOf sn d.type≤_
   omega
  ·split at h
   ·exact varsGo_le sn hs r _ _ y h
   ·exact varsGo_le sn hs r _ _ y h
theorem globOf_le (x:Pg) (n:ByteArray) (hx:x.structs.l.length≤1048576):(globOf x n).1≤1048576:=by
 unfold globOf
 split
 ·cases h:(varsP x)[placeOf (dNames x.globals.l) n]? with
  |none=>exact (by decide:(0:Int)≤1048576)
  |some y=>exact varsGo_le _ (by rw[sNames_len];exact hx) _ _ _ y (List.mem_of_getElem? h)
 ·exact (by decide:(0:Int)≤1048576)
theorem varOf_le (x:Pg) (q:Pc) (n:ByteArray) (k:Int) (hx:x.structs.l.length≤1048576) (h:varOf x q n=some k):k≤1048576:=by
 unfold varOf at h
 split at h
 ·rename_i j hj
  injection h with h;subst h
  exact findD_le x hx _ _ _ hj
 ·split at h
  ·injection h with h;subst h
   exact globOf_le x n hx
  ·cases h
theorem endAt_le (x:Pg) (f:Int) (hx:x.structs.l.length≤1048576):endAt x f≤1048576:=by
 unfold endAt
 cases h:(endsP x)[f.toNat]? with
 |none=>show (0:Int)≤_;omega
 |some y=>
  have h:=List.mem_of_getElem? h
  unfold endsP endsOf at h
  obtain ⟨z,_,rfl⟩:=List.mem_map.1 h
  have:=placeOf_le (sNames x.structs.l) z.2.type
  rw[sNames_len] at this
  show numOf _ _≤_
  omega
theorem path_any (x:Pg) (q:Pc) (p:Pth) (M:Nat) (w:World) (hx:x.structs.l.length≤1048576) (hT:TabIs x w M) (hq:pcLies w q) (hp:pthLies w p):
  Calls Tryz.prog 14 #[tptr M,.agg (pcA q),.agg (pthA p)] w (PtPost x q p w):=by
 have HA:Hid (Below w.heap.size w ((w.alloc (.cells (pcA q) 37)).alloc (.cells (pthA p) 40))):=hdn (((Below.refl _ _).alloc (Nat.le_refl _) _).alloc (by simp) _)
 have HK:Hid (Bk ((w.alloc (.cells (pcA q) 37)).alloc (.cells (pthA p) 40)) (w.heap.size+1) 40 (pthA p)):=hdn (heap_alloc2_new w _ _)
 have HT:=hdn hT
 have HQ:=hdn hq
 have HP:=hdn hp
 clear hT hq hp
 cases hv:varOf x q p.name with
 |none=>
  have HC:Hid (Calls Tryz.prog 38 #[tptr M,.agg (pcA q),.string p.name] ((w.alloc (.cells (pcA q) 37)).alloc (.cells (pthA p) 40)) fun en w'=>en= .returned (.tuple #[.int .i64 0,.bool false])∧Below ((w.alloc (.cells (pcA q) 37)).alloc (.cells (pthA p) 40)).heap.size ((w.alloc (.cells (pcA q) 37)).alloc (.cells (pthA p) 40)) w'):=
   hdn ((variable_any x q p.name M _ (HT.out.keep HA.out) (pcLies_below HQ.out HA.out) HP.out.2).mono (fun en w' h=>by obtain ⟨h1,h2⟩:=h;rw[hv] at h1;exact ⟨h1,h2⟩))
  have HG:Hid (pathGo x q p=(0,p.pos,8)):=hdn (by unfold pathGo;rw[hv])
  have HW:Hid (w.heap.size+1<((w.alloc (.cells (pcA q) 37)).alloc (.cells (pthA p) 40)).heap.size):=hdn (by simp)
  go_enter Tryz.func14,Tryz.ntmps14
  go_wp2_with fail
  generalize (w.alloc (.cells (pcA q) 37)).alloc (.cells (pthA p) 40)=wA at HA HK HC HW ⊢
  refine HC.out.mono ?_;rintro en w2 ⟨rfl,hb2⟩
  have HB2:=hdn hb2
  have c1:w2.cell? ⟨w.heap.size+1,1,none⟩=some (.int .i64 p.pos):=(hb2.cell HW.out).trans (HK.out.cell 1)
  clear hb2
  go_wp2_with fail
  go_quiet (fail)
  go_wp2_with fail
  exact bodyPost_ret (results_tmp3 rfl _ _ _) rfl ⟨by rw[HG.out];rfl,below_drewN_ (HA.out.trans (HB2.out.mono HA.out.size)) _⟩
 |some k=>
  have HC:Hid (Calls Tryz.prog 38 #[tptr M,.agg (pcA q),.string p.name] ((w.alloc (.cells (pcA q) 37)).alloc (.cells (pthA p) 40)) fun en w'=>en= .returned (.tuple #[.int .i64 k,.bool true])∧Below ((w.alloc (.cells (pcA q) 37)).alloc (.cells (pthA p) 40)).heap.size ((w.alloc (.cells (pcA q) 37)).alloc (.cells (pthA p) 40)) w'):=
   hdn ((variable_any x q p.name M _ (HT.out.keep HA.out) (pcLies_below HQ.out HA.out) HP.out.2).mono (fun en w' h=>by obtain ⟨h1,h2⟩:=h;rw[hv] at h1;exact ⟨h1,h2⟩))
  have HG:Hid (pathGo x q p=hopsGo x k p.hops.l):=hdn (by unfold pathGo;rw[hv])
  have HW:Hid (w.heap.size+1<((w.alloc (.cells (pcA q) 37)).alloc (.cells (pthA p) 40)).heap.size):=hdn (by simp)
  go_enter Tryz.func14,Tryz.ntmps14
  go_wp2_with fail
  generalize (w.alloc (.cells (pcA q) 37)).alloc (.cells (pthA p) 40)=wA at HA HK HC HW ⊢
  refine HC.out.mono ?_;rintro en w2 ⟨rfl,hb2⟩
  have HBA:Hid (Below w.heap.size w w2):=hdn (HA.out.trans (hb2.mono HA.out.size))
  have c2:w2.cell? ⟨w.heap.size+1,2,none⟩=some (.slice p.hops.p p.hops.l.length p.hops.cap):=(hb2.cell HW.out).trans (HK.out.cell 2)
  have HW2:Hid (w.heap.size+1<w2.heap.size):=hdn (Nat.lt_of_lt_of_le HW.out hb2.size)
  have HF:=hdn (fields_any x M w2 (HT.out.keep HBA.out))
  clear hb2 HC HK HA HW
  go_wp2_with (go_at_call 39;refine HF.out.mono ?_;rintro en w3 ⟨ev,rfl,ho3,hb3⟩;have HO3:=hdn ho3;have HB3:=hdn hb3;replace c2:=(hb3.cell (p:=⟨w.heap.size+1,2,none⟩) HW2.out).trans c2;clear ho3 hb3)
  have HBW:Hid (Below w.heap.size w w3):=hdn (HBA.out.trans (HB3.out.mono HBA.out.size))
  have HS3:Hid (w.heap.size+1<w3.heap.size∧w2.heap.size≤w3.heap.size):=hdn ⟨Nat.lt_of_lt_of_le HW2.out HB3.out.size,HB3.out.size⟩
  clear c2 HB3 HF HBA
  have HLY:Hid (∀wi,Below w.heap.size w wi→Lay 2 Hp.cells hpR wi p.hops.p p.hops.l):=hdn (fun wi hb=>(pthLies_below HP.out hb).1)
  have hml:p.hops.l.length≤1048576:=HP.out.1.1
  have HKB:Hid (-1≤k∧k≤1048576):=hdn ⟨varOf_ge x q _ k hv,varOf_le x q _ k hx hv⟩
  generalize p.hops.l=m at HG HLY hml ⊢
  generalize p.hops.p=mp at HLY ⊢
  generalize p.hops.cap=mc
  go_loopw [9,33] (fun kv i wr=> ∃(j:Nat) (kk:Int),i= .int .i64 j∧kv= .int .i64 kk∧j≤m.length∧Hid (-1≤kk∧kk≤1048576)∧Hid (hopsGo x k m=hopsGo x kk (m.drop j))∧Hid (Below w.heap.size w wr)∧Hid (Below w3.heap.size w3 wr)) (fun _ i _=>m.length-(intOf i).toNat)
  case atStart=>exact ⟨0,k,rfl,rfl,Nat.zero_le _,HKB,hdn rfl,HBW,hdn (Below.refl _ _)⟩
  case round=>
   obtain ⟨j,kk,rfl,rfl,hj,HKK,HGO,HBR,HB3R⟩:=hrel
   by_cases hjl:j<m.length
   ·obtain ⟨b,o,rfl,hrg,hnm⟩:=(HLY.out wr HBR.out).at_ hjl
    have HGO2:Hid (hopsGo x k m=hopsGo x kk (m[j]::m.drop (j+1))):=hdn (by rw[←List.drop_eq_getElem_cons hjl];exact HGO.out)
    generalize m[j]=h at hrg hnm HGO2
    have HRG:Hid (wr.rangeAt b (o+j*2) (#[.string h.name,.int .i64 h.pos]:Array Value).toList):=hdn hrg
    have HNB:Hid (Bk (wr.alloc (.cells #[.string h.name,.int .i64 h.pos] 106)) wr.heap.size 106 #[.string h.name,.int .i64 h.pos]):=hdn (heap_alloc_new _ _)
    have HBN:Hid (Below w.heap.size w (wr.alloc (.cells #[.string h.name,.int .i64 h.pos] 106))):=hdn (HBR.out.alloc HBR.out.size _)
    have HB3N:Hid (Below w3.heap.size w3 (wr.alloc (.cells #[.string h.name,.int .i64 h.pos] 106))):=hdn (HB3R.out.alloc HB3R.out.size _)
    have n0:(0:Int)≤(j:Int):=Int.natCast_nonneg _
    have n1:(j:Int)<(m.length:Int):=by omega
    have c0:(wr.alloc (.cells #[.string h.name,.int .i64 h.pos] 106)).cell? ⟨wr.heap.size,0,none⟩=some (.string h.name):=HNB.out.cell 0
    have c1:(wr.alloc (.cells #[.string h.name,.int .i64 h.pos] 106)).cell? ⟨wr.heap.size,1,none⟩=some (.int .i64 h.pos):=HNB.out.cell 1
    clear hrg
    by_cases hk1:kk= -1
    ·subst hk1
     have HE:Hid (hopsGo x k m=(0,h.pos,9)):=hdn (by rw[HGO2.out,hopsGo,if_pos rfl])
     go_wp2_with (first |((with_reducible show wpList _ _ _ (Oper.mk (some 36) _ _ _ _ _::_) _ _);refine wpList_load_arr rfl 106 (.tmp 35) rfl b (o+j*2) rfl #[.string h.name,.int .i64 h.pos] _ HRG.out Tryz.underlying106 rfl size106 ?_)|((with_reducible show wpList _ _ _ (Oper.mk none (Op.store _ _ _) _ _ _ _::_) _ _);refine wpList_store_new rfl 106 (.tmp 13) (.tmp 36) rfl _ #[.string h.name,.int .i64 h.pos] rfl rfl size106 rfl rfl ?_))
     go_quiet (fail)
     go_wp2_with fail
     exact bodyPost_ret (results_tmp3 rfl _ _ _) rfl ⟨by rw[HG.out,HE.out];rfl,below_drewN_ HBN.out _⟩
    ·have hk2:(kk== -1)=false:=by simpa using hk1
     have HC:=hdn (field_any kk h.name (M+4) (M+1) (pairM x) (wr.alloc (.cells #[.string h.name,.int .i64 h.pos] 106)) (HT.out.keep HBN.out).c1 (HT.out.keep HBN.out).rf (wf_small HKK.out.1 HKK.out.2) hnm)
     have HX:=hdn hk1
     clear hk1
     cases hin:isIn (pairM x) (kk,h.name)
     ·have HE:Hid (hopsGo x k m=(0,h.pos,8)):=hdn (by rw[HGO2.out,hopsGo,if_neg HX.out,hin];rfl)
      rw[hin] at HC
      go_wp2_with (first |((with_reducible show wpList _ _ _ (Oper.mk (some 36) _ _ _ _ _::_) _ _);refine wpList_load_arr rfl 106 (.tmp 35) rfl b (o+j*2) rfl #[.string h.name,.int .i64 h.pos] _ HRG.out Tryz.underlying106 rfl size106 ?_)|((with_reducible show wpList _ _ _ (Oper.mk none (Op.store _ _ _) _ _ _ _::_) _ _);refine wpList_store_new rfl 106 (.tmp 13) (.tmp 36) rfl _ #[.string h.name,.int .i64 h.pos] rfl rfl size106 rfl rfl ?_))
      refine HC.out.mono ?_;rintro en w5 ⟨rfl,hb5⟩
      have HB5:Hid (Below w.heap.size w w5):=hdn (HBN.out.trans (hb5.mono HBN.out.size))
      replace c1:=(hb5.cell (p:=⟨wr.heap.size,1,none⟩) (by simp)).trans c1
      clear hb5 c0
      go_wp2_with fail
      go_quiet (fail)
      go_wp2_with fail
      exact bodyPost_ret (results_tmp3 rfl _ _ _) rfl ⟨by rw[HG.out,HE.out];rfl,below_drewN_ HB5.out _⟩
     ·have hnum:=numOf_in hin
      have hlt:=placeOf_lt hin
      obtain ⟨f,hf⟩: ∃f,placeOf (pairM x) (kk,h.name)=f:=⟨_,rfl⟩
      rw[hf] at hnum hlt
      obtain ⟨y,hk⟩: ∃y,(endsP x)[f]? =some y:=⟨_,List.getElem?_eq_getElem (by rw[endsP_len];exact hlt)⟩
      have HE:Hid (hopsGo x k m=hopsGo x (endAt x (numOf (pairM x) (kk,h.name))) (m.drop (j+1))):=hdn (by rw[HGO2.out,hopsGo,if_neg HX.out,hin];rfl)
      rw[hin,hnum] at HC
      rw[hnum] at HE
      obtain ⟨g,c,rfl,_,d1⟩:=own_cells HO3.out hk
      have HEA:Hid (endAt x (f:Int)=y.2):=hdn (by unfold endAt;rw[Int.toNat_natCast,hk];rfl)
      have hlen:f<(endsP x).length:=by rw[endsP_len];exact hlt
      have n2:(0:Int)≤(f:Int):=Int.natCast_nonneg _
      have n3:(f:Int)<((endsP x).length:Int):=by omega
      have hg3:g<w3.heap.size:=World.block_lt_of_cell? w3 _ d1
      have d2:=(HB3N.out.cell (p:=⟨g,f*2+1,none⟩) hg3).trans d1
      have HSN:Hid (g<(wr.alloc (.cells #[.string h.name,.int .i64 h.pos] 106)).heap.size):=hdn (Nat.lt_of_lt_of_le hg3 HB3N.out.size)
      have HEB:Hid (-1≤endAt x (f:Int)∧endAt x (f:Int)≤1048576):=hdn ⟨by have:=endAt_nn x (f:Int);omega,endAt_le x _ hx⟩
      rw[HEA.out] at HEB HE
      generalize y.2=kn at d2 HEB HE
      generalize (endsP x).length=el at n3 ⊢
      clear d1 hlen hk hg3 hnum hin hlt HEA HO3 hf
      go_wp2_with (first |((with_reducible show wpList _ _ _ (Oper.mk (some 36) _ _ _ _ _::_) _ _);refine wpList_load_arr rfl 106 (.tmp 35) rfl b (o+j*2) rfl #[.string h.name,.int .i64 h.pos] _ HRG.out Tryz.underlying106 rfl size106 ?_)|((with_reducible show wpList _ _ _ (Oper.mk none (Op.store _ _ _) _ _ _ _::_) _ _);refine wpList_store_new rfl 106 (.tmp 13) (.tmp 36) rfl _ #[.string h.name,.int .i64 h.pos] rfl rfl size106 rfl rfl ?_))
      refine HC.out.mono ?_;rintro en w5 ⟨rfl,hb5⟩
      have HB5:Hid (Below w.heap.size w w5):=hdn (HBN.out.trans (hb5.mono HBN.out.size))
      have HB53:Hid (Below w3.heap.size w3 w5):=hdn (HB3N.out.trans (hb5.mono HB3N.out.size))
      replace d2:=(hb5.cell (p:=⟨g,f*2+1,none⟩) HSN.out).trans d2
      clear hb5 c0 c1 HNB HC HRG
      go_wp2_with fail
      go_roundw
      case rel=>exact ⟨j+1,kn,by go_num,rfl,by omega,HEB,HE,HB5,HB53⟩
      case measure=>simp[intOf];omega
   ·have HE:Hid (hopsGo x k m=(kk,0,0)):=hdn (by rw[HGO.out,List.drop_eq_nil_of_le (by omega)];rfl)
    go_wp2_with fail
    exact bodyPost_ret (results_tmp3 rfl _ _ _) rfl ⟨by rw[HG.out,HE.out];rfl,HBR.out⟩
end Sc
end Go.Proofs.YtcehbcnloiooaaaGreatDoor
namespace Go.Proofs.YtcehbcnloiooaaaGreatDoor
open Go.RowKit Go.Sort
theorem enters {F:FuncId} {fn:Func} {c:Code} (hf:Tryz.prog.funcs[F]? =some fn) (hname:(fn.name== "runtime.NumGoroutine")=false) (hb:fn.body=some c): ∀args w,(callFunc F args).run Tryz.prog w= .ok (.enter F args) w:=by
 intro args w
 have h1:fn.name≠ "runtime.NumGoroutine" :=by simpa using hname
 simp[callFunc,hf,h1,hb,mark]
theorem cell_at {w:World} {b q:Nat} {cs:List Value} (h:w.rangeAt b q cs) (j:Nat) (v:Value) (hv:cs[j]? =some v):w.cell? ⟨b,q+j,none⟩=some v:=h j v hv
theorem below_drewN_ {B:Nat} {a w:World} (h:Below B a w) (n:Nat):Below B a (w.drewN n):=⟨h.os,h.tape,h.output,h.size,h.block⟩
def triv {α:Type} (_:World) (_:α):Prop:=True
theorem triv_below {α:Type} {w w':World} {x:α} (_:triv w x) (_:Below w.heap.size w w'):triv w' x:=trivial
def srLies (w:World) (x:Sr):Prop:=declsLie w x.fields
end Go.Proofs.YtcehbcnloiooaaaGreatDoor
namespace Go.Proofs.YtcehbcnloiooaaaGreatDoor
open Go.RowKit Go.Sort
def sameL {α:Type} (f:α→α→Bool):List α→List α→Bool
 | [],[]=>true
 |a::l,b::m=>f a b && sameL f l m
 | [],_::_=>false
 |_::_,[]=>false
theorem sameL_len {α:Type} {f:α→α→Bool}: ∀ {l m:List α},l.length≠m.length→sameL f l m=false
 | [],[],h=>absurd rfl h
 |a::l,b::m,h=>by
  simp only[List.length_cons,ne_eq,Nat.add_right_cancel_iff] at h
  rw[sameL,sameL_len h,Bool.and_false]
 | [],_::_,_=>rfl
 |_::_,[],_=>rfl
theorem sameL_step {α:Type} {f:α→α→Bool}: ∀ {l m:List α} (k:Nat) (h1:k<l.length) (h2:k<m.length),sameL f (l.take (k+1)) (m.take (k+1))=(sameL f (l.take k) (m.take k) && f l[k] m[k])
 |a::l,b::m,0,_,_=>by simp[sameL]
 |a::l,b::m,k+1,h1,h2=>by
  simp only[List.length_cons,Nat.add_lt_add_iff_right] at h1 h2
  have:=sameL_step (f:=f) (l:=l) (m:=m) k h1 h2
  simp only[List.take_succ_cons,sameL,List.getElem_cons_succ] at this ⊢
  rw[this,Bool.and_assoc]
theorem sameL_refl {α:Type} {f:α→α→Bool}: ∀(l:List α),(∀a,a∈l→f a a=true)→sameL f l l=true
 | [],_=>rfl
 |a::l,h=>by rw[sameL,h a (by simp),sameL_refl l (fun b hb=>h b (by simp[hb]))];rfl
def sameHp (a b:Hp):Bool:=a.name.toList==b.name.toList
def sameTm (a b:Tm):Bool:=(a.name.toList==b.name.toList) && (a.n==b.n)
def samePth (a b:Pth):Bool:=(a.name.toList==b.name.toList) && sameL sameHp a.hops.l b.hops.l
def sameVl (a b:Vl):Bool:=(a.kind==b.kind) && ((a.type.toList==b.type.toList) && (samePth a.path b.path && (sameTm a.left b.left && sameTm a.right b.right)))
def sameCd (a b:Cd):Bool:=(a.kind==b.kind) && (sameVl a.left b.left && sameVl a.right b.right)
def sameHd (a b:Hd):Bool:=(a.kind==b.kind) && ((a.name.toList==b.name.toList) && ((a.both==b.both) && (samePth a.place b.place && (sameVl a.value b.value && (sameCd a.cond b.cond && sameL sameVl a.args.l b.args.l)))))
def sameSL:SL→SL→Bool
 |.nil,.nil=>true
 |.cons h _ _ t _ _ e r,.cons h' _ _ t' _ _ e' r'=>(sameHd h h' && (sameSL t t' && sameSL e e')) && sameSL r r'
 |.nil,.cons _ _ _ _ _ _ _ _=>false
 |.cons _ _ _ _ _ _ _ _,.nil=>false
structure It where
 h:Hd
 tp:Option Addr
 tc:Nat
 t:SL
 ep:Option Addr
 ec:Nat
 e:SL
def It.cells (x:It):List Value:=scells x.h x.tp x.t.len x.tc x.ep x.e.len x.ec
def SL.items:SL→List It
 |.nil=> []
 |.cons h tp tc t ep ec e r=>⟨h,tp,tc,t,ep,ec,e⟩::r.items
theorem SL.items_len: ∀(l:SL),l.items.length=l.len
 |.nil=>rfl
 |.cons _ _ _ _ _ _ _ r=>by simp only[SL.items,List.length_cons,SL.len,SL.items_len r]
def itLies (w:World) (x:It):Prop:=hdLies w x.h∧sLies w x.tp x.t∧sLies w x.ep x.e
theorem itLies_below {w w':World} {x:It} (h:itLies w x) (hb:Below w.heap.size w w'):itLies w' x:=⟨hdLies_below h.1 hb,sLies_below h.2.1 hb,sLies_below h.2.2 hb⟩
theorem lies_items {w:World} {b:Nat}: ∀(l:SL) (o:Nat),lies w l b o→∀k x,l.items[k]? =some x→w.rangeAt b (o+k*48) x.cells∧itLies w x
 |.nil,_,_,k,x,h=>by simp[SL.items] at h
 |.cons hd tp tc t ep ec e r,o,⟨h1,h2,h3,h4,h5⟩,0,x,h=>by
  simp only[SL.items,List.getElem?_cons_zero,Option.some.injEq] at h
  subst h
  exact ⟨by rw[Nat.zero_mul,Nat.add_zero];exact h1,h2,h3,h4⟩
 |.cons hd tp tc t ep ec e r,o,⟨h1,h2,h3,h4,h5⟩,k+1,x,h=>by
  simp only[SL.items,List.getElem?_cons_succ] at h
  have:=lies_items r (o+48) h5 k x h
  rwa[show o+48+k*48=o+(k+1)*48 by omega] at this
def Lay {α:Type} (size:Nat) (cells:α→List Value) (R:World→α→Prop) (w:World) (p:Option Addr) (l:List α):Prop:=
 l.length≤6000000000000∧(l= []∨∃b o,p=some ⟨b,o,none⟩∧∀k x,l[k]? =some x→w.rangeAt b (o+k*size) (cells x)∧R w x)
theorem Lay.below {α:Type} {size:Nat} {cells:α→List Value} {R:World→α→Prop} {w w':World} {p:Option Addr} {l:List α} (h:Lay size cells R w p l) (hb:Below w.heap.size w w') (hR: ∀x,R w x→R w' x):Lay size cells R w' p l:=by
 obtain ⟨h0,h⟩:=h
 refine ⟨h0, ?_⟩
 rcases h with h |⟨b,o,hp,hx⟩
 ·exact .inl h
 ·exact .inr ⟨b,o,hp,fun k x hk=>⟨rangeAt_below (hx k x hk).1 hb,hR x (hx k x hk).2⟩⟩
theorem Lay.of_sl {α:Type} {size bytes:Nat} {cells:α→List Value} {R:World→α→Prop} {w:World} {s:Sl α} (h:slLies w size bytes cells (R w) s) (hb:24≤bytes):Lay size cells R w s.p s.l:=by
 obtain ⟨h0,h⟩:=h
 refine ⟨?_,h⟩
 have:=Nat.mul_le_mul_left s.l.length hb
 omega
theorem Lay.of_sLies {w:World} {p:Option Addr} {l:SL} (h:sLies w p l):Lay 48 It.cells itLies w p l.items:=by
 obtain ⟨h0,h⟩:=h
 refine ⟨by rw[SL.items_len];omega, ?_⟩
 rcases h with rfl |⟨b,o,hp,hl⟩
 ·exact .inl rfl
 ·exact .inr ⟨b,o,hp,lies_items l o hl⟩
def sameIt (x y:It):Bool:=sameHd x.h y.h && (sameSL x.t y.t && sameSL x.e y.e)
theorem sameSL_items: ∀(l m:SL),sameSL l m=sameL sameIt l.items m.items
 |.nil,.nil=>rfl
 |.cons h tp tc t ep ec e r,.cons h' tp' tc' t' ep' ec' e' r'=>by
  simp only[sameSL,SL.items,sameL,sameIt]
  rw[sameSL_items r r']
 |.nil,.cons _ _ _ _ _ _ _ _=>rfl
 |.cons _ _ _ _ _ _ _ _,.nil=>rfl
theorem SL.each_items {P:SL→Prop}: ∀ {l:SL},l.each P→∀x∈l.items,P x.t∧P x.e
 |.nil,_,x,hx=>by simp[SL.items] at hx
 |.cons h tp tc t ep ec e r,⟨h1,h2,h3⟩,x,hx=>by
  simp only[SL.items,List.mem_cons] at hx
  rcases hx with rfl |hx
  ·exact ⟨h1,h2⟩
  ·exact SL.each_items h3 x hx
theorem rangeAt_sub {w:World} {b q:Nat} {cs:List Value} (h:w.rangeAt b q cs) (o n:Nat) {cs':List Value} (hs:(cs.drop o).take n=cs'):w.rangeAt b (q+o) cs':=fun j v hv=>by
 rw[←hs] at hv
 rw[Nat.add_assoc]
 refine h (o+j) v ?_
 rw[List.getElem?_take] at hv
 split at hv
 ·rwa[List.getElem?_drop] at hv
 ·cases hv
def pthLies (w:World) (x:Pth):Prop:=slLies w 2 24 Hp.cells (triv w) x.hops
theorem pthLies_of {w:World} {x:Pth} (h:hopsLie w x.hops):pthLies w x:=h
theorem pthLies_below {w w':World} {x:Pth} (h:pthLies w x) (hb:Below w.heap.size w w'):pthLies w' x:=slLies_below h hb (fun _ h=>h)
end Go.Proofs.YtcehbcnloiooaaaGreatDoor
namespace Go.Proofs.YtcehbcnloiooaaaGreatDoor
open Go.RowKit Go.Sort
end Go.Proofs.YtcehbcnloiooaaaGreatDoor
namespace Go.Proofs.YtcehbcnloiooaaaGreatDoor
open Go.RowKit Go.Sort
theorem range_blockS {w:World} {b:Nat} {cs:List Value} {t:TypeId} {fr:Nat×Nat} (hb:w.heap[b]? =some (.cells cs.toArray t fr)):w.rangeAt b 0 cs:=fun j v hv=>by
 rw[cell_of_row w b (0+j) _ t fr hb];simpa using hv
end Go.Proofs.YtcehbcnloiooaaaGreatDoor
namespace Go.Proofs.YtcehbcnloiooaaaGreatDoor
open Go.RowKit Go.Sort
theorem wpQuiet_load {P:Program} {ops:Array Oper} {C:World→Prop} {Q:Act→Prop} {a:Act} {o:Oper} {rest:List Oper} (hw:Region.wanted o (yielded ops a.tmps)=true) (ty:TypeId) (x:Operand) (ho:o.op= .load ty x)
  (b q:Nat) (hx:a.eval x= .pointer (some ⟨b,q,none⟩)) (cs:Array Value) (d:TypeDesc) (hc: ∀w,C w→w.rangeAt b q cs.toList) (hu:P.underlying ty=some d) (hd:d.isRow=true) (hi:(P.info? ty).map (·.size)=some cs.size)
  (h:wpQuiet P ops C Q rest (a.put o.dst (.agg cs))):wpQuiet P ops C Q (o::rest) a:=by
 refine BigFrame.wpQuiet_want hw fun K hK=>⟨.agg cs,fun w hw'=> ?_,hK _ h⟩
 unfold Oper.quietAt execOp
 simp only[ho,hx,Instr.loadAt,Instr.sureAddr,Sem.run_bind,Sem.run_pure,Result.andThen_ok,run_loadVar_mid w b q ty cs.toList d (hc w hw') hu hd (by simpa using hi)]
 exact ⟨rfl,by simp⟩
end Go.Proofs.YtcehbcnloiooaaaGreatDoor
namespace Go.Proofs.YtcehbcnloiooaaaGreatDoor
open Go.RowKit Go.Sort
end Go.Proofs.YtcehbcnloiooaaaGreatDoor
namespace Go.Proofs.YtcehbcnloiooaaaGreatDoor
namespace Sc
open Go.RowKit Go.Sort Go.Maps
theorem qb_range {wB:World} {b o:Nat} {cs:List Value} (h:wB.rangeAt b o cs): ∀w',(∃p:Regrown,w'=grow (redrawn wB p.d) p.os)→w'.rangeAt b o cs:=fun w' hw=>by
 obtain ⟨p,rfl⟩:=hw
 exact rangeAt_below h (below_regrown _ _ _)
theorem qb_call {F:Nat} {ar:Array Value} {wB:World} {v:Value} (h: ∀wr,Below wB.heap.size wB wr→Calls Tryz.prog F ar wr fun en w'=>en= .returned v∧Below wr.heap.size wr w'):
  ∀dd os,Calls Tryz.prog F ar (grow (redrawn wB dd) os) fun en w''=>en= .returned v∧∃p:Regrown,w''=grow (redrawn wB p.d) p.os:=fun _ _=>Calls.regrown_of (h _ (below_regrown _ _ _))
abbrev frA (x:Pg) (q:Pc) (M:Nat):Array Value:= #[tptr M,.slice x.procs.p x.procs.l.length x.procs.cap,.string q.name,.int .i64 q.pos,.int .i64 q.fin,.slice q.params.p q.params.l.length q.params.cap,.slice q.locals_.p q.locals_.l.length q.locals_.cap,.slice q.bp q.body.len q.bc,.int .i64 (numOf (pNames x.procs.l) mainN)]
structure FrIs (x:Pg) (q:Pc) (M F:Nat) (w:World):Prop where
 tab:TabIs x w M
 bk:Bk w F 73 (frA x q M)
 pc:pcLies w q
 prs:pcsLie w x.procs
 hx:x.structs.l.length≤1048576
 hm:isIn (pNames x.procs.l) mainN=true
theorem FrIs.keep {x:Pg} {q:Pc} {M F:Nat} {w w':World} (h:FrIs x q M F w) (hb:Below w.heap.size w w'):FrIs x q M F w' where
 tab:=h.tab.keep hb
 bk:=(show Gr w w' (fun _=>False) from Gr.of_below hb).bk h.bk (fun h=>h)
 pc:=pcLies_below h.pc hb
 prs:=pcsLie_below h.prs hb
 hx:=h.hx
 hm:=h.hm
def fptr (F:Nat):Value:= .pointer (some ⟨F,0,none⟩)
theorem size40:(Tryz.prog.info? 40).map (·.size)=some 3:=by kernel_rfl
theorem size56:(Tryz.prog.info? 56).map (·.size)=some 3:=by kernel_rfl
theorem fr_range {x:Pg} {q:Pc} {M F:Nat} {w:World} (h:FrIs x q M F w):w.rangeAt F 2 (pcA q).toList:=fun i u hu=>by
 have:=h.bk.cell (2+i)
 rw[this]
 match i,hu with
 |0,hu=>exact hu
 |1,hu=>exact hu
 |2,hu=>exact hu
 |3,hu=>exact hu
 |4,hu=>exact hu
 |5,hu=>exact hu
theorem fpath_any (x:Pg) (q:Pc) (p:Pth) (M F:Nat) (w:World) (hf:FrIs x q M F w) (hp:pthLies w p):
  Calls Tryz.prog 229 #[fptr F,.agg (pthA p)] w (PtPost x q p w):=by
 have HA:Hid (Below w.heap.size w (w.alloc (.cells (pthA p) 40))):=hdn ((Below.refl _ _).alloc (Nat.le_refl _) _)
 have HK:Hid (Bk (w.alloc (.cells (pthA p) 40)) w.heap.size 40 (pthA p)):=hdn (heap_alloc_new w _)
 have HF:=hdn (hf.keep HA.out)
 have c0:(w.alloc (.cells (pthA p) 40)).cell? ⟨F,0,none⟩=some (tptr M):=HF.out.bk.cell 0
 have HPL:=hdn (pthLies_below hp HA.out)
 clear hf hp
 unfold fptr
 go_enter Tryz.func229,Tryz.ntmps229
 go_wp2_with fail
 generalize w.alloc (.cells (pthA p) 40)=wB at HA HK HF c0 HPL ⊢
 have HR1:=hdn (qb_range (fr_range HF.out))
 have HR2:Hid (∀w',(∃p:Regrown,w'=grow (redrawn wB p.d) p.os)→w'.rangeAt w.heap.size 0 (pthA p).toList):=hdn (qb_range (fun i u hu=>by rw[Nat.zero_add];exact (HK.out.cell i).trans (by simpa using hu)))
 have CC:=qb_call (wB:=wB) (F:=14) (ar:= #[tptr M,.agg (pcA q),.agg (pthA p)]) (v:= .tuple #[.int .i64 (pathGo x q p).1,.int .i64 (pathGo x q p).2.1,.int .i64 (pathGo x q p).2.2]) (fun wr hb=>path_any x q p M wr HF.out.hx (HF.out.tab.keep hb) (pcLies_below HF.out.pc hb) (pthLies_below HPL.out hb))
 have k0:=cell_regrown c0
 generalize h1:(pathGo x q p).1=r1 at CC
 generalize h2:(pathGo x q p).2.1=r2 at CC
 generalize h3:(pathGo x q p).2.2=r3 at CC
 have H1:=hdn h1;have H2:=hdn h2;have H3:=hdn h3
 clear h1 h2 h3
 refine wp_region_quiet_below (by kernel_rfl) (by kernel_rfl) ?_
 repeat (first |((with_reducible show wpQuiet _ _ _ _ (Oper.mk (some 14) _ _ _ _ _::_) _);refine wpQuiet_load rfl 37 (.tmp 13) rfl F 2 rfl (pcA q) _ HR1.out Tryz.underlying37 rfl size37 ?_;simp only[Act.put,List.setIfInBounds_toArray,List.set_cons_succ,List.set_cons_zero])|((with_reducible show wpQuiet _ _ _ _ (Oper.mk (some 15) _ _ _ _ _::_) _);refine wpQuiet_load rfl 40 (.tmp 3) rfl w.heap.size 0 rfl (pthA p) _ HR2.out Tryz.underlying40 rfl size40 ?_;simp only[Act.put,List.setIfInBounds_toArray,List.set_cons_succ,List.set_cons_zero])|go_big_quiet_step (with_reducible exact CC _ _))
 refine wpQuiet_nil ?_
 intro _ hw'
 obtain ⟨⟨dq,osq⟩,hw''⟩:=hw'
 subst hw''
 have HB3:=hdn (below_regrown wB dq osq)
 generalize grow (redrawn wB dq) osq=w3 at HB3 ⊢
 go_wp2_with fail
 exact bodyPost_ret (results_tmp3 rfl _ _ _) rfl ⟨by rw[H1.out,H2.out,H3.out];rfl,HA.out.trans (HB3.out.mono HA.out.size)⟩
end Sc
end Go.Proofs.YtcehbcnloiooaaaGreatDoor
namespace Go.Proofs.YtcehbcnloiooaaaGreatDoor
namespace Sc
open Go.RowKit Go.Sort Go.Maps
def PPost (r:Int×Int) (w:World) (en:Ending) (w':World):Prop:=en= .returned (.tuple #[.int .i64 r.1,.int .i64 r.2])∧Below w.heap.size w w'
theorem fpath_is {x:Pg} {q:Pc} {p:Pth} {M F:Nat} {w:World} {r1 r2 r3:Int} (h1:(pathGo x q p).1=r1) (h2:(pathGo x q p).2.1=r2) (h3:(pathGo x q p).2.2=r3) (hf:FrIs x q M F w) (hp:pthLies w p):
  Calls Tryz.prog 229 #[fptr F,.agg (pthA p)] w fun en w'=>en= .returned (.tuple #[.int .i64 r1,.int .i64 r2,.int .i64 r3])∧Below w.heap.size w w':=
 (fpath_any x q p M F w hf hp).mono (fun en w' h=>by obtain ⟨a,b⟩:=h;rw[h1,h2,h3] at a;exact ⟨a,b⟩)
abbrev tmA (t:Tm):Array Value:= #[.string t.name,.int .i64 t.n,.int .i64 t.pos]
def nmPth (t:Tm):Pth:=⟨t.name,t.pos,⟨none,0,[]⟩⟩
theorem nm_lies {w:World} {t:Tm} (h:t.name.size≤maxLen):pthLies w (nmPth t):=⟨⟨Nat.zero_le _,.inl rfl⟩,h⟩
theorem fterm_any (x:Pg) (q:Pc) (t:Tm) (M F:Nat) (w:World) (hf:FrIs x q M F w) (ht:t.name.size≤maxLen):
  Calls Tryz.prog 231 #[fptr F,.agg (tmA t)] w (PPost (termE x q t) w):=by
 have HA:Hid (Below w.heap.size w (w.alloc (.cells (tmA t) 56))):=hdn ((Below.refl _ _).alloc (Nat.le_refl _) _)
 have HK:Hid (Bk (w.alloc (.cells (tmA t) 56)) w.heap.size 56 (tmA t)):=hdn (heap_alloc_new w _)
 have HF:=hdn (hf.keep HA.out)
 have c0:(w.alloc (.cells (tmA t) 56)).cell? ⟨w.heap.size,0,none⟩=some (.string t.name):=HK.out.cell 0
 have c2:(w.alloc (.cells (tmA t) 56)).cell? ⟨w.heap.size,2,none⟩=some (.int .i64 t.pos):=HK.out.cell 2
 have HW:Hid (w.heap.size<(w.alloc (.cells (tmA t) 56)).heap.size):=hdn (by simp)
 have HT:=hdn ht
 clear hf ht
 cases he:t.name.toList.isEmpty
 ·have he':(t.name.toList== [])=false:=by cases hh:t.name.toList<;>simp_all
  have HE:Hid (termE x q t=if (pathGo x q (nmPth t)).2.2=0 then mustE (decide ((pathGo x q (nmPth t)).1= -1)) t.pos else (pathGo x q (nmPth t)).2):=hdn (by unfold termE;rw[if_neg (by rw[he];decide)];rfl)
  generalize h1:(pathGo x q (nmPth t)).1=r1 at HE
  generalize h2:(pathGo x q (nmPth t)).2.1=r2
  generalize h3:(pathGo x q (nmPth t)).2.2=r3 at HE
  have HC:=hdn (fpath_is h1 h2 h3 HF.out (nm_lies HT.out))
  have HP:Hid ((pathGo x q (nmPth t)).2=(r2,r3)):=hdn (by rw[←h2,←h3])
  clear h1 h2 h3 he
  by_cases e3:r3=0
  ·subst e3
   have HE1:Hid (termE x q t=mustE (decide (r1= -1)) t.pos):=hdn (by rw[HE.out,if_pos rfl])
   clear HE
   unfold nmPth at HC
   unfold fptr at HC ⊢
   go_enter Tryz.func231,Tryz.ntmps231
   go_wp2_with fail
   generalize w.alloc (.cells (tmA t) 56)=wB at HA HK HF c0 c2 HC HW ⊢
   refine HC.out.mono ?_;rintro en w2 ⟨rfl,hb2⟩
   have HB2:Hid (Below w.heap.size w w2):=hdn (HA.out.trans (hb2.mono HA.out.size))
   replace c2:=(hb2.cell (p:=⟨w.heap.size,2,none⟩) HW.out).trans c2
   clear hb2 c0
   go_wp2_with (go_at_call 226;refine (must_any _ _ _).mono ?_;rintro en w3 ⟨rfl,rfl⟩)
   go_ret2
   exact ⟨by rw[HE1.out];rfl,HB2.out⟩
  ·have HE1:Hid (termE x q t=(r2,r3)):=hdn (by rw[HE.out,if_neg e3,HP.out])
   have hne:(r3==0)=false:=by simpa using e3
   have hne2:(r3 !=0)=true:=by simpa using e3
   clear HE
   unfold nmPth at HC
   unfold fptr at HC ⊢
   go_enter Tryz.func231,Tryz.ntmps231
   go_wp2_with fail
   generalize w.alloc (.cells (tmA t) 56)=wB at HA HK HF c0 c2 HC HW ⊢
   refine HC.out.mono ?_;rintro en w2 ⟨rfl,hb2⟩
   have HB2:Hid (Below w.heap.size w w2):=hdn (HA.out.trans (hb2.mono HA.out.size))
   clear hb2 c0
   go_wp2_with fail
   go_ret2
   exact ⟨by rw[HE1.out];rfl,HB2.out⟩
 ·have he':t.name.toList= []:=by cases hh:t.name.toList<;>simp_all
  have HE:Hid (termE x q t=(0,0)):=hdn (by unfold termE;rw[if_pos he])
  unfold fptr
  go_enter Tryz.func231,Tryz.ntmps231
  go_wp2_with fail
  go_ret2
  exact ⟨by rw[HE.out];rfl,HA.out⟩
end Sc
end Go.Proofs.YtcehbcnloiooaaaGreatDoor
namespace Go.Proofs.YtcehbcnloiooaaaGreatDoor
namespace Sc
open Go.RowKit Go.Sort Go.Maps
def vlOk (w:World) (v:Vl):Prop:=pthLies w v.path∧v.type.size≤maxLen∧v.left.name.size≤maxLen∧v.right.name.size≤maxLen
theorem vlOk_below {w w':World} {v:Vl} (h:vlOk w v) (hb:Below w.heap.size w w'):vlOk w' v:=⟨pthLies_below h.1 hb,h.2⟩
theorem fterms_any (x:Pg) (q:Pc) (v:Vl) (b o M F:Nat) (w:World) (hf:FrIs x q M F w) (hr:w.rangeAt b o (Vl.cells v)) (hv:vlOk w v):
  Calls Tryz.prog 230 #[fptr F,.pointer (some ⟨b,o,none⟩)] w (PPost (thenE (termE x q v.left) (termE x q v.right)) w):=by
 have HF:=hdn hf
 have HR:=hdn hr
 have HV:=hdn hv
 have HL:Hid (w.rangeAt b (o+6) (tmA v.left).toList):=hdn (rangeAt_sub hr 6 3 rfl)
 have HC1:=hdn (fterm_any x q v.left M F w hf hv.2.2.1)
 clear hf hr hv
 generalize termE x q v.left=e1 at HC1 ⊢
 by_cases h0:e1.2=0
 ·have HT:Hid (thenE e1 (termE x q v.right)=termE x q v.right):=hdn (by unfold thenE;rw[if_pos h0])
  have HX:Hid (∀w1,Below w.heap.size w w1→Calls Tryz.prog 231 #[fptr F,.agg (tmA v.right)] w1 (PPost (termE x q v.right) w1)):=hdn (fun w1 hb=>fterm_any x q v.right M F w1 (HF.out.keep hb) HV.out.2.2.2)
  unfold fptr at HC1 HX ⊢
  go_enter Tryz.func230,Tryz.ntmps230
  go_wp2_with (first |((with_reducible show wpList _ _ _ (Oper.mk (some 13) _ _ _ _ _::_) _ _);refine wpList_load_arr rfl 56 (.tmp 12) rfl b (o+6) rfl (tmA v.left) _ HL.out Tryz.underlying56 rfl size56 ?_))
  refine HC1.out.mono ?_;rintro en w1 ⟨rfl,hb1⟩
  have HB1:=hdn hb1
  have HR2:Hid (w1.rangeAt b (o+9) (tmA v.right).toList):=hdn (rangeAt_sub (rangeAt_below HR.out hb1) 9 3 rfl)
  clear hb1
  rw[h0]
  go_wp2_with (first |((with_reducible show wpList _ _ _ (Oper.mk (some 25) _ _ _ _ _::_) _ _);refine wpList_load_arr rfl 56 (.tmp 24) rfl b (o+9) rfl (tmA v.right) _ HR2.out Tryz.underlying56 rfl size56 ?_))
  refine (HX.out w1 HB1.out).mono ?_;rintro en w2 ⟨rfl,hb2⟩
  have HB2:=hdn hb2
  clear hb2
  go_wp2_with fail
  go_ret2
  exact ⟨by rw[HT.out];rfl,HB1.out.trans (HB2.out.mono HB1.out.size)⟩
 ·have HT:Hid (thenE e1 (termE x q v.right)=e1):=hdn (by unfold thenE;rw[if_neg h0])
  have hne:(e1.2==0)=false:=by simpa using h0
  have hne2:(e1.2 !=0)=true:=by simpa using h0
  unfold fptr at HC1 ⊢
  go_enter Tryz.func230,Tryz.ntmps230
  go_wp2_with (first |((with_reducible show wpList _ _ _ (Oper.mk (some 13) _ _ _ _ _::_) _ _);refine wpList_load_arr rfl 56 (.tmp 12) rfl b (o+6) rfl (tmA v.left) _ HL.out Tryz.underlying56 rfl size56 ?_))
  refine HC1.out.mono ?_;rintro en w1 ⟨rfl,hb1⟩
  have HB1:=hdn hb1
  clear hb1
  go_wp2_with fail
  go_ret2
  exact ⟨by rw[HT.out];rfl,HB1.out⟩
def SPost (r:Int×Int×Int) (w:World) (en:Ending) (w':World):Prop:=en= .returned (.tuple #[.int .i64 r.1,.int .i64 r.2.1,.int .i64 r.2.2])∧Below w.heap.size w w'
theorem fside_any (x:Pg) (q:Pc) (v:Vl) (b o M F:Nat) (w:World) (hf:FrIs x q M F w) (hr:w.rangeAt b o (Vl.cells v)) (hv:vlOk w v):
  Calls Tryz.prog 225 #[fptr F,.pointer (some ⟨b,o,none⟩)] w (SPost (sideGo x q v) w):=by
 have c0:=cell_at hr 0 _ rfl
 rw[Nat.add_zero] at c0
 have HR1:Hid (w.rangeAt b (o+2) (pthA v.path).toList):=hdn (rangeAt_sub hr 2 3 rfl)
 have HC:=hdn (fpath_any x q v.path M F w hf hv.1)
 clear hf hv hr
 by_cases k0:v.kind=0
 ·have HE:Hid (sideGo x q v=(-2,0,0)):=hdn (by unfold sideGo;rw[if_pos k0])
  rw[k0] at c0
  unfold fptr
  go_enter Tryz.func225,Tryz.ntmps225
  go_wp2_with fail
  exact bodyPost_ret (results_tmp3 rfl _ _ _) rfl ⟨by rw[HE.out];rfl,Below.refl _ _⟩
 ·by_cases k1:v.kind=1
  ·have HE:Hid (sideGo x q v=pathGo x q v.path):=hdn (by unfold sideGo;rw[if_neg k0,if_pos k1])
   rw[k1] at c0
   clear k0
   unfold fptr at HC ⊢
   go_enter Tryz.func225,Tryz.ntmps225
   go_wp2_with (first |((with_reducible show wpList _ _ _ (Oper.mk _ (Op.load 40 _) _ _ _ _::_) _ _);refine wpList_load_arr rfl 40 _ rfl b (o+2) rfl (pthA v.path) _ HR1.out Tryz.underlying40 rfl size40 ?_))
   refine HC.out.mono ?_;rintro en w2 ⟨rfl,hb2⟩
   have HB2:=hdn hb2
   clear hb2
   go_wp2_with fail
   exact bodyPost_ret (results_tmp3 rfl _ _ _) rfl ⟨by rw[HE.out];rfl,HB2.out⟩
  ·have HE:Hid (sideGo x q v=(-1,0,0)):=hdn (by unfold sideGo;rw[if_neg k0,if_neg k1])
   have q0:(v.kind==0)=false:=by simpa using k0
   have q1:(v.kind==1)=false:=by simpa using k1
   unfold fptr
   go_enter Tryz.func225,Tryz.ntmps225
   go_wp2_with fail
   exact bodyPost_ret (results_tmp3 rfl _ _ _) rfl ⟨by rw[HE.out];rfl,Below.refl _ _⟩
end Sc
end Go.Proofs.YtcehbcnloiooaaaGreatDoor
namespace Go.Proofs.YtcehbcnloiooaaaGreatDoor
namespace Sc
open Go.RowKit Go.Sort Go.Maps
theorem ffit_any (x:Pg) (q:Pc) (v:Vl) (k:Int) (b o M F:Nat) (w:World) (hf:FrIs x q M F w) (hr:w.rangeAt b o (Vl.cells v)) (hv:vlOk w v):
  Calls Tryz.prog 228 #[fptr F,.pointer (some ⟨b,o,none⟩),.int .i64 k] w (PPost (fitE x q v k) w):=by
 have HF:=hdn hf
 have HR:=hdn hr
 have HV:=hdn hv
 have c0:=cell_at hr 0 _ rfl
 rw[Nat.add_zero] at c0
 have c1:=cell_at hr 1 _ rfl
 clear hf hr hv
 by_cases k0:v.kind=0
 ·have HE:Hid (fitE x q v k=mustE (!decide (k= -1)) v.pos):=hdn (by unfold fitE;rw[if_pos k0])
  rw[k0] at c0
  unfold fptr
  go_enter Tryz.func228,Tryz.ntmps228
  go_wp2_with (go_at_call 226;refine (must_any _ _ _).mono ?_;rintro en w3 ⟨rfl,rfl⟩)
  go_ret2
  exact ⟨by rw[HE.out];rfl,Below.refl _ _⟩
 have q0:(v.kind==0)=false:=by simpa using k0
 by_cases k1:v.kind=1
 ·generalize h1:(pathGo x q v.path).1=r1
  generalize h2:(pathGo x q v.path).2.1=r2
  generalize h3:(pathGo x q v.path).2.2=r3
  have HC:=hdn (fpath_is h1 h2 h3 HF.out HV.out.1)
  have HE:Hid (fitE x q v k=if r3=0 then mustE (decide (r1=k)) v.pos else (r2,r3)):=hdn (by unfold fitE;rw[if_neg k0,if_pos k1,h1,h3,←h2,←h3])
  have HR1:Hid (w.rangeAt b (o+2) (pthA v.path).toList):=hdn (rangeAt_sub HR.out 2 3 rfl)
  rw[k1] at c0
  clear h1 h2 h3 k0 q0 c1
  by_cases e3:r3=0
  ·subst e3
   have HE1:Hid (fitE x q v k=mustE (decide (r1=k)) v.pos):=hdn (by rw[HE.out,if_pos rfl])
   unfold fptr at HC ⊢
   go_enter Tryz.func228,Tryz.ntmps228
   go_wp2_with (first |((with_reducible show wpList _ _ _ (Oper.mk _ (Op.load 40 _) _ _ _ _::_) _ _);refine wpList_load_arr rfl 40 _ rfl b (o+2) rfl (pthA v.path) _ HR1.out Tryz.underlying40 rfl size40 ?_))
   refine HC.out.mono ?_;rintro en w2 ⟨rfl,hb2⟩
   have HB2:=hdn hb2
   have c1:=cell_at (rangeAt_below HR.out hb2) 1 _ rfl
   clear hb2 c0
   go_wp2_with (go_at_call 226;refine (must_any _ _ _).mono ?_;rintro en w3 ⟨rfl,rfl⟩)
   go_ret2
   exact ⟨by rw[HE1.out];rfl,HB2.out⟩
  ·have HE1:Hid (fitE x q v k=(r2,r3)):=hdn (by rw[HE.out,if_neg e3])
   have hne:(r3==0)=false:=by simpa using e3
   have hne2:(r3 !=0)=true:=by simpa using e3
   unfold fptr at HC ⊢
   go_enter Tryz.func228,Tryz.ntmps228
   go_wp2_with (first |((with_reducible show wpList _ _ _ (Oper.mk _ (Op.load 40 _) _ _ _ _::_) _ _);refine wpList_load_arr rfl 40 _ rfl b (o+2) rfl (pthA v.path) _ HR1.out Tryz.underlying40 rfl size40 ?_))
   refine HC.out.mono ?_;rintro en w2 ⟨rfl,hb2⟩
   have HB2:=hdn hb2
   clear hb2 c0
   go_wp2_with fail
   go_ret2
   exact ⟨by rw[HE1.out];rfl,HB2.out⟩
 have q1:(v.kind==1)=false:=by simpa using k1
 by_cases k2:v.kind=2
 ·have HE:Hid (fitE x q v k=if isIn (sNames x.structs.l) v.type=true then mustE (decide (numOf (sNames x.structs.l) v.type=k)) v.pos else (v.pos,8)):=hdn (by unfold fitE;rw[if_neg k0,if_neg k1,if_pos k2])
  have f0:w.cell? ⟨F,0,none⟩=some (tptr M):=HF.out.bk.cell 0
  have c5:=cell_at HR.out 5 _ rfl
  have s0:=cell_regrown f0
  have s5:=cell_regrown c5
  have CC:=qb_call (wB:=w) (F:=80) (ar:= #[tptr M,.string v.type]) (v:= .tuple #[.int .i64 (numOf (sNames x.structs.l) v.type),.bool (isIn (sNames x.structs.l) v.type)]) (fun wr hb=>(tab_struct x v.type M wr (HF.out.tab.keep hb) HV.out.2.1).mono (fun en w' h=>by obtain ⟨h1,h2⟩:=h;subst h2;exact ⟨h1,Below.refl _ _⟩))
  generalize numOf (sNames x.structs.l) v.type=nm at CC HE
  rw[k2] at c0
  clear k0 k1 q0 q1
  cases hin:isIn (sNames x.structs.l) v.type
  ·have HE1:Hid (fitE x q v k=(v.pos,8)):=hdn (by rw[HE.out,hin];rfl)
   rw[hin] at CC
   unfold fptr
   go_enter Tryz.func228,Tryz.ntmps228
   go_wp2_with fail
   refine wp_region_quiet_below (by kernel_rfl) (by kernel_rfl) ?_
   repeat (go_big_quiet_step (with_reducible exact CC _ _))
   refine wpQuiet_nil ?_
   intro _ hw'
   obtain ⟨⟨dq,osq⟩,hw''⟩:=hw'
   subst hw''
   have HB3:=hdn (below_regrown w dq osq)
   generalize grow (redrawn w dq) osq=w3 at HB3 ⊢
   have d1:=cell_at (rangeAt_below HR.out HB3.out) 1 _ rfl
   clear c0 c1 s0 s5 CC f0 c5
   go_wp2_with fail
   go_ret2
   exact ⟨by rw[HE1.out];rfl,HB3.out⟩
  ·have HE1:Hid (fitE x q v k=mustE (decide (nm=k)) v.pos):=hdn (by rw[HE.out,hin];rfl)
   rw[hin] at CC
   unfold fptr
   go_enter Tryz.func228,Tryz.ntmps228
   go_wp2_with fail
   refine wp_region_quiet_below (by kernel_rfl) (by kernel_rfl) ?_
   repeat (go_big_quiet_step (with_reducible exact CC _ _))
   refine wpQuiet_nil ?_
   intro _ hw'
   obtain ⟨⟨dq,osq⟩,hw''⟩:=hw'
   subst hw''
   have HB3:=hdn (below_regrown w dq osq)
   generalize grow (redrawn w dq) osq=w3 at HB3 ⊢
   have d1:=cell_at (rangeAt_below HR.out HB3.out) 1 _ rfl
   clear c0 c1 s0 s5 CC f0 c5
   go_wp2_with (go_at_call 226;refine (must_any _ _ _).mono ?_;rintro en w4 ⟨rfl,rfl⟩)
   go_ret2
   exact ⟨by rw[HE1.out];rfl,HB3.out⟩
 have q2:(v.kind==2)=false:=by simpa using k2
 by_cases hk:k= -1
 ·subst hk
  have HE:Hid (fitE x q v (-1)=if v.kind=5∨v.kind=6 then thenE (termE x q v.left) (termE x q v.right) else (0,0)):=hdn (by unfold fitE;rw[if_neg k0,if_neg k1,if_neg k2,if_pos rfl])
  have HC:=hdn (fterms_any x q v b o M F w HF.out HR.out HV.out)
  generalize thenE (termE x q v.left) (termE x q v.right)=r at HC HE
  by_cases k5:v.kind=5
  ·have HE1:Hid (fitE x q v (-1)=r):=hdn (by rw[HE.out,if_pos (.inl k5)])
   clear k0 k1 k2 q0 q1 q2
   rw[k5] at c0
   unfold fptr at HC ⊢
   go_enter Tryz.func228,Tryz.ntmps228
   go_wp2_with (go_at_call 230;refine HC.out.mono ?_;rintro en w2 ⟨rfl,hb2⟩;have HB2:=hdn hb2;clear hb2)
   go_ret2
   exact ⟨by rw[HE1.out];rfl,HB2.out⟩
  ·have q5:(v.kind==5)=false:=by simpa using k5
   by_cases k6:v.kind=6
   ·have HE1:Hid (fitE x q v (-1)=r):=hdn (by rw[HE.out,if_pos (.inr k6)])
    clear k0 k1 k2 q0 q1 q2 k5 q5
    rw[k6] at c0
    unfold fptr at HC ⊢
    go_enter Tryz.func228,Tryz.ntmps228
    go_wp2_with (go_at_call 230;refine HC.out.mono ?_;rintro en w2 ⟨rfl,hb2⟩;have HB2:=hdn hb2;clear hb2)
    go_ret2
    exact ⟨by rw[HE1.out];rfl,HB2.out⟩
   ·have q6:(v.kind==6)=false:=by simpa using k6
    have HE1:Hid (fitE x q v (-1)=(0,0)):=hdn (by rw[HE.out,if_neg (by omega)])
    unfold fptr
    go_enter Tryz.func228,Tryz.ntmps228
    go_wp2_with fail
    go_ret2
    exact ⟨by rw[HE1.out];rfl,Below.refl _ _⟩
 ·have HE:Hid (fitE x q v k=(v.pos,9)):=hdn (by unfold fitE;rw[if_neg k0,if_neg k1,if_neg k2,if_neg hk])
  have hk1:(k== -1)=false:=by simpa using hk
  have hk2:(k != -1)=true:=by simpa using hk
  unfold fptr
  go_enter Tryz.func228,Tryz.ntmps228
  go_wp2_with fail
  go_ret2
  exact ⟨by rw[HE.out];rfl,Below.refl _ _⟩
end Sc
end Go.Proofs.YtcehbcnloiooaaaGreatDoor
