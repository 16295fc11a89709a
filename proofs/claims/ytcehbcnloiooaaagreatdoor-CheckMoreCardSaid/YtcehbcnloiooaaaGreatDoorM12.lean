/-
  The printer: procedures, programs. Plain: what is read is no longer, sign by sign, than some ten times the text that it was read from. Plain: how long the printed text is; the least size of its signs. The printer's least size. least at the page's procedure. The page's example: print.Program, Right, 
-/
import Derived.Test.YtcehbcnloiooaaaGreatDoorM11
import Derived.Test.YtcehbcnloiooaaaGreatDoorM08
import Derived.Test.YtcehbcnloiooaaaGreatDoorM09
import Derived.Test.YtcehbcnloiooaaaGreatDoorM07
import Derived.Test.YtcehbcnloiooaaaGreatDoorM05
import Derived.Test.YtcehbcnloiooaaaGreatDoorM10
import Derived.Test.YtcehbcnloiooaaaGreatDoorM06
set_option maxHeartbeats 6400000
set_option maxRecDepth 100000
namespace Go.Proofs.YtcehbcnloiooaaaGreatDoor
open Go.RowKit Go.Sort
theorem procX_any (x:Pc) (q o:Nat) (w0:World) (B:Bx) (b:Nat) (T:List UInt8) (w:World) (hG:Gp w0) (hr:w0.rangeAt q o x.cells) (hl:pcLies w0 x) (h:PrS w0 B b T 0 w) (ok:Pn.okProc x=true) (ta:x.params.l.length≤8010) (tt:Pn.tight 8010 x.body) (hdp:Pn.dp x.body≤20) (hT:T.length+(Pn.pcT x).length≤100000000000):
  Calls Tryz.prog 93 #[.pointer (some ⟨b,0,none⟩),.pointer (some ⟨q,o,none⟩)] w fun e w'=>e= .returned (.tuple #[])∧PrS w0 B b (T++Pn.pcT x) 0 w':=by
 unfold Pn.okProc at ok
 simp only[Bool.and_eq_true,List.all_eq_true] at ok
 obtain ⟨⟨⟨o1,o2⟩,o3⟩,o4⟩:=ok
 have hs:=(Pn.okN_nameB o1).1
 have HRW:Hid (∀w' T' d',PrS w0 B b T' d' w'→w'.rangeAt q o x.cells):=hdn (fun w' T' d' h'=>rangeAt_below hr h'.2.1)
 have HC:Hid (∀w' T' d',PrS w0 B b T' d' w'→w'.cell? ⟨q,o,none⟩=some (.string x.name)∧w'.cell? ⟨q,o+3,none⟩=some (.slice x.params.p x.params.l.length x.params.cap)∧w'.cell? ⟨q,o+4,none⟩=some (.slice x.locals_.p x.locals_.l.length x.locals_.cap)∧w'.cell? ⟨q,o+5,none⟩=some (.slice x.bp x.body.len x.bc)):=hdn (fun w' T' d' h'=>⟨cell_at (HRW.out _ _ _ h') 0 _ rfl,cell_at (HRW.out _ _ _ h') 3 _ rfl,cell_at (HRW.out _ _ _ h') 4 _ rfl,cell_at (HRW.out _ _ _ h') 5 _ rfl⟩)
 have CC:Hid (∀w',PrS w0 B b T 0 w'→Calls Tryz.prog 122 #[.slice x.params.p x.params.l.length x.params.cap,.func (.func 121) #[] #[]] w' fun e w''=>e= .returned (.string (bt (Pn.commaT Pn.declT x.params.l)))∧PrS w0 B b T 0 w''):=hdn (fun w' h'=>
  (commasD_any x.params.l x.params.p x.params.cap w' (Lay.of_sl (R:=triv) (slLies_below hl.1 h'.2.1 (fun _ h=>h)) (by decide)) o2 ta).mono fun e w'' ⟨he,hb⟩=>⟨he,h'.below hb⟩)
 have s2:(bt (Pn.commaT Pn.declT x.params.l)).size≤10000000:=by
  have:=Pn.comma_len (f:=Pn.declT) (B:=40) x.params.l (fun a ha=>decl_len (o2 a ha))
  rw[bt_size];omega
 obtain ⟨T1,hT1⟩: ∃T1,T1=T++(Pn.tVoid++32::(Pn.txt x.name++40::(Pn.commaT Pn.declT x.params.l++ [41,32,123,10]))):=⟨_,rfl⟩
 obtain ⟨T2,hT2⟩: ∃T2,T2=T1++Pn.fieldsT 1 x.locals_.l []:=⟨_,rfl⟩
 obtain ⟨T3,hT3⟩: ∃T3,T3=T2++Pn.linesT x.body 1:=⟨_,rfl⟩
 have e9:T++Pn.pcT x=T3++ [125,10]:=by rw[hT3,hT2,hT1];unfold Pn.pcT;simp
 have l9:T3.length+2=T.length+(Pn.pcT x).length:=by
  have:=congrArg List.length e9
  simp only[List.length_append,List.length_cons,List.length_nil] at this ⊢
  omega
 have l3:T2.length+(Pn.linesT x.body 1).length=T3.length:=by rw[hT3,List.length_append]
 have l2:T1.length+(Pn.fieldsT 1 x.locals_.l []).length=T2.length:=by rw[hT2,List.length_append]
 have l1:T.length≤T1.length:=by rw[hT1,List.length_append];omega
 have CB:Hid (∀w',PrS w0 B b T 0 w'→Calls Tryz.prog 118 #[.pointer (some ⟨b,0,none⟩),.string ((⟨#[118,111,105,100,32]⟩:ByteArray)++x.name++⟨#[40]⟩++bt (Pn.commaT Pn.declT x.params.l)++⟨#[41,32]⟩)] w' fun e w''=>e= .returned (.tuple #[])∧PrS w0 B b T1 1 w''):=hdn (fun w' h'=>by
  refine (beginX _ w' h' (by omega) (by omega) (by rw[sizeApp,sizeApp,sizeApp,sizeApp,show (⟨#[118,111,105,100,32]⟩:ByteArray).size=5 from rfl,show (⟨#[40]⟩:ByteArray).size=1 from rfl,show (⟨#[41,32]⟩:ByteArray).size=2 from rfl];omega)).mono fun e w'' ⟨he,h1⟩=>⟨he,h1.eq ?_⟩
  rw[hT1];simp[bt,Pn.pad,Pn.tVoid,Pn.txt])
 have CD:Hid (∀w',PrS w0 B b T1 1 w'→Calls Tryz.prog 90 #[.slice x.locals_.p x.locals_.l.length x.locals_.cap,.func (.func 91) #[.pointer (some ⟨b,0,none⟩)] #[]] w' fun e w''=>e= .returned (.tuple #[])∧PrS w0 B b T2 1 w''):=hdn (fun w' h'=>by
  rw[hT2]
  exact eachDc_any x.locals_.l x.locals_.p x.locals_.cap w0 B b T1 1 w' hG (Lay.of_sl (R:=triv) hl.2.1 (by decide)) h' o3 (by decide) (by omega))
 have CS:Hid (∀w',PrS w0 B b T2 1 w'→Calls Tryz.prog 123 #[.slice x.bp x.body.len x.bc,.func (.func 124) #[.pointer (some ⟨b,0,none⟩)] #[]] w' fun e w''=>e= .returned (.tuple #[])∧PrS w0 B b T3 1 w''):=hdn (fun w' h'=>by
  rw[hT3]
  exact eachSt_E x.body x.bp x.bc w0 B b T2 1 w' hG hl.2.2 h' o4 tt (by omega) (by omega))
 have CF:Hid (∀w',PrS w0 B b T3 1 w'→Calls Tryz.prog 119 #[.pointer (some ⟨b,0,none⟩)] w' fun e w''=>e= .returned (.tuple #[])∧PrS w0 B b (T++Pn.pcT x) 0 w''):=hdn (fun w' h'=>by
  refine (endX (d:=0) w' h' (by decide) (by omega)).mono fun e w'' ⟨he,h1⟩=>⟨he,h1.eq ?_⟩
  rw[e9];rfl)
 have HD:=hdn (fun n=>h.drew n)
 obtain ⟨c0,c3,_,_⟩:=HC.out w _ _ h
 clear hG hr hl h o1 o2 o3 o4 ta tt hdp hT hT1 hT2 hT3 e9 l9 l3 l2 l1
 generalize bt (Pn.commaT Pn.declT x.params.l)=tc at*
 go_enter Tryz.func93,Tryz.ntmps93
 go_wp2_with fail
 go_region_with (first |(go_at_call 122;refine (CC.out _ (HD.out _)).mono ?_;rintro e w1 ⟨rfl,h1⟩;have HPS:=hdn h1;have d0:=(HC.out _ _ _ h1).1;clear h1)|(go_at_call 118;refine (CB.out _ HPS.out).mono ?_;rintro e w2 ⟨rfl,h2⟩;have HP2:=hdn h2;clear h2))
 all_goals
  obtain ⟨_,_,r4,r5⟩:=HC.out _ _ _ HP2.out
  go_wp2_with (first |(go_at_call 90;refine (CD.out _ HP2.out).mono ?_;rintro e w3 ⟨rfl,h3⟩;have HP3:=hdn h3;have t5:=(HC.out _ _ _ h3).2.2.2;clear h3)|(go_at_call 123;refine (CS.out _ HP3.out).mono ?_;rintro e w4 ⟨rfl,h4⟩;have HP4:=hdn h4;clear h4)|(go_at_call 119;refine (CF.out _ HP4.out).mono ?_;rintro e w5 ⟨rfl,h5⟩;have HP5:=hdn h5;clear h5))
  go_end0
  exact ⟨rfl,HP5.out⟩
theorem eachPc_any (l:List Pc) (p:Option Addr) (c:Nat) (w0:World) (B:Bx) (b:Nat) (T:List UInt8) (w:World) (hG:Gp w0) (h1:Lay 6 Pc.cells pcLies w0 p l) (h:PrS w0 B b T 0 w) (ho: ∀x∈l,Pn.okProc x=true) (hx: ∀x∈l,x.params.l.length≤8010∧Pn.tight 8010 x.body∧Pn.dp x.body≤20) (hT:T.length+(Pn.procsT l).length≤100000000000):
  Calls Tryz.prog 92 #[.slice p l.length c,.func (.func 93) #[.pointer (some ⟨b,0,none⟩)] #[]] w fun e w'=>e= .returned (.tuple #[])∧PrS w0 B b (T++Pn.procsT l) 0 w':=by
 obtain ⟨hl,h1⟩:=h1
 have H1:=hdn h1;have HO:=hdn ho;have HG:=hdn hG;have HP0:=hdn h;have HT:=hdn hT;have HX:=hdn hx
 clear h1 ho hG h hT hx
 have hcl:=enters47
 go_enter Tryz.func92,Tryz.ntmps92
 go_wp2_with fail
 go_loopw [7] (fun i wr=> ∃n:Nat,n≤l.length∧i= .int .i64 n∧Hid (PrS w0 B b (T++Pn.procsT (l.take n)) 0 wr)) (fun i _=>l.length-(intOf i).toNat)
 case atStart=>exact ⟨0,Nat.zero_le _,rfl,hdn (by rw[List.take_zero,show Pn.procsT []= [] from rfl,List.append_nil];exact HP0.out)⟩
 case round=>
  obtain ⟨n,hn,rfl,HP⟩:=hrel
  by_cases hnl:n<l.length
  ·obtain ⟨b1,o1,rfl,hx⟩: ∃b o,p=some ⟨b,o,none⟩∧∀k x,l[k]? =some x→w0.rangeAt b (o+k*6) (Pc.cells x)∧pcLies w0 x:=by
    rcases H1.out with h |h
    ·rw[h] at hnl;simp at hnl
    ·exact h
   have hxn:=hx n l[n] (List.getElem?_eq_getElem hnl)
   have hok:=HO.out l[n] (List.getElem_mem hnl)
   have e:=Pn.take_snoc l n hnl
   have hbd:=HX.out l[n] (List.getElem_mem hnl)
   have hlen:=Pn.procs_part l (n+1)
   rw[e,Pn.procsT_snoc,List.length_append] at hlen
   have HC:Hid (Calls Tryz.prog 93 #[.pointer (some ⟨b,0,none⟩),.pointer (some ⟨b1,o1+n*6,none⟩)] wr fun en w'=>en= .returned (.tuple #[])∧PrS w0 B b (T++Pn.procsT (l.take (n+1))) 0 w'):=hdn (by
    refine (procX_any l[n] b1 (o1+n*6) w0 B b _ wr HG.out hxn.1 hxn.2 HP.out hok hbd.1 hbd.2.1 hbd.2.2 (by rw[List.length_append];have:=HT.out;omega)).mono fun en w' ⟨he,h1⟩=>⟨he,h1.eq ?_⟩
    rw[e,Pn.procsT_snoc,List.append_assoc])
   clear hlen hbd
   have hn0:(0:Int)≤(n:Int):=Int.natCast_nonneg _
   have hn1:(n:Int)<(l.length:Int):=by omega
   clear hx hxn hok e
   go_wp2_with fail
   refine HC.out.mono ?_;rintro en w1 ⟨rfl,h1⟩
   have HP1:=hdn h1
   clear h1
   go_wp2_with fail
   go_roundw
   case rel=>exact ⟨n+1,by omega,by go_num,HP1⟩
   case measure=>simp[intOf];omega
  ·obtain rfl:n=l.length:=by omega
   have HF:Hid (PrS w0 B b (T++Pn.procsT l) 0 wr):=hdn (by have:=HP.out;rwa[List.take_length] at this)
   have hc1: ¬((l.length:Int)<(l.length:Int)):=by omega
   go_wp2_with fail
   go_end0
   exact ⟨rfl,HF.out⟩
theorem programX_any (y:Pg) (w0:World) (n b:Nat) (w:World) (hG:Gp w0) (hl:pgLies w0 y) (hP:Pb n b [] 0 w) (hw:Below w0.heap.size w0 w) (hn0:w0.heap.size≤n) (hnw:n≤w.heap.size) (hb:w.heap.size=b+1) (ho:Pn.right y=true) (ht:Pn.tightP 8010 y):
  Calls Tryz.prog 70 #[.pointer (some ⟨b,0,none⟩),.agg #[.slice y.structs.p y.structs.l.length y.structs.cap,.slice y.globals.p y.globals.l.length y.globals.cap,.slice y.procs.p y.procs.l.length y.procs.cap]] w fun e w'=>e= .returned (.tuple #[])∧Pb n b (Pn.progT y) 0 w'∧Below w0.heap.size w0 w'∧n≤w'.heap.size:=by
 have hlen:=Pn.prog_tlen ho ht
 have h2:=Pn.progT_eq y
 unfold Pn.right Pn.okProg at ho
 simp only[Bool.and_eq_true,List.all_eq_true,decide_eq_true_eq] at ho
 obtain ⟨⟨⟨⟨o1,o2⟩,o3⟩,o4⟩,o5⟩:=ho
 obtain ⟨⟨t1,t2⟩,t3,t4,t5⟩:=ht
 obtain ⟨cs,hcs⟩: ∃cs,cs=(#[.slice y.structs.p y.structs.l.length y.structs.cap,.slice y.globals.p y.globals.l.length y.globals.cap,.slice y.procs.p y.procs.l.length y.procs.cap]:Array Value):=⟨_,rfl⟩
 obtain ⟨wA,hwA⟩: ∃wA:World,wA=w.alloc (.cells cs 26):=⟨_,rfl⟩
 have HBA:Hid (Below w.heap.size w wA):=hdn (by rw[hwA];exact (Below.refl _ _).alloc (Nat.le_refl _) _)
 have HKA:Hid (Bk wA w.heap.size 26 cs):=hdn (by rw[hwA];exact heap_alloc_new _ _)
 have HPA:Hid (PrS w0 ⟨n,cs⟩ b [] 0 wA):=hdn ⟨hP.below HBA.out,hw.trans (HBA.out.mono hw.size),hn0,Nat.le_trans hnw HBA.out.size,by rw[←hb];exact HKA.out⟩
 obtain ⟨T1,hT1⟩: ∃T1,T1=Pn.structsT y.structs.l []:=⟨_,rfl⟩
 obtain ⟨T2,hT2⟩: ∃T2,T2=T1++Pn.fieldsT 0 y.globals.l []:=⟨_,rfl⟩
 have e3:T2++Pn.procsT y.procs.l=Pn.progT y:=by rw[h2,hT2,hT1,List.append_assoc]
 have l3:T2.length+(Pn.procsT y.procs.l).length=(Pn.progT y).length:=by rw[←e3,List.length_append]
 have l2:T1.length+(Pn.fieldsT 0 y.globals.l []).length=T2.length:=by rw[hT2,List.length_append]
 have CS:Hid (Calls Tryz.prog 88 #[.slice y.structs.p y.structs.l.length y.structs.cap,.func (.func 89) #[.pointer (some ⟨b,0,none⟩)] #[]] wA fun e w'=>e= .returned (.tuple #[])∧PrS w0 ⟨n,cs⟩ b T1 0 w'):=hdn (by
  have:=eachSr_any y.structs.l y.structs.p y.structs.cap w0 ⟨n,cs⟩ b [] wA hG (Lay.of_sl (R:=fun w (x:Sr)=>declsLie w x.fields) hl.1 (by decide)) HPA.out o1 (by rw[List.length_nil,←hT1];omega)
  rwa[List.nil_append,←hT1] at this)
 have CD:Hid (∀w',PrS w0 ⟨n,cs⟩ b T1 0 w'→Calls Tryz.prog 90 #[.slice y.globals.p y.globals.l.length y.globals.cap,.func (.func 91) #[.pointer (some ⟨b,0,none⟩)] #[]] w' fun e w''=>e= .returned (.tuple #[])∧PrS w0 ⟨n,cs⟩ b T2 0 w''):=hdn (fun w' h'=>by
  rw[hT2]
  exact eachDc_any y.globals.l y.globals.p y.globals.cap w0 ⟨n,cs⟩ b T1 0 w' hG (Lay.of_sl (R:=triv) hl.2.1 (by decide)) h' o2 (by decide) (by omega))
 have CP:Hid (∀w',PrS w0 ⟨n,cs⟩ b T2 0 w'→Calls Tryz.prog 92 #[.slice y.procs.p y.procs.l.length y.procs.cap,.func (.func 93) #[.pointer (some ⟨b,0,none⟩)] #[]] w' fun e w''=>e= .returned (.tuple #[])∧PrS w0 ⟨n,cs⟩ b (Pn.progT y) 0 w''):=hdn (fun w' h'=>by
  rw[←e3]
  exact eachPc_any y.procs.l y.procs.p y.procs.cap w0 ⟨n,cs⟩ b T2 w' hG (Lay.of_sl (R:=pcLies) hl.2.2 (by decide)) h' o3 (fun x hx=>⟨(t5 x hx).1,(t5 x hx).2.2,o4 x hx⟩) (by omega))
 have HCC:Hid (∀w' T',PrS w0 ⟨n,cs⟩ b T' 0 w'→w'.cell? ⟨w.heap.size,0,none⟩=some (.slice y.structs.p y.structs.l.length y.structs.cap)∧w'.cell? ⟨w.heap.size,1,none⟩=some (.slice y.globals.p y.globals.l.length y.globals.cap)∧w'.cell? ⟨w.heap.size,2,none⟩=some (.slice y.procs.p y.procs.l.length y.procs.cap)):=hdn (fun w' T' h'=>by
  have hk:=h'.2.2.2.2
  rw[←hb,hcs] at hk
  exact ⟨hk.cell 0,hk.cell 1,hk.cell 2⟩)
 obtain ⟨c0,_,_⟩:=HCC.out _ _ HPA.out
 clear hG hl hP hw hn0 hnw hlen h2 o1 o2 o3 o4 o5 t1 t2 t3 t4 t5 hT1 hT2 e3 l3 l2 hb
 rw[←hcs]
 have HCS:=hdn hcs
 clear hcs
 go_enter Tryz.func70,Tryz.ntmps70
 go_upto_region 1 with fail
 rw[←hwA]
 clear hwA
 obtain ⟨A,hA⟩: ∃A,A=w.heap.size:=⟨_,rfl⟩
 rw[←hA] at c0 HCC ⊢
 clear hA
 go_wp2_with (first |(go_at_call 88;refine CS.out.mono ?_;rintro e w1 ⟨rfl,h1⟩;have HP1:=hdn h1;have c1:=(HCC.out _ _ h1).2.1;clear h1)|(go_at_call 90;refine (CD.out _ HP1.out).mono ?_;rintro e w2 ⟨rfl,h2⟩;have HP2:=hdn h2;have c2:=(HCC.out _ _ h2).2.2;clear h2)|(go_at_call 92;refine (CP.out _ HP2.out).mono ?_;rintro e w3 ⟨rfl,h3⟩;have HP3:=hdn h3;clear h3))
 go_end0
 exact ⟨rfl,HP3.out.1,HP3.out.2.1,HP3.out.2.2.2.1⟩
end Go.Proofs.YtcehbcnloiooaaaGreatDoor
namespace Go.Proofs.YtcehbcnloiooaaaGreatDoor
namespace Pn
open Pr (th St Res th_ok)
def cK (k:K):Nat:=k.2.1.length+1
def cs:List K→Nat
 | []=>0
 |k::l=>cK k+cs l
theorem cs_app: ∀a b:List K,cs (a++b)=cs a+cs b
 | [],b=>by simp[cs]
 |k::a,b=>by simp only[List.cons_append,cs,cs_app a b];omega
theorem cs_cons (k:K) (l:List K):cs (k::l)=cK k+cs l:=rfl
theorem cK_mk (a:List UInt8):cK (mk a)=a.length+1:=rfl
theorem cK_ky (a:List UInt8):cK (ky a)=a.length+1:=rfl
theorem cK_nm (x:ByteArray):cK (nm x)=x.size+1:=by show (txt x).length+1=_;rw[show (txt x).length=x.size from Tx.len_eq x]
def wt (t:List Pr.Tk):Nat→Nat
 |0=>0
 |n+1=>wt t n+10*(Pr.sg t n).text.size
def Gz (t:List Pr.Tk):Prop:= ∀i,(Pr.sg t i).kind=2→1≤(Pr.sg t i).text.size
theorem size_is {t:List Pr.Tk} {i:Nat} {s:ByteArray} (h:Pr.is t i s=true):(Pr.sg t i).text.size=s.size:=by
 unfold Pr.is at h
 rw[Lib.toList_data,Lib.toList_data,beq_iff_eq] at h
 rw[←Tx.len_eq,h,Tx.len_eq]
section
variable {t:List Pr.Tk}
theorem go_wt (u:St):wt t u.go.i=wt t u.i+10*(Pr.sg t u.i).text.size:=rfl
theorem must_wt {s:ByteArray} {u v:St} {x:Pr.Tk} (h:Pr.must t s u= .ok (x,v)):wt t v.i=wt t u.i+10*s.size:=by
 obtain ⟨h1,rfl⟩:=Pr.must_is h
 rw[go_wt,size_is h1]
theorem hopsK_snoc: ∀(l:List Hp) (h:Hp),hopsK (l++ [h])=hopsK l++ [mk [45,62],nm h.name]
 | [],h=>rfl
 |x::l,h=>by simp only[List.cons_append,hopsK,hopsK_snoc l h,List.append_assoc]
def cl {α:Type} (f:α→List K):List α→Nat
 | []=>0
 |a::l=>cs (f a)+2+cl f l
theorem cl_snoc {α:Type} (f:α→List K): ∀(l:List α) (a:α),cl f (l++ [a])=cl f l+(cs (f a)+2)
 | [],a=>by simp[cl]
 |x::l,a=>by simp only[List.cons_append,cl,cl_snoc f l a];omega
theorem comma_cl {α:Type} (f:α→List K): ∀l:List α,cs (commaK f l)≤cl f l
 | []=>Nat.le_refl _
 | [a]=>by simp only[commaK,cl];omega
 |a::b::l=>by
  have:=comma_cl f (b::l)
  simp only[commaK,cl] at this ⊢
  rw[cs_app]
  simp only[cs,cK_mk,List.length_cons,List.length_nil]
  omega
theorem cs_stK (h:Hd) (a e k:List K):cs (stK h a e k)=cs (stK h a e [])+cs k:=by
 rw[←List.nil_append k,←stK_app,cs_app,List.nil_append]
theorem fieldsK_snoc: ∀(l:List Dc) (d:Dc) (k:List K),fieldsK (l++ [d]) k=fieldsK l (declK d++mk [59]::k)
 | [],d,k=>rfl
 |x::l,d,k=>by simp only[List.cons_append,fieldsK,fieldsK_snoc l d k]
theorem cs_fields (l:List Dc) (k:List K):cs (fieldsK l k)=cs (fieldsK l [])+cs k:=by
 rw[←List.nil_append k,←fieldsK_app,cs_app,List.nil_append]
theorem cs_fields_snoc (l:List Dc) (d:Dc):cs (fieldsK (l++ [d]) [])=cs (fieldsK l [])+(cs (declK d)+2):=by
 rw[fieldsK_snoc,cs_fields,cs_app];rfl
theorem cs_structs: ∀(l:List Sr) (k:List K),cs (structsK l k)=cs (structsK l [])+cs k:=fun l k=>by
 rw[←List.nil_append k,←structsK_app,cs_app,List.nil_append]
theorem structsK_snoc: ∀(l:List Sr) (x:Sr) (k:List K),structsK (l++ [x]) k=structsK l (structsK [x] k)
 | [],x,k=>rfl
 |y::l,x,k=>by
  show ky tStruct::nm y.name::mk [123]::fieldsK y.fields.l (mk [125]::structsK (l++ [x]) k)=_
  rw[structsK_snoc l x k];rfl
theorem cs_structs_snoc (l:List Sr) (x:Sr):cs (structsK (l++ [x]) [])=cs (structsK l [])+cs (structsK [x] []):=by
 rw[structsK_snoc,cs_structs]
def cp (ss:List Sr) (gs:List Dc) (ps:List Pc):Nat:=cs (structsK ss [])+cs (fieldsK gs [])+cs (procsK ps)
theorem cs_progK (p:Pg):cs (progK p)=cp p.structs.l p.globals.l p.procs.l:=by
 unfold progK cp
 rw[cs_structs,cs_fields];omega
end
def sz:List Tx.Sg→Nat
 | []=>0
 |a::l=>a.text.size+sz l
theorem nx_span (s:ByteArray) (i:Nat):i+(Tx.nx s i).sg.text.size≤(Tx.nx s i).stop:=by
 have h:=Tx.nx_list s i
 have h1:=Tx.skp_ge s i
 rw[h]
 show i+(s.extract (Tx.skp s i) (Tx.skp s i+(Tx.tokL (s.data.toList.drop (Tx.skp s i))).len)).size≤Tx.skp s i+(Tx.tokL (s.data.toList.drop (Tx.skp s i))).len
 rw[ByteArray.size_extract]
 omega
theorem chain_sz: ∀(l:List Tx.Sg) (s:ByteArray) (i:Nat),i≤s.size→Tx.Chain s i l→i+sz l≤s.size
 | [],s,i,hi,h=>h.elim
 |a::l,s,i,hi,h=>by
  obtain ⟨_,rfl,h1⟩:=h
  have k1:=nx_span s i
  have k2:=Tx.nx_stop_le s i hi
  simp only[sz]
  rcases h1 with ⟨_,rfl⟩|⟨_,hc⟩
  ·simp only[sz];omega
  ·have:=chain_sz l s _ k2 hc
   omega
end Pn
end Go.Proofs.YtcehbcnloiooaaaGreatDoor
namespace Go.Proofs.YtcehbcnloiooaaaGreatDoor
namespace Pn
theorem ln_nm (x:ByteArray):(txt x).length=x.size:=Tx.len_eq x
theorem ln_hops: ∀l:List Hp,(hopsT l).length≤cs (hopsK l)
 | []=>Nat.le_refl _
 |h::l=>by
  have:=ln_hops l
  simp only[hopsT,hopsK,List.length_append,cs_app,cs,cK_mk,cK_nm,List.length_cons,List.length_nil,ln_nm]
  omega
theorem ln_path (w:Pth):(pathT w).length+1≤cs (pathK w):=by
 have:=ln_hops w.hops.l
 simp only[pathT,pathK,List.length_append,cs_app,cs,cK_nm,ln_nm]
 omega
theorem ln_term (t:Tm):(termT t).length+1≤cs (termK t):=by
 unfold termT termK
 by_cases h:txt t.name= []
 ·rw[if_pos h,if_pos h]
  show _≤(Tx.digits t.n.toNat).length+1+0
  omega
 ·rw[if_neg h,if_neg h]
  show _≤cK (nm t.name)+0
  rw[cK_nm,ln_nm];omega
theorem ln_val {v:Vl} (_:okVal v=true):(valT v).length+1≤cs (valK v):=by
 unfold valT valK
 by_cases h0:v.kind=0
 ·rw[if_pos h0,if_pos h0];decide
 rw[if_neg h0,if_neg h0]
 by_cases h1:v.kind=1
 ·rw[if_pos h1,if_pos h1];exact ln_path _
 rw[if_neg h1,if_neg h1]
 by_cases h2:v.kind=2
 ·rw[if_pos h2,if_pos h2]
  simp only[cs,cK_nm,cK_ky,tNew,List.length_append,List.length_cons,List.length_nil,ln_nm]
  omega
 rw[if_neg h2,if_neg h2]
 by_cases h3:v.kind=3
 ·rw[if_pos h3,if_pos h3];decide
 rw[if_neg h3,if_neg h3]
 by_cases h4:v.kind=4
 ·rw[if_pos h4,if_pos h4]
  show _≤(Tx.digits v.left.n.toNat).length+1+0
  omega
 rw[if_neg h4,if_neg h4]
 have a:=ln_term v.left
 have b:=ln_term v.right
 by_cases h5:v.kind=5
 ·rw[if_pos h5,if_pos h5]
  simp only[cs_app,cs,cK_mk,List.length_append,List.length_cons,List.length_nil]
  omega
 ·rw[if_neg h5,if_neg h5]
  simp only[cs_app,cs,cK_mk,List.length_append,List.length_cons,List.length_nil]
  omega
theorem ln_cond {c:Cd} (h:okCond c=true):(condT c).length≤cs (condK c):=by
 unfold okCond at h
 unfold condT condK
 by_cases h0:c.kind=0
 ·rw[if_pos h0,if_pos h0];decide
 rw[if_neg h0] at h
 rw[if_neg h0,if_neg h0]
 simp only[Bool.and_eq_true,okSide] at h
 have a:=ln_val h.1.2.1
 have b:=ln_val h.2.1
 simp only[cs_app,cs,cK_mk,List.length_append,List.length_cons,List.length_nil]
 omega
theorem ln_comma {α:Type} {f:α→List UInt8} {g:α→List K}: ∀l:List α,(∀a∈l,(f a).length≤cs (g a))→(commaT f l).length≤cs (commaK g l)
 | [],_=>Nat.le_refl _
 | [a],h=>h a List.mem_cons_self
 |a::b::l,h=>by
  have h1:=h a List.mem_cons_self
  have h2:=ln_comma (b::l) fun x hx=>h x (List.mem_cons_of_mem _ hx)
  simp only[commaT,commaK,List.length_append,cs_app,cs,cK_mk,List.length_cons,List.length_nil] at h2 ⊢
  omega
theorem ln_decl {d:Dc}:(declT d).length≤cs (declK d):=by
 unfold declT declK
 by_cases h0:txt d.type= []
 ·rw[if_pos h0,if_pos h0]
  simp only[cs,cK_nm,cK_ky,tInt,List.length_append,List.length_cons,List.length_nil,ln_nm]
  omega
 ·rw[if_neg h0,if_neg h0]
  simp only[cs,cK_nm,cK_mk,List.length_append,List.length_cons,List.length_nil,ln_nm]
  omega
theorem ln_stmt {h:Hd} {t0 e0:Bool} {t e:List UInt8} {tk ek:List K} {d:Nat} (ho:okStmt h t0 e0=true) (hd:d≤24) (ht:t.length≤50*cs tk) (he:e.length≤50*cs ek):
  (pad d++stT h t e d []).length≤50*cs (stK h tk ek []):=by
 have hp:=pad_len d
 rw[List.length_append,hp]
 unfold okStmt at ho
 by_cases h0:h.kind=0
 ·rw[st0 h0];unfold stK;rw[if_pos h0]
  simp only[cs,cK_mk,List.length_cons,List.length_nil];omega
 rw[if_neg h0] at ho
 by_cases h1:h.kind=1
 ·rw[if_pos h1] at ho
  simp only[Bool.and_eq_true] at ho
  have a:=ln_path h.place
  have b:=ln_val ho.1.1.1.1.1.2
  rw[st1 h1];unfold stK;rw[if_neg h0,if_pos h1]
  simp only[cs,cs_app,cK_mk,List.length_append,List.length_cons,List.length_nil];omega
 rw[if_neg h1] at ho
 by_cases h2:h.kind=2
 ·have a:=ln_path h.place
  rw[st2 h2];unfold stK;rw[if_neg h0,if_neg h1,if_pos h2]
  simp only[cs,cs_app,cK_mk,cK_ky,tFree,List.length_append,List.length_cons,List.length_nil];omega
 rw[if_neg h2] at ho
 by_cases h3:h.kind=3
 ·rw[if_pos h3] at ho
  simp only[Bool.and_eq_true] at ho
  have a:=ln_comma (f:=valT) (g:=valK) h.args.l (fun y hy=>by
   have:=List.all_eq_true.1 ho.1.1.1.1.1.1.1 y hy
   unfold okSide at this
   simp only[Bool.and_eq_true] at this
   have:=ln_val this.1
   omega)
  rw[st3 h3];unfold stK;rw[if_neg h0,if_neg h1,if_neg h2,if_pos h3]
  simp only[cs,cs_app,cK_mk,cK_nm,List.length_append,List.length_cons,List.length_nil,ln_nm];omega
 rw[if_neg h3] at ho
 by_cases h4:h.kind=4
 ·rw[if_pos h4] at ho
  simp only[Bool.and_eq_true] at ho
  have a:=ln_cond ho.1.1.2
  unfold stK;rw[if_neg h0,if_neg h1,if_neg h2,if_neg h3,if_pos h4]
  cases hb:h.both with
  |true=>
   rw[st4b h4 hb,if_pos rfl]
   simp only[cs,cs_app,cK_mk,cK_ky,tIf,tElse,List.length_append,List.length_cons,List.length_nil,hp];omega
  |false=>
   rw[st4 h4 hb,if_neg (by decide)]
   simp only[cs,cs_app,cK_mk,cK_ky,tIf,List.length_append,List.length_cons,List.length_nil,hp];omega
 rw[if_neg h4] at ho
 by_cases h5:h.kind=5
 ·rw[if_pos h5] at ho
  simp only[Bool.and_eq_true] at ho
  have a:=ln_cond ho.1.1.1.2
  rw[st5 h5];unfold stK;rw[if_neg h0,if_neg h1,if_neg h2,if_neg h3,if_neg h4,if_pos h5]
  simp only[cs,cs_app,cK_mk,cK_ky,tWhile,List.length_append,List.length_cons,List.length_nil,hp];omega
 rw[if_neg h5] at ho
 by_cases h6:h.kind=6
 ·rw[st6 (by omega)];unfold stK;rw[if_neg h0,if_neg h1,if_neg h2,if_neg h3,if_neg h4,if_neg h5]
  simp only[cs,cs_app,cK_mk,List.length_append,List.length_cons,List.length_nil,hp];omega
 rw[if_neg h6] at ho;cases ho
theorem dp_kind {h:Hd} {t e:SL} (ho:okStmt h (isNil t) (isNil e)=true) (hk: ¬4≤h.kind):t= .nil∧e= .nil:=by
 unfold okStmt at ho
 by_cases h0:h.kind=0
 ·rw[if_pos h0] at ho;simp only[Bool.and_eq_true] at ho;exact ⟨nil_of ho.1.1.2,nil_of ho.1.2⟩
 rw[if_neg h0] at ho
 by_cases h1:h.kind=1
 ·rw[if_pos h1] at ho;simp only[Bool.and_eq_true] at ho;exact ⟨nil_of ho.1.1.2,nil_of ho.1.2⟩
 rw[if_neg h1] at ho
 by_cases h2:h.kind=2
 ·rw[if_pos h2] at ho;simp only[Bool.and_eq_true] at ho;exact ⟨nil_of ho.1.1.2,nil_of ho.1.2⟩
 rw[if_neg h2] at ho
 by_cases h3:h.kind=3
 ·rw[if_pos h3] at ho;simp only[Bool.and_eq_true] at ho;exact ⟨nil_of ho.1.1.2,nil_of ho.1.2⟩
 rw[if_neg h3,if_neg (by omega),if_neg (by omega),if_neg (by omega)] at ho
 cases ho
theorem ln_lines: ∀(l:SL) (d:Nat),okList l=true→(d:Int)+dp l≤24→(linesT l d).length≤50*cs (linesK l)
 |.nil,_,_,_=>Nat.zero_le _
 |.cons h _ _ t _ _ e r,d,ho,hd=>by
  simp only[okList,Bool.and_eq_true] at ho
  simp only[dp] at hd
  have n1:=dp_nn t;have n2:=dp_nn e;have n3:=dp_nn r
  have lr:=ln_lines r d ho.2 (by omega)
  have hte:(linesT t (d+1)).length≤50*cs (linesK t)∧(linesT e (d+1)).length≤50*cs (linesK e):=by
   by_cases hk:4≤h.kind
   ·rw[if_pos hk] at hd
    exact ⟨ln_lines t (d+1) ho.1.1.2 (by omega),ln_lines e (d+1) ho.1.2 (by omega)⟩
   ·obtain ⟨rfl,rfl⟩:=dp_kind ho.1.1.1 hk
    exact ⟨Nat.zero_le _,Nat.zero_le _⟩
  have hs:=ln_stmt (d:=d) ho.1.1.1 (by omega) hte.1 hte.2
  show (pad d++stT h (linesT t (d+1)) (linesT e (d+1)) d (linesT r d)).length≤50*cs (stK h (linesK t) (linesK e) (linesK r))
  rw[stT_app,←List.append_assoc,List.length_append,cs_stK]
  omega
theorem ln_fields (d:Nat) (hd:d≤1): ∀l:List Dc,(fieldsT d l []).length≤50*cs (fieldsK l [])
 | []=>Nat.zero_le _
 |x::l=>by
  have h1:=ln_fields d hd l
  have h2:= @ln_decl x
  have hp:=pad_len d
  show (pad d++(declT x++59::10::fieldsT d l [])).length≤50*cs (declK x++mk [59]::fieldsK l [])
  simp only[cs,cs_app,cK_mk,List.length_append,List.length_cons,List.length_nil,hp]
  omega
theorem ln_structs: ∀l:List Sr,(structsT l []).length≤50*cs (structsK l [])
 | []=>Nat.zero_le _
 |x::l=>by
  have h1:=ln_structs l
  have h2:=ln_fields 1 (by decide) x.fields.l
  show (tStruct++32::(txt x.name++32::123::10::fieldsT 1 x.fields.l (125::10::structsT l []))).length≤50*cs (ky tStruct::nm x.name::mk [123]::fieldsK x.fields.l (mk [125]::structsK l []))
  rw[fieldsT_app,show cs (ky tStruct::nm x.name::mk [123]::fieldsK x.fields.l (mk [125]::structsK l []))=cK (ky tStruct)+(cK (nm x.name)+(cK (mk [123])+cs (fieldsK x.fields.l (mk [125]::structsK l [])))) from rfl,cs_fields]
  simp only[cs,cK_mk,cK_ky,cK_nm,tStruct,List.length_append,List.length_cons,List.length_nil,ln_nm]
  omega
theorem ln_procs: ∀l:List Pc,(∀x∈l,okProc x=true∧dp x.body≤20)→(procsT l).length≤50*cs (procsK l)
 | [],_=>Nat.zero_le _
 |x::l,h=>by
  have h1:=ln_procs l fun y hy=>h y (List.mem_cons_of_mem _ hy)
  obtain ⟨ho,hd⟩:=h x List.mem_cons_self
  unfold okProc at ho
  simp only[Bool.and_eq_true,List.all_eq_true] at ho
  have h2:=ln_comma (f:=declT) (g:=declK) x.params.l (fun y _=>ln_decl)
  have h3:=ln_fields 1 (by decide) x.locals_.l
  have h4:=ln_lines x.body 1 ho.2 (by omega)
  show (tVoid++32::(txt x.name++40::(commaT declT x.params.l++41::32::123::10::fieldsT 1 x.locals_.l (linesT x.body 1++125::10::procsT l)))).length≤50*cs (ky tVoid::nm x.name::mk [40]::(commaK declK x.params.l++mk [41]::mk [123]::fieldsK x.locals_.l (linesK x.body++mk [125]::procsK l)))
  rw[fieldsT_app]
  simp only[cs,cs_app]
  rw[cs_fields]
  simp only[cs,cs_app,cK_mk,cK_ky,cK_nm,tVoid,List.length_append,List.length_cons,List.length_nil,ln_nm]
  omega
theorem ln_prog {p:Pg} (h:right p=true):(progT p).length≤50*cs (progK p):=by
 unfold right okProg at h
 simp only[Bool.and_eq_true,List.all_eq_true,decide_eq_true_eq] at h
 have h1:=ln_structs p.structs.l
 have h2:=ln_fields 0 (by decide) p.globals.l
 have h3:=ln_procs p.procs.l (fun x hx=>⟨h.1.1.2 x hx,h.1.2 x hx⟩)
 rw[progT_eq,cs_progK]
 unfold cp
 simp only[List.length_append]
 omega
def lsum:Bool→List Tx.Sg→Nat
 |_,[]=>0
 |b,a::l=>if a.kind=0 then 0 else (if b=true∧a.kind≠4 then 1 else 0)+a.text.size+lsum (decide (a.kind≠4)) l
theorem lsum_cs: ∀(l:List Tx.Sg) (b:Bool),lsum b l≤cs (l.map Tx.key)
 | [],_=>Nat.le_refl _
 |a::l,b=>by
  have:=lsum_cs l (decide (a.kind≠4))
  have e:cK (Tx.key a)=a.text.size+1:=by show (a.text.data.toList).length+1=_;rw[Tx.len_eq]
  simp only[List.map_cons,cs,lsum,e]
  split
  ·omega
  ·split<;>omega
theorem prog_chain {p:Pg} (h:okProg p=true) {t:ByteArray} (ht:t.data.toList=progT p): ∃m,Tx.Chain t 0 m∧m.map Tx.key=progK p++ [(0,[],0)]:=by
 obtain ⟨k,h1,h2⟩:=(lx_prog h) t 0 [] trivial (by rw[ht];simp)
 have hk:t.size≤k:=by
  have:=congrArg List.length h2
  rw[List.length_drop,Tx.len_eq] at this;simp at this;omega
 have hnx:Tx.nx t k=Tx.An.bad k 0:=by unfold Tx.nx;rw[Tx.skp_end t k hk,(by unfold Tx.tok;rw[dif_neg (by omega)]:Tx.tok t k=Tx.An.bad k 0)]
 obtain ⟨m,c,e⟩:=h1.chain (by rw[hnx];rfl) (by rw[hnx];rfl)
 refine ⟨m,c, ?_⟩
 rw[e,hnx];rfl
end Pn
end Go.Proofs.YtcehbcnloiooaaaGreatDoor
namespace Go.Proofs.YtcehbcnloiooaaaGreatDoor
open Go.RowKit Go.Sort
theorem least_any (t:ByteArray) (m:List Tx.Sg) (w:World) (hc:Tx.Chain t 0 m) (hg:Gl w) (hs:t.size≤5000000) (ht:Pn.lsum false m≤1000000):
  Calls Tryz.prog 72 #[.string t] w fun e w'=>e= .returned (.int .i64 (Pn.lsum false m:Nat))∧Below w.heap.size w w':=by
 have HG:=hdn hg;have HC:=hdn hc
 obtain ⟨tot,htot⟩: ∃tot,tot=Pn.lsum false m:=⟨_,rfl⟩
 have HTOT:=hdn htot
 rw[←htot] at ht ⊢
 clear hg hc htot
 go_enter Tryz.func72,Tryz.ntmps72
 go_wp2_with fail
 go_loopw [3,4,5] (fun s d a wr=> ∃(sum at_:Nat) (b:Bool) (rest:List Tx.Sg),s= .int .i64 sum∧d= .bool b∧a= .int .i64 at_∧Hid (Tx.Chain t at_ rest)∧at_≤t.size∧Hid (sum+Pn.lsum b rest=tot)∧Hid (Below w.heap.size w wr)) (fun _ _ a _=>t.size+1-(intOf a).toNat)
 case atStart=>exact ⟨0,0,false,m,rfl,rfl,rfl,HC,Nat.zero_le _,hdn (by rw[HTOT.out];omega),hdn (Below.refl _ _)⟩
 case round=>
  obtain ⟨sum,at_,b,rest,rfl,rfl,rfl,HCH,hat,HS,HB⟩:=hrel
  cases rest with
  |nil=>exact HCH.out.elim
  |cons a l=>
   have hch:=HCH.out
   obtain ⟨he,ha,hr⟩:=hch
   have CN0:=next_any t (at_:Nat) wr hs (HG.out.below HB.out HG.out.two)
   rw[held_of t at_ hat,he] at CN0
   have hstop:=Tx.nx_stop_le t at_ hat
   have hadv:=fun h=>Tx.nx_adv t at_ he h
   have hspan:=Pn.nx_span t at_
   rw[ha] at CN0 hadv hspan
   have hls:=HS.out
   simp only[Pn.lsum] at hls
   obtain ⟨kk,hkk⟩: ∃kk,kk=a.kind:=⟨_,rfl⟩
   obtain ⟨ps,hps⟩: ∃ps,ps=a.pos:=⟨_,rfl⟩
   obtain ⟨tx,htx⟩: ∃tx,tx=a.text:=⟨_,rfl⟩
   obtain ⟨nn,hnn⟩: ∃nn,nn=a.num:=⟨_,rfl⟩
   obtain ⟨st,hst⟩: ∃st,st=(Tx.nx t at_).stop:=⟨_,rfl⟩
   rw[←hkk,←hps,←htx,←hnn,←hst] at CN0
   rw[←hkk] at hr hadv hls
   rw[←hst] at hr hadv hstop hspan
   rw[←htx] at hls hspan
   have CN:=hdn CN0
   clear CN0 he ha hkk hps htx hnn hst
   by_cases k0:kk=0
   ·subst k0
    rw[if_pos rfl] at hls
    have hse:sum=tot:=by omega
    clear hr hadv hls
    go_wp2_with (go_at_call 94;refine CN.out.mono ?_;rintro en w1 ⟨rfl,hb⟩;have HB1:=hdn (HB.out.trans (hb.mono HB.out.size));have HB2:=hdn (HB1.out.alloc HB1.out.size (.cells #[.int .i64 0,.int .i64 ps,.string tx,.int .i64 nn] 178));clear hb)
    go_ret
    exact ⟨rfl,HB2.out⟩
   ·rw[if_neg k0] at hls
    have hr2:=(hr.resolve_left (fun h=>k0 h.1)).2
    have HR2:=hdn hr2
    have hadv2:=hadv k0
    clear hr hadv hr2
    by_cases k4:kk=4
    ·subst k4
     rw[if_neg (by simp),show decide ((4:Int)≠4)=false from rfl] at hls
     have HS1:Hid (sum+tx.size+Pn.lsum false l=tot):=hdn (by omega)
     have hsb:sum+tx.size≤1000000:=by omega
     clear hls
     cases b
     ·go_wp2_with (go_at_call 94;refine CN.out.mono ?_;rintro en w1 ⟨rfl,hb⟩;have HB1:=hdn (HB.out.trans (hb.mono HB.out.size));have HB2:=hdn (HB1.out.alloc HB1.out.size (.cells #[.int .i64 4,.int .i64 ps,.string tx,.int .i64 nn] 178));clear hb)
      go_roundw
      case rel=>exact ⟨sum+tx.size,st,false,l,by go_num,rfl,rfl,HR2,hstop,HS1,HB2⟩
      case measure=>simp[intOf];omega
     ·go_wp2_with (go_at_call 94;refine CN.out.mono ?_;rintro en w1 ⟨rfl,hb⟩;have HB1:=hdn (HB.out.trans (hb.mono HB.out.size));have HB2:=hdn (HB1.out.alloc HB1.out.size (.cells #[.int .i64 4,.int .i64 ps,.string tx,.int .i64 nn] 178));clear hb)
      go_roundw
      case rel=>exact ⟨sum+tx.size,st,false,l,by go_num,rfl,rfl,HR2,hstop,HS1,HB2⟩
      case measure=>simp[intOf];omega
    ·rw[show decide (kk≠4)=true from decide_eq_true k4] at hls
     have k4':(kk !=4)=true:=by simp[k4]
     cases b
     ·rw[if_neg (by simp)] at hls
      have HS1:Hid (sum+tx.size+Pn.lsum true l=tot):=hdn (by omega)
      have hsb:sum+tx.size≤1000000:=by omega
      clear hls
      go_wp2_with (go_at_call 94;refine CN.out.mono ?_;rintro en w1 ⟨rfl,hb⟩;have HB1:=hdn (HB.out.trans (hb.mono HB.out.size));have HB2:=hdn (HB1.out.alloc HB1.out.size (.cells #[.int .i64 kk,.int .i64 ps,.string tx,.int .i64 nn] 178));clear hb)
      go_roundw
      case rel=>exact ⟨sum+tx.size,st,true,l,by go_num,rfl,rfl,HR2,hstop,HS1,HB2⟩
      case measure=>simp[intOf];omega
     ·rw[if_pos ⟨rfl,k4⟩] at hls
      have HS1:Hid (sum+1+tx.size+Pn.lsum true l=tot):=hdn (by omega)
      have hsb:sum+1+tx.size≤1000000:=by omega
      clear hls
      go_wp2_with (go_at_call 94;refine CN.out.mono ?_;rintro en w1 ⟨rfl,hb⟩;have HB1:=hdn (HB.out.trans (hb.mono HB.out.size));have HB2:=hdn (HB1.out.alloc HB1.out.size (.cells #[.int .i64 kk,.int .i64 ps,.string tx,.int .i64 nn] 178));clear hb)
      go_roundw
      case rel=>exact ⟨sum+1+tx.size,st,true,l,by go_num,rfl,rfl,HR2,hstop,HS1,HB2⟩
      case measure=>simp[intOf];omega
end Go.Proofs.YtcehbcnloiooaaaGreatDoor
namespace Go.Proofs.YtcehbcnloiooaaaGreatDoor
open Go.RowKit Go.Sort
def tPB:ByteArray:=⟨tProg.toArray⟩
theorem nx2:Tx.nx tPB (held tPB 6)=⟨⟨4,6,⟨#[40]⟩,0⟩,7,0⟩:=by kernel_rfl
theorem cn2 (w:World) (hg:Gl w):Calls Tryz.prog 94 #[.string tPB,.int .i64 6] w fun e w'=>e= .returned (.tuple #[.agg #[.int .i64 4,.int .i64 6,.string ⟨#[40]⟩,.int .i64 0],.int .i64 7,.int .i64 0])∧Below w.heap.size w w':=by
 have:=next_any tPB 6 w (by decide) hg
 rw[nx2] at this
 exact this
end Go.Proofs.YtcehbcnloiooaaaGreatDoor
namespace Go.Proofs.YtcehbcnloiooaaaGreatDoor
open Go.RowKit Go.Sort
theorem Pb.new (w:World):Pb w.heap.size w.heap.size [] 0 (w.alloc (.cells #[.pointer none,.slice none 0 0,.int .i64 0] 149)):=
 .inl ⟨Nat.le_refl _,.slice none 0 0,heap_alloc_new _ _,⟨rfl,.inl ⟨rfl,rfl⟩⟩,by intro e;cases e⟩
end Go.Proofs.YtcehbcnloiooaaaGreatDoor
namespace Go.Proofs.YtcehbcnloiooaaaGreatDoor
open Go.RowKit Go.Sort
theorem size26:(Tryz.prog.info? 26).map (·.size)=some 3:=by kernel_rfl
theorem string_empty (B b:Nat) (op:Int) (w:World) (h:Pb B b [] op w) (hBw:B≤w.heap.size):
  Calls Tryz.prog 71 #[.pointer (some ⟨b,0,none⟩)] w fun e w'=>e= .returned (.string ⟨#[]⟩)∧Below B w w':=by
 have hUS: ∀(W:World) (q:Option Addr),(Builtin.unsafeString_ #[177,3] 9 #[.pointer q,.int .i64 0]).run Tryz.prog W= .ok (.string .empty) W:=fun W q=>Lib.run_unsafeString_none W _ _ _ q
 obtain ⟨p,hB,v,hbk,hown,hne⟩: ∃p,PbA B b [] op p w:=by
  rcases h with h |h
  ·exact ⟨_,h⟩
  ·exact ⟨_,h⟩
 clear h
 rcases hown.2 with ⟨rfl,_⟩|⟨g,cap,cur,rfl,hbg,hg,_,_,_,_⟩
 ·have c1:w.drew.cell? ⟨b,1,none⟩=some (.slice none 0 0):=by
   have:w.drew.heap[b]? =some (.cells #[p,.slice none 0 0,.int .i64 op] 149 (0,0)):=hbk
   exact cell_of_row _ _ 1 _ _ _ this
  have hSD:(Builtin.unsafeSliceData_ #[145] 177 #[.slice none 0 0]).run Tryz.prog w.drew= .ok (.pointer none) w.drew:=rfl
  clear hown hne
  go_enter Tryz.func71,Tryz.ntmps71
  go_wp2
  go_region
  all_goals (go_wp2;go_ret;exact ⟨rfl,Below.drew (Below.refl B w)⟩)
 ·have hlt:b<w.heap.size:=(Array.getElem?_eq_some_iff.1 hbk).1
  clear hown hne
  by_cases hc0:cap=0
  ·subst hc0
   have c1:w.drew.cell? ⟨b,1,none⟩=some (.slice (some ⟨g,0,none⟩) 0 0):=by
    have:w.drew.heap[b]? =some (.cells #[p,.slice (some ⟨g,0,none⟩) 0 0,.int .i64 op] 149 (0,0)):=hbk
    exact cell_of_row _ _ 1 _ _ _ this
   have hSD:(Builtin.unsafeSliceData_ #[145] 177 #[.slice (some ⟨g,0,none⟩) 0 0]).run Tryz.prog w.drew= .ok (.pointer (some ⟨w.drew.heap.size,0,none⟩)) (w.drew.alloc (.view ⟨g,0,none⟩ 5)):=
    Lib.run_unsafeSliceData_zero w.drew _ _ 5 Tryz.underlying177 ⟨g,0,none⟩ 0 (5,cur.size) (by have hg':w.drew.heap[g]? =some (.cells cur 5 (0,0)):=hg;simp[World.shape?,hg'])
   have c2:(w.drew.alloc (.view ⟨g,0,none⟩ 5)).cell? ⟨b,1,none⟩=some (.slice (some ⟨g,0,none⟩) 0 0):=by
    have:(w.drew.alloc (.view ⟨g,0,none⟩ 5)).heap[b]? =_:=(Lib.alloc_old w.drew _ b hlt).trans hbk
    exact cell_of_row _ _ 1 _ _ _ this
   have c3:(w.alloc (.view ⟨g,0,none⟩ 5)).drew.cell? ⟨b,1,none⟩=some (.slice (some ⟨g,0,none⟩) 0 0):=c2
   have c0:w.cell? ⟨b,1,none⟩=some (.slice (some ⟨g,0,none⟩) 0 0):=c1
   go_enter Tryz.func71,Tryz.ntmps71
   go_wp2
   go_region
   all_goals (go_wp2;go_ret;exact ⟨rfl,(Below.drew (Below.refl B w)).alloc hBw _⟩)
  ·have c1:w.drew.cell? ⟨b,1,none⟩=some (.slice (some ⟨g,0,none⟩) 0 cap):=by
    have:w.drew.heap[b]? =some (.cells #[p,.slice (some ⟨g,0,none⟩) 0 cap,.int .i64 op] 149 (0,0)):=hbk
    exact cell_of_row _ _ 1 _ _ _ this
   have hSD:(Builtin.unsafeSliceData_ #[145] 177 #[.slice (some ⟨g,0,none⟩) 0 cap]).run Tryz.prog w.drew= .ok (.pointer (some ⟨g,0,none⟩)) w.drew:=
    Lib.run_unsafeSliceData_row _ _ _ _ _ _ hc0
   clear hc0
   go_enter Tryz.func71,Tryz.ntmps71
   go_wp2
   go_region
   all_goals (go_wp2;go_ret;exact ⟨rfl,Below.drew (Below.refl B w)⟩)
theorem stringX (B b:Nat) (l:List UInt8) (op:Int) (w:World) (h:Pb B b l op w) (hBw:B≤w.heap.size):
  Calls Tryz.prog 71 #[.pointer (some ⟨b,0,none⟩)] w fun e w'=>e= .returned (.string (bt l))∧Below B w w':=by
 by_cases h0:l= []
 ·subst h0;exact string_empty B b op w h hBw
 ·exact string_any B b l op w h h0
theorem printP_any (y:Pg) (w:World) (hG:Gp w) (hl:pgLies w y) (ho:Pn.right y=true) (ht:Pn.tightP 8010 y) (hz:Pn.cs (Pn.progK y)≤65000):
  Calls Tryz.prog 44 #[.agg #[.slice y.structs.p y.structs.l.length y.structs.cap,.slice y.globals.p y.globals.l.length y.globals.cap,.slice y.procs.p y.procs.l.length y.procs.cap]] w fun e w'=>e= .returned (.tuple #[.string (bt (Pn.progT y)),.int .i64 0])∧Below w.heap.size w w':=by
 obtain ⟨m,hm1,hm2⟩:=Pn.prog_chain (p:=y) (by unfold Pn.right at ho;simp only[Bool.and_eq_true] at ho;exact ho.1.1) (t:=bt (Pn.progT y)) rfl
 have hls:Pn.lsum false m≤65001:=by
  have h1:=Pn.lsum_cs m false
  rw[hm2,Pn.cs_app] at h1
  have h2:Pn.cs [((0:Int),([]:List UInt8),(0:Int))]=1:=rfl
  omega
 have hts:(bt (Pn.progT y)).size≤5000000:=by
  have:=Pn.ln_prog ho
  rw[bt_size];omega
 have HG:=hdn hG;have HL:=hdn hl;have HO:=hdn ho;have HT:=hdn ht;have HM:=hdn hm1
 obtain ⟨cs,hcs⟩: ∃cs,cs=(#[.slice y.structs.p y.structs.l.length y.structs.cap,.slice y.globals.p y.globals.l.length y.globals.cap,.slice y.procs.p y.procs.l.length y.procs.cap]:Array Value):=⟨_,rfl⟩
 have HCS:=hdn hcs
 obtain ⟨wA,hwA⟩: ∃wA:World,wA=w.alloc (.cells cs 26):=⟨_,rfl⟩
 have HBA:Hid (Below w.heap.size w wA):=hdn (by rw[hwA];exact (Below.refl _ _).alloc (Nat.le_refl _) _)
 have HKA:Hid (Bk wA w.heap.size 26 cs):=hdn (by rw[hwA];exact heap_alloc_new _ _)
 have HSI:Hid ((Tryz.prog.info? 26).map (·.size)=some cs.size):=hdn (by rw[hcs];exact size26)
 have CH:Hid (∀w',Below w.heap.size w w'→Calls Tryz.prog 69 #[.agg cs] w' fun e w''=>e= .returned (.bool true)∧Below w'.heap.size w' w''):=hdn (fun w' hb=>by
  rw[HCS.out];exact hasForm_any y w' (HG.out.gl.below hb HG.out.gl.two) (pgLies_below HL.out hb) HO.out)
 clear hG hl ho ht hz hm1 hm2
 rw[←hcs]
 clear hcs
 go_enter Tryz.func44,Tryz.ntmps44
 go_upto_region 1 with fail
 rw[←hwA]
 clear hwA
 obtain ⟨A,hA⟩: ∃A,A=w.heap.size:=⟨_,rfl⟩
 rw[←hA] at HKA ⊢
 have HA:=hdn hA
 clear hA
 go_upto_region 3 with (first |((with_reducible show wpList _ _ _ (Oper.mk (some 6) _ _ _ _ _::_) _ _);refine wpList_load_bk rfl 26 (.tmp 1) rfl A 26 cs rfl _ HKA.out Tryz.underlying26 rfl HSI.out ?_)|(go_at_call 69;refine (CH.out _ HBA.out).mono ?_;rintro e w1 ⟨rfl,hb⟩;have HB1:=hdn hb;clear hb))
 obtain ⟨wB,hwB⟩: ∃wB:World,wB=w1.alloc (.cells #[.pointer none,.slice none 0 0,.int .i64 0] 149):=⟨_,rfl⟩
 have HP0:Hid (Pb w1.heap.size w1.heap.size [] 0 wB):=hdn (by rw[hwB];exact Pb.new w1)
 have HBB:Hid (Below w1.heap.size w1 wB):=hdn (by rw[hwB];exact (Below.refl _ _).alloc (Nat.le_refl _) _)
 have HSB:Hid (wB.heap.size=w1.heap.size+1):=hdn (by rw[hwB];simp)
 have HBW:Hid (Below w.heap.size w w1):=hdn (HBA.out.trans (HB1.out.mono HBA.out.size))
 have HBX:Hid (Below w.heap.size w wB):=hdn (HBW.out.trans (HBB.out.mono HBW.out.size))
 have HK1:Hid (Bk wB A 26 cs):=hdn ((HKA.out.below HB1.out HKA.out.lt).below HBB.out (HKA.out.below HB1.out HKA.out.lt).lt)
 go_upto_region 4 with fail
 rw[←hwB]
 clear hwB
 obtain ⟨b,hb0⟩: ∃b,b=w1.heap.size:=⟨_,rfl⟩
 have CP:Hid (Calls Tryz.prog 70 #[.pointer (some ⟨w1.heap.size,0,none⟩),.agg cs] wB fun e w'=>e= .returned (.tuple #[])∧Pb w1.heap.size w1.heap.size (Pn.progT y) 0 w'∧Below w.heap.size w w'∧w1.heap.size≤w'.heap.size):=hdn (by
  rw[HCS.out]
  exact programX_any y w w1.heap.size w1.heap.size wB HG.out HL.out HP0.out HBX.out HBW.out.size HBB.out.size HSB.out HO.out HT.out)
 have HSZ:=hdn HBW.out.size
 have HS:Hid (∀w',Pb w1.heap.size w1.heap.size (Pn.progT y) 0 w'→w1.heap.size≤w'.heap.size→Calls Tryz.prog 71 #[.pointer (some ⟨w1.heap.size,0,none⟩)] w' fun e w''=>e= .returned (.string (bt (Pn.progT y)))∧Below w1.heap.size w' w''):=hdn (fun w' h hs=>stringX _ _ _ 0 w' h hs)
 have HLE:Hid (∀w',Below w.heap.size w w'→Calls Tryz.prog 72 #[.string (bt (Pn.progT y))] w' fun e w''=>e= .returned (.int .i64 (Pn.lsum false m:Nat))∧Below w'.heap.size w' w''):=hdn (fun w' hb=>least_any _ m w' HM.out (HG.out.gl.below hb HG.out.gl.two) hts (by omega))
 rw[←hb0] at CP HS HSZ ⊢
 clear hb0 hts
 have hl2:((Pn.lsum false m:Nat):Int)≤65536:=by omega
 generalize (Pn.lsum false m:Nat)=ls at*
 obtain ⟨tx,htx⟩: ∃tx,tx=bt (Pn.progT y):=⟨_,rfl⟩
 rw[←htx] at HS HLE
 have HTX:=hdn htx
 clear htx
 go_wp2_with (first |((with_reducible show wpList _ _ _ (Oper.mk (some 12) _ _ _ _ _::_) _ _);refine wpList_load_bk rfl 26 (.tmp 1) rfl A 26 cs rfl _ HK1.out Tryz.underlying26 rfl HSI.out ?_)|(go_at_call 70;refine CP.out.mono ?_;rintro e w2 ⟨rfl,h2,hb,hs2⟩;have HP2:=hdn h2;have HB2:=hdn hb;have HS2:=hdn hs2;clear h2 hb hs2)|(go_at_call 71;refine (HS.out _ HP2.out HS2.out).mono ?_;rintro e w3 ⟨rfl,hb⟩;have HB3:=hdn (HB2.out.trans (hb.mono HSZ.out));clear hb)|(go_at_call 72;refine (HLE.out _ HB3.out).mono ?_;rintro e w4 ⟨rfl,hb⟩;have HB4:=hdn (HB3.out.trans (hb.mono HB3.out.size));clear hb))
 refine bodyPost_ret (results_tmp2 rfl _ _ _) rfl ?_
 exact ⟨by rw[←HTX.out];rfl,HB4.out⟩
theorem rightX_any (y:Pg) (w:World) (hG:Gp w) (hl:pgLies w y) (ho:Pn.right y=true) (ht:Pn.tightP 8010 y) (hz:Pn.cs (Pn.progK y)≤65000):
  Calls Tryz.prog 18 #[.agg #[.slice y.structs.p y.structs.l.length y.structs.cap,.slice y.globals.p y.globals.l.length y.globals.cap,.slice y.procs.p y.procs.l.length y.procs.cap]] w fun e w'=>e= .returned (.bool true)∧Below w.heap.size w w':=by
 obtain ⟨cs,hcs⟩: ∃cs,cs=(#[.slice y.structs.p y.structs.l.length y.structs.cap,.slice y.globals.p y.globals.l.length y.globals.cap,.slice y.procs.p y.procs.l.length y.procs.cap]:Array Value):=⟨_,rfl⟩
 obtain ⟨wA,hwA⟩: ∃wA:World,wA=w.alloc (.cells cs 26):=⟨_,rfl⟩
 have HBA:Hid (Below w.heap.size w wA):=hdn (by rw[hwA];exact (Below.refl _ _).alloc (Nat.le_refl _) _)
 have HKA:Hid (Bk wA w.heap.size 26 cs):=hdn (by rw[hwA];exact heap_alloc_new _ _)
 have HSI:Hid ((Tryz.prog.info? 26).map (·.size)=some cs.size):=hdn (by rw[hcs];exact size26)
 have CP:Hid (Calls Tryz.prog 44 #[.agg cs] wA fun e w'=>e= .returned (.tuple #[.string (bt (Pn.progT y)),.int .i64 0])∧Below wA.heap.size wA w'):=hdn (by
  rw[hcs];exact printP_any y wA (hG.go HBA.out) (pgLies_below hl HBA.out) ho ht hz)
 rw[←hcs]
 clear hG hl ho ht hz hcs
 generalize bt (Pn.progT y)=tx at*
 go_enter Tryz.func18,Tryz.ntmps18
 go_upto_region 1 with fail
 rw[←hwA]
 clear hwA
 obtain ⟨A,hA⟩: ∃A,A=w.heap.size:=⟨_,rfl⟩
 rw[←hA] at HKA ⊢
 clear hA
 go_wp2_with (first |((with_reducible show wpList _ _ _ (Oper.mk (some 6) _ _ _ _ _::_) _ _);refine wpList_load_bk rfl 26 (.tmp 1) rfl A 26 cs rfl _ HKA.out Tryz.underlying26 rfl HSI.out ?_)|(go_at_call 44;refine CP.out.mono ?_;rintro e w1 ⟨rfl,hb⟩;have HB1:=hdn (HBA.out.trans (hb.mono HBA.out.size));clear hb))
 go_ret
 exact ⟨rfl,HB1.out⟩
end Go.Proofs.YtcehbcnloiooaaaGreatDoor
