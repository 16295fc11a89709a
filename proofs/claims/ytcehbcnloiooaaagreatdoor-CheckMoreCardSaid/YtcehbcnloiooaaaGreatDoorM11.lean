/-
  The printer: statements. The printer: branches, statements within statements, procedures, programs.
-/
import Derived.Test.YtcehbcnloiooaaaGreatDoorM10
set_option maxHeartbeats 6400000
set_option maxRecDepth 100000
namespace Go.Proofs.YtcehbcnloiooaaaGreatDoor
open Go.RowKit Go.Sort
theorem sizeApp (a b:ByteArray):(a++b).size=a.size+b.size:=ByteArray.size_append
theorem stmtE0 (x:It) (q o:Nat) (w0:World) (B:Bx) (b:Nat) (T:List UInt8) (d:Nat) (w:World) (_:Gp w0) (hr:w0.rangeAt q o x.cells) (_:itLies w0 x) (h:PrS w0 B b T d w) (hd:d≤50) (k:x.h.kind=0) (hT:T.length≤100000000000):
  Calls Tryz.prog 124 #[.pointer (some ⟨b,0,none⟩),.pointer (some ⟨q,o,none⟩)] w fun e w'=>e= .returned (.tuple #[])∧PrS w0 B b (T++(Pn.pad d++Pn.stT x.h (Pn.linesT x.t (d+1)) (Pn.linesT x.e (d+1)) d [])) d w':=by
 have HRW:Hid (∀w' T' d',PrS w0 B b T' d' w'→w'.rangeAt q o x.cells):=hdn (fun w' T' d' h'=>rangeAt_below hr h'.2.1)
 have c0:=cell_at (rangeAt_below hr h.2.1) 0 _ rfl
 rw[Nat.add_zero] at c0
 rw[k] at c0
 have CL:=hdn (lineX (w0:=w0) (B:=B) (b:=b) ⟨#[59]⟩ w h (by omega) hT (by decide))
 rw[Pn.st0 k]
 clear hr h k hT
 go_enter Tryz.func124,Tryz.ntmps124
 go_wp2_with (go_at_call 120;refine CL.out.mono ?_;rintro e w1 ⟨rfl,h1⟩;have HP1:=hdn h1;clear h1)
 go_end0
 exact ⟨rfl,HP1.out⟩
theorem stmtE2 (x:It) (q o:Nat) (w0:World) (B:Bx) (b:Nat) (T:List UInt8) (d:Nat) (w:World) (_:Gp w0) (hr:w0.rangeAt q o x.cells) (hl:itLies w0 x) (h:PrS w0 B b T d w) (hd:d≤50) (k:x.h.kind=2) (hp:Pn.okPath x.h.place=true) (hT:T.length≤100000000000):
  Calls Tryz.prog 124 #[.pointer (some ⟨b,0,none⟩),.pointer (some ⟨q,o,none⟩)] w fun e w'=>e= .returned (.tuple #[])∧PrS w0 B b (T++(Pn.pad d++Pn.stT x.h (Pn.linesT x.t (d+1)) (Pn.linesT x.e (d+1)) d [])) d w':=by
 have HRW:Hid (∀w' T' d',PrS w0 B b T' d' w'→w'.rangeAt q o x.cells):=hdn (fun w' T' d' h'=>rangeAt_below hr h'.2.1)
 have c0:=cell_at (rangeAt_below hr h.2.1) 0 _ rfl
 rw[Nat.add_zero] at c0
 rw[k] at c0
 have CP:=hdn (pathX_any x.h.place q (o+2) w (rangeAt_sub (rangeAt_below hr h.2.1) 2 3 rfl) (pthLies_below (pthLies_of hl.1.1) h.2.1) hp)
 have hs:(bt (Pn.pathT x.h.place)).size≤160:=Pn.path_len hp
 have CL:Hid (∀w',PrS w0 B b T d w'→Calls Tryz.prog 120 #[.pointer (some ⟨b,0,none⟩),.string ((⟨#[102,114,101,101,40]⟩:ByteArray)++bt (Pn.pathT x.h.place)++⟨#[41,59]⟩)] w' fun e w''=>e= .returned (.tuple #[])∧PrS w0 B b (T++(Pn.pad d++Pn.stT x.h (Pn.linesT x.t (d+1)) (Pn.linesT x.e (d+1)) d [])) d w''):=hdn (fun w' h'=>by
  refine (lineX _ w' h' (by omega) hT (by rw[sizeApp,sizeApp,show (⟨#[102,114,101,101,40]⟩:ByteArray).size=5 from rfl,show (⟨#[41,59]⟩:ByteArray).size=2 from rfl];omega)).mono fun e w'' ⟨he,h1⟩=>⟨he,h1.eq ?_⟩
  rw[Pn.st2 k];simp[bt])
 have HP:=hdn h
 clear hr hl h k hp hT
 generalize bt (Pn.pathT x.h.place)=tx at*
 go_enter Tryz.func124,Tryz.ntmps124
 go_wp2_with (first |(go_at_call 143;refine CP.out.mono ?_;rintro e w1 ⟨rfl,hb⟩;have HP1:=hdn (HP.out.below hb);clear hb)|(go_at_call 120;refine (CL.out _ HP1.out).mono ?_;rintro e w2 ⟨rfl,h2⟩;have HP2:=hdn h2;clear h2))
 go_end0
 exact ⟨rfl,HP2.out⟩
theorem stmtE1 (x:It) (q o:Nat) (w0:World) (B:Bx) (b:Nat) (T:List UInt8) (d:Nat) (w:World) (hG:Gp w0) (hr:w0.rangeAt q o x.cells) (hl:itLies w0 x) (h:PrS w0 B b T d w) (hd:d≤50) (k:x.h.kind=1) (hp:Pn.okPath x.h.place=true) (hv:Pn.okVal x.h.value=true) (hT:T.length≤100000000000):
  Calls Tryz.prog 124 #[.pointer (some ⟨b,0,none⟩),.pointer (some ⟨q,o,none⟩)] w fun e w'=>e= .returned (.tuple #[])∧PrS w0 B b (T++(Pn.pad d++Pn.stT x.h (Pn.linesT x.t (d+1)) (Pn.linesT x.e (d+1)) d [])) d w':=by
 have HRW:Hid (∀w' T' d',PrS w0 B b T' d' w'→w'.rangeAt q o x.cells):=hdn (fun w' T' d' h'=>rangeAt_below hr h'.2.1)
 have c0:=cell_at (rangeAt_below hr h.2.1) 0 _ rfl
 rw[Nat.add_zero] at c0
 rw[k] at c0
 have CP:Hid (∀w',PrS w0 B b T d w'→Calls Tryz.prog 143 #[.pointer (some ⟨q,o+2,none⟩)] w' fun e w''=>e= .returned (.string (bt (Pn.pathT x.h.place)))∧PrS w0 B b T d w''):=hdn (fun w' h'=>
  (pathX_any x.h.place q (o+2) w' (rangeAt_sub (rangeAt_below hr h'.2.1) 2 3 rfl) (pthLies_below (pthLies_of hl.1.1) h'.2.1) hp).mono fun e w'' ⟨he,hb⟩=>⟨he,h'.below hb⟩)
 have CV:Hid (∀w',PrS w0 B b T d w'→Calls Tryz.prog 144 #[.pointer (some ⟨q,o+5,none⟩)] w' fun e w''=>e= .returned (.string (bt (Pn.valT x.h.value)))∧PrS w0 B b T d w''):=hdn (fun w' h'=>
  (valX_any x.h.value q (o+5) w' (hG.go h'.2.1) (rangeAt_sub (rangeAt_below hr h'.2.1) 5 12 rfl) (vlLies_below hl.1.2.1 h'.2.1) hv).mono fun e w'' ⟨he,hb⟩=>⟨he,h'.below hb⟩)
 have s1:(bt (Pn.pathT x.h.place)).size≤160:=Pn.path_len hp
 have s2:(bt (Pn.valT x.h.value)).size≤200:=Pn.val_len hv
 have CL:Hid (∀w',PrS w0 B b T d w'→Calls Tryz.prog 120 #[.pointer (some ⟨b,0,none⟩),.string (bt (Pn.pathT x.h.place)++⟨#[32,61,32]⟩++bt (Pn.valT x.h.value)++⟨#[59]⟩)] w' fun e w''=>e= .returned (.tuple #[])∧PrS w0 B b (T++(Pn.pad d++Pn.stT x.h (Pn.linesT x.t (d+1)) (Pn.linesT x.e (d+1)) d [])) d w''):=hdn (fun w' h'=>by
  refine (lineX _ w' h' (by omega) hT (by rw[sizeApp,sizeApp,sizeApp,show (⟨#[32,61,32]⟩:ByteArray).size=3 from rfl,show (⟨#[59]⟩:ByteArray).size=1 from rfl];omega)).mono fun e w'' ⟨he,h1⟩=>⟨he,h1.eq ?_⟩
  rw[Pn.st1 k];simp[bt])
 have HD:=hdn (fun n=>h.drew n)
 clear hG hr hl h k hp hT hv
 generalize bt (Pn.pathT x.h.place)=tp at*
 generalize bt (Pn.valT x.h.value)=tv at*
 go_enter Tryz.func124,Tryz.ntmps124
 go_wp2_with fail
 go_region_with (first |(go_at_call 143;(first |refine (CP.out _ HPS.out).mono ?_ |refine (CP.out _ (HD.out _)).mono ?_);rintro e w1 ⟨rfl,h1⟩;have HPS:=hdn h1;clear h1)|(go_at_call 144;(first |refine (CV.out _ HPS.out).mono ?_ |refine (CV.out _ (HD.out _)).mono ?_);rintro e w1 ⟨rfl,h1⟩;have HPS:=hdn h1;clear h1)|(go_at_call 120;refine (CL.out _ HPS.out).mono ?_;rintro e w1 ⟨rfl,h1⟩;have HPF:=hdn h1;clear h1))
 all_goals (go_wp2_with fail;go_end0;exact ⟨rfl,HPF.out⟩)
theorem stmtE3 (x:It) (q o:Nat) (w0:World) (B:Bx) (b:Nat) (T:List UInt8) (d:Nat) (w:World) (hG:Gp w0) (hr:w0.rangeAt q o x.cells) (hl:itLies w0 x) (h:PrS w0 B b T d w) (hd:d≤50) (k:x.h.kind=3) (hn:Pn.okN x.h.name=true) (ha:x.h.args.l.all Pn.okSide=true) (hal:x.h.args.l.length≤8010) (hT:T.length≤100000000000):
  Calls Tryz.prog 124 #[.pointer (some ⟨b,0,none⟩),.pointer (some ⟨q,o,none⟩)] w fun e w'=>e= .returned (.tuple #[])∧PrS w0 B b (T++(Pn.pad d++Pn.stT x.h (Pn.linesT x.t (d+1)) (Pn.linesT x.e (d+1)) d [])) d w':=by
 have HRW:Hid (∀w' T' d',PrS w0 B b T' d' w'→w'.rangeAt q o x.cells):=hdn (fun w' T' d' h'=>rangeAt_below hr h'.2.1)
 have c0:=cell_at (rangeAt_below hr h.2.1) 0 _ rfl
 rw[Nat.add_zero] at c0
 rw[k] at c0
 have hv: ∀y∈x.h.args.l,Pn.okVal y=true:=fun y hy=>by
  have:=List.all_eq_true.1 ha y hy
  unfold Pn.okSide at this
  simp only[Bool.and_eq_true] at this
  exact this.1
 have CC:Hid (∀w',PrS w0 B b T d w'→Calls Tryz.prog 145 #[.slice x.h.args.p x.h.args.l.length x.h.args.cap,.func (.func 144) #[] #[]] w' fun e w''=>e= .returned (.string (bt (Pn.commaT Pn.valT x.h.args.l)))∧PrS w0 B b T d w''):=hdn (fun w' h'=>
  (commasV_any x.h.args.l x.h.args.p x.h.args.cap w' (hG.go h'.2.1) (Lay.of_sl (R:=vlLies) (argsLie_below hl.1.2.2.2.2.1 h'.2.1) (by decide)) hv hal).mono fun e w'' ⟨he,hb⟩=>⟨he,h'.below hb⟩)
 have s1:=(Pn.okN_nameB hn).1
 have s2:(bt (Pn.commaT Pn.valT x.h.args.l)).size≤10000000:=by
  have:=Pn.comma_len (f:=Pn.valT) (B:=200) x.h.args.l (fun a ha=>Pn.val_len (hv a ha))
  rw[bt_size];omega
 have CL:Hid (∀w',PrS w0 B b T d w'→Calls Tryz.prog 120 #[.pointer (some ⟨b,0,none⟩),.string (x.h.name++⟨#[40]⟩++bt (Pn.commaT Pn.valT x.h.args.l)++⟨#[41,59]⟩)] w' fun e w''=>e= .returned (.tuple #[])∧PrS w0 B b (T++(Pn.pad d++Pn.stT x.h (Pn.linesT x.t (d+1)) (Pn.linesT x.e (d+1)) d [])) d w''):=hdn (fun w' h'=>by
  refine (lineX _ w' h' (by omega) hT (by rw[sizeApp,sizeApp,sizeApp,show (⟨#[40]⟩:ByteArray).size=1 from rfl,show (⟨#[41,59]⟩:ByteArray).size=2 from rfl];omega)).mono fun e w'' ⟨he,h1⟩=>⟨he,h1.eq ?_⟩
  rw[Pn.st3 k];simp[bt,Pn.txt])
 have HD:=hdn (fun n=>h.drew n)
 have HC:Hid (∀w',PrS w0 B b T d w'→w'.cell? ⟨q,o+43,none⟩=some (.string x.h.name)∧w'.cell? ⟨q,o+44,none⟩=some (.slice x.h.args.p x.h.args.l.length x.h.args.cap)):=hdn (fun w' h'=>⟨cell_at (HRW.out _ _ _ h') 43 _ rfl,cell_at (HRW.out _ _ _ h') 44 _ rfl⟩)
 obtain ⟨c43,c44⟩:=HC.out w h
 clear hG hr hl h k hn hT hv ha
 generalize bt (Pn.commaT Pn.valT x.h.args.l)=ta at*
 go_enter Tryz.func124,Tryz.ntmps124
 go_wp2_with fail
 go_region_with (first |(go_at_call 145;(first |refine (CC.out _ (HD.out _)).mono ?_);rintro e w1 ⟨rfl,h1⟩;have HPS:=hdn h1;have d43:=(HC.out _ h1).1;clear h1)|(go_at_call 120;refine (CL.out _ HPS.out).mono ?_;rintro e w1 ⟨rfl,h1⟩;have HPF:=hdn h1;clear h1))
 all_goals (go_wp2_with fail;go_end0;exact ⟨rfl,HPF.out⟩)
def okE (l:SL):Prop:= ∀(p:Option Addr) (c:Nat) (w0:World) (B:Bx) (b:Nat) (T:List UInt8) (d:Nat) (w:World),Gp w0→sLies w0 p l→PrS w0 B b T d w→Pn.okList l=true→Pn.tight 8010 l→(d:Int)+Pn.dp l≤50→T.length+(Pn.linesT l d).length≤100000000000→
 Calls Tryz.prog 123 #[.slice p l.len c,.func (.func 124) #[.pointer (some ⟨b,0,none⟩)] #[]] w fun e w'=>e= .returned (.tuple #[])∧PrS w0 B b (T++Pn.linesT l d) d w'
theorem blockE (l:SL) (hE:okE l) (s:ByteArray) (p:Option Addr) (c:Nat) (w0:World) (B:Bx) (b:Nat) (T:List UInt8) (d:Nat) (w:World) (hG:Gp w0) (hl:sLies w0 p l) (h:PrS w0 B b T d w) (ho:Pn.okList l=true) (ht:Pn.tight 8010 l) (hd:(d:Int)+1+Pn.dp l≤50) (hs:s.size≤1000) (hT:T.length+(Pn.pad d++(s.data.toList++([123,10]++(Pn.linesT l (d+1)++(Pn.pad d++ [125,10]))))).length≤100000000000):
  Calls Tryz.prog 147 #[.pointer (some ⟨b,0,none⟩),.string s,.slice p l.len c] w fun e w'=>e= .returned (.tuple #[])∧PrS w0 B b (T++(Pn.pad d++(s.data.toList++([123,10]++(Pn.linesT l (d+1)++(Pn.pad d++ [125,10])))))) d w':=by
 have hdq:=Pn.dp_nn l
 simp only[List.length_append] at hT
 obtain ⟨T1,hT1⟩: ∃T1,T1=T++(Pn.pad d++(s.data.toList++ [123,10])):=⟨_,rfl⟩
 have l1:T1.length=T.length+((Pn.pad d).length+(s.data.toList.length+2)):=by rw[hT1];simp only[List.length_append,List.length_cons,List.length_nil]
 simp only[List.length_cons,List.length_nil] at hT
 have CB:=hdn (beginX s w h (by omega) (by omega) (by omega))
 rw[←hT1] at CB
 have CE:=hdn (fun w' h'=>hE p c w0 B b T1 (d+1) w' hG hl h' ho ht (by omega) (by omega))
 have CF:Hid (∀w',PrS w0 B b (T1++Pn.linesT l (d+1)) (d+1) w'→Calls Tryz.prog 119 #[.pointer (some ⟨b,0,none⟩)] w' fun e w''=>e= .returned (.tuple #[])∧PrS w0 B b (T++(Pn.pad d++(s.data.toList++([123,10]++(Pn.linesT l (d+1)++(Pn.pad d++ [125,10])))))) d w''):=hdn (fun w' h'=>by
  refine (endX w' h' (by omega) (by rw[List.length_append];omega)).mono fun e w'' ⟨he,h1⟩=>⟨he,h1.eq ?_⟩
  rw[hT1];simp only[List.append_assoc])
 clear hG hl h ho ht hd hT hT1 l1 hdq
 go_enter Tryz.func147,Tryz.ntmps147
 go_wp2_with (first |(go_at_call 118;refine CB.out.mono ?_;rintro e w1 ⟨rfl,h1⟩;have HP1:=hdn h1;clear h1)|(go_at_call 123;refine (CE.out _ HP1.out).mono ?_;rintro e w2 ⟨rfl,h2⟩;have HP2:=hdn h2;clear h2)|(go_at_call 119;refine (CF.out _ HP2.out).mono ?_;rintro e w3 ⟨rfl,h3⟩;have HP3:=hdn h3;clear h3))
 go_end0
 exact ⟨rfl,HP3.out⟩
theorem stmtE6 (x:It) (q o:Nat) (w0:World) (B:Bx) (b:Nat) (T:List UInt8) (d:Nat) (w:World) (hG:Gp w0) (hr:w0.rangeAt q o x.cells) (hl:itLies w0 x) (h:PrS w0 B b T d w) (_:d≤50) (k:x.h.kind=6) (hE:okE x.t) (oT:Pn.okList x.t=true) (ht:Pn.tight 8010 x.t) (hdp:(d:Int)+1+Pn.dp x.t≤50) (hT:T.length+(Pn.pad d++Pn.stT x.h (Pn.linesT x.t (d+1)) (Pn.linesT x.e (d+1)) d []).length≤100000000000):
  Calls Tryz.prog 124 #[.pointer (some ⟨b,0,none⟩),.pointer (some ⟨q,o,none⟩)] w fun e w'=>e= .returned (.tuple #[])∧PrS w0 B b (T++(Pn.pad d++Pn.stT x.h (Pn.linesT x.t (d+1)) (Pn.linesT x.e (d+1)) d [])) d w':=by
 have HRW:Hid (∀w' T' d',PrS w0 B b T' d' w'→w'.rangeAt q o x.cells):=hdn (fun w' T' d' h'=>rangeAt_below hr h'.2.1)
 have c0:=cell_at (rangeAt_below hr h.2.1) 0 _ rfl
 rw[Nat.add_zero] at c0
 rw[k] at c0
 have c45:=cell_at (rangeAt_below hr h.2.1) 45 _ rfl
 have e6:=Pn.st6 (h:=x.h) (by omega) (Pn.linesT x.t (d+1)) (Pn.linesT x.e (d+1)) d
 have e7:Pn.pad d++Pn.stT x.h (Pn.linesT x.t (d+1)) (Pn.linesT x.e (d+1)) d []=Pn.pad d++((⟨#[]⟩:ByteArray).data.toList++([123,10]++(Pn.linesT x.t (d+1)++(Pn.pad d++ [125,10])))):=by rw[e6];simp
 have CB:=hdn (blockE x.t hE ⟨#[]⟩ x.tp x.tc w0 B b T d w hG hl.2.1 h oT ht hdp (by decide) (by rw[←e7];exact hT))
 rw[e7]
 clear hG hr hl h k hE oT ht hdp hT e6 e7
 go_enter Tryz.func124,Tryz.ntmps124
 go_wp2_with (go_at_call 147;refine CB.out.mono ?_;rintro e w1 ⟨rfl,h1⟩;have HP1:=hdn h1;clear h1)
 go_end0
 exact ⟨rfl,HP1.out⟩
theorem stmtE5 (x:It) (q o:Nat) (w0:World) (B:Bx) (b:Nat) (T:List UInt8) (d:Nat) (w:World) (hG:Gp w0) (hr:w0.rangeAt q o x.cells) (hl:itLies w0 x) (h:PrS w0 B b T d w) (_:d≤50) (k:x.h.kind=5) (hc:Pn.okCond x.h.cond=true) (hE:okE x.t) (oT:Pn.okList x.t=true) (ht:Pn.tight 8010 x.t) (hdp:(d:Int)+1+Pn.dp x.t≤50) (hT:T.length+(Pn.pad d++Pn.stT x.h (Pn.linesT x.t (d+1)) (Pn.linesT x.e (d+1)) d []).length≤100000000000):
  Calls Tryz.prog 124 #[.pointer (some ⟨b,0,none⟩),.pointer (some ⟨q,o,none⟩)] w fun e w'=>e= .returned (.tuple #[])∧PrS w0 B b (T++(Pn.pad d++Pn.stT x.h (Pn.linesT x.t (d+1)) (Pn.linesT x.e (d+1)) d [])) d w':=by
 have HRW:Hid (∀w' T' d',PrS w0 B b T' d' w'→w'.rangeAt q o x.cells):=hdn (fun w' T' d' h'=>rangeAt_below hr h'.2.1)
 have c0:=cell_at (rangeAt_below hr h.2.1) 0 _ rfl
 rw[Nat.add_zero] at c0
 rw[k] at c0
 have CC:Hid (∀w',PrS w0 B b T d w'→Calls Tryz.prog 148 #[.pointer (some ⟨q,o+17,none⟩)] w' fun e w''=>e= .returned (.string (bt (Pn.condT x.h.cond)))∧PrS w0 B b T d w''):=hdn (fun w' h'=>
  (condX_any x.h.cond q (o+17) w' (hG.go h'.2.1) (rangeAt_sub (rangeAt_below hr h'.2.1) 17 26 rfl) (vlLies_below hl.1.2.2.1 h'.2.1) (vlLies_below hl.1.2.2.2.1 h'.2.1) hc).mono fun e w'' ⟨he,hb⟩=>⟨he,h'.below hb⟩)
 have s1:(bt (Pn.condT x.h.cond)).size≤420:=Pn.cond_len hc
 have e7:Pn.pad d++Pn.stT x.h (Pn.linesT x.t (d+1)) (Pn.linesT x.e (d+1)) d []=Pn.pad d++(((⟨#[119,104,105,108,101,32,40]⟩:ByteArray)++bt (Pn.condT x.h.cond)++⟨#[41,32]⟩).data.toList++([123,10]++(Pn.linesT x.t (d+1)++(Pn.pad d++ [125,10])))):=by rw[Pn.st5 k];simp[bt]
 have CB:Hid (∀w',PrS w0 B b T d w'→Calls Tryz.prog 147 #[.pointer (some ⟨b,0,none⟩),.string ((⟨#[119,104,105,108,101,32,40]⟩:ByteArray)++bt (Pn.condT x.h.cond)++⟨#[41,32]⟩),.slice x.tp x.t.len x.tc] w' fun e w''=>e= .returned (.tuple #[])∧PrS w0 B b (T++(Pn.pad d++Pn.stT x.h (Pn.linesT x.t (d+1)) (Pn.linesT x.e (d+1)) d [])) d w''):=hdn (fun w' h'=>by
  rw[e7]
  exact blockE x.t hE _ x.tp x.tc w0 B b T d w' hG hl.2.1 h' oT ht hdp (by rw[sizeApp,sizeApp,show (⟨#[119,104,105,108,101,32,40]⟩:ByteArray).size=7 from rfl,show (⟨#[41,32]⟩:ByteArray).size=2 from rfl];omega) (by rw[←e7];exact hT))
 have HD:=hdn (fun n=>h.drew n)
 have HC:Hid (∀w',PrS w0 B b T d w'→w'.cell? ⟨q,o+45,none⟩=some (.slice x.tp x.t.len x.tc)):=hdn (fun w' h'=>cell_at (HRW.out _ _ _ h') 45 _ rfl)
 have c45:=HC.out w h
 clear hG hr hl h k hc hE oT ht hdp hT e7
 generalize bt (Pn.condT x.h.cond)=tc at*
 go_enter Tryz.func124,Tryz.ntmps124
 go_wp2_with fail
 go_region_with (first |(go_at_call 148;refine (CC.out _ (HD.out _)).mono ?_;rintro e w1 ⟨rfl,h1⟩;have HPS:=hdn h1;have d45:=HC.out _ h1;clear h1)|(go_at_call 147;refine (CB.out _ HPS.out).mono ?_;rintro e w1 ⟨rfl,h1⟩;have HPF:=hdn h1;clear h1))
 all_goals (go_wp2_with fail;go_end0;exact ⟨rfl,HPF.out⟩)
end Go.Proofs.YtcehbcnloiooaaaGreatDoor
namespace Go.Proofs.YtcehbcnloiooaaaGreatDoor
open Go.RowKit Go.Sort
theorem PrS.less {w0 w:World} {B:Bx} {b d:Nat} {T:List UInt8} (h:PrS w0 B b T (d+1) w):w.cell? ⟨b,2,none⟩=some (.int .i64 ((d:Int)+1))∧w.frozen? ⟨b,2,none⟩=false∧PrS w0 B b T d (w.setCell ⟨b,2,none⟩ (.int .i64 (d:Int))):=by
 have h1:=h.1
 rw[show ((d+1:Nat):Int)=(d:Int)+1 by omega] at h1
 obtain ⟨c,f,hB⟩:=h1.cell2
 exact ⟨c,f,h.put (h1.open_ (d:Int)) ((Below.refl B.n w).setCell (p:=⟨b,2,none⟩) hB _) (Keep.set w 2 _)⟩
theorem branchEa (x:It) (q o:Nat) (w0:World) (B:Bx) (b:Nat) (T:List UInt8) (d:Nat) (w:World) (hG:Gp w0) (hr:w0.rangeAt q o x.cells) (hl:itLies w0 x) (h:PrS w0 B b T d w) (k:x.h.kind=4) (hbo:x.h.both=false) (hc:Pn.okCond x.h.cond=true) (hE:okE x.t) (oT:Pn.okList x.t=true) (ht:Pn.tight 8010 x.t) (hdp:(d:Int)+1+Pn.dp x.t≤50) (hT:T.length+(Pn.pad d++Pn.stT x.h (Pn.linesT x.t (d+1)) (Pn.linesT x.e (d+1)) d []).length≤100000000000):
  Calls Tryz.prog 146 #[.pointer (some ⟨b,0,none⟩),.pointer (some ⟨q,o,none⟩)] w fun e w'=>e= .returned (.tuple #[])∧PrS w0 B b (T++(Pn.pad d++Pn.stT x.h (Pn.linesT x.t (d+1)) (Pn.linesT x.e (d+1)) d [])) d w':=by
 have HRW:Hid (∀w' T' d',PrS w0 B b T' d' w'→w'.rangeAt q o x.cells):=hdn (fun w' T' d' h'=>rangeAt_below hr h'.2.1)
 have hdq:=Pn.dp_nn x.t
 have CC:Hid (Calls Tryz.prog 148 #[.pointer (some ⟨q,o+17,none⟩)] w fun e w''=>e= .returned (.string (bt (Pn.condT x.h.cond)))∧PrS w0 B b T d w''):=hdn (
  (condX_any x.h.cond q (o+17) w (hG.go h.2.1) (rangeAt_sub (rangeAt_below hr h.2.1) 17 26 rfl) (vlLies_below hl.1.2.2.1 h.2.1) (vlLies_below hl.1.2.2.2.1 h.2.1) hc).mono fun e w'' ⟨he,hb⟩=>⟨he,h.below hb⟩)
 have s1:(bt (Pn.condT x.h.cond)).size≤420:=Pn.cond_len hc
 obtain ⟨T1,hT1⟩: ∃T1,T1=T++(Pn.pad d++([105,102,32,40]++Pn.condT x.h.cond++ [41,32,123,10])):=⟨_,rfl⟩
 obtain ⟨T2,hT2⟩: ∃T2,T2=T1++Pn.linesT x.t (d+1):=⟨_,rfl⟩
 have e9:T++(Pn.pad d++Pn.stT x.h (Pn.linesT x.t (d+1)) (Pn.linesT x.e (d+1)) d [])=T2++(Pn.pad d++ [125,10]):=by rw[hT2,hT1,Pn.st4 k hbo];simp
 have hlen:T2.length+((Pn.pad d).length+2)=T.length+(Pn.pad d++Pn.stT x.h (Pn.linesT x.t (d+1)) (Pn.linesT x.e (d+1)) d []).length:=by
  have:=congrArg List.length e9
  simp only[List.length_append,List.length_cons,List.length_nil] at this ⊢
  omega
 have l1:T1.length+(Pn.linesT x.t (d+1)).length=T2.length:=by rw[hT2,List.length_append]
 have CB:Hid (∀w',PrS w0 B b T d w'→Calls Tryz.prog 118 #[.pointer (some ⟨b,0,none⟩),.string ((⟨#[105,102,32,40]⟩:ByteArray)++bt (Pn.condT x.h.cond)++⟨#[41,32]⟩)] w' fun e w''=>e= .returned (.tuple #[])∧PrS w0 B b T1 (d+1) w''):=hdn (fun w' h'=>by
  refine (beginX _ w' h' (by omega) (by omega) (by rw[sizeApp,sizeApp,show (⟨#[105,102,32,40]⟩:ByteArray).size=4 from rfl,show (⟨#[41,32]⟩:ByteArray).size=2 from rfl];omega)).mono fun e w'' ⟨he,h1⟩=>⟨he,h1.eq ?_⟩
  rw[hT1];simp[bt])
 have CE:Hid (∀w',PrS w0 B b T1 (d+1) w'→Calls Tryz.prog 123 #[.slice x.tp x.t.len x.tc,.func (.func 124) #[.pointer (some ⟨b,0,none⟩)] #[]] w' fun e w''=>e= .returned (.tuple #[])∧PrS w0 B b T2 (d+1) w''):=hdn (fun w' h'=>by
  rw[hT2]
  exact hE x.tp x.tc w0 B b T1 (d+1) w' hG hl.2.1 h' oT ht (by omega) (by omega))
 have CF:Hid (∀w',PrS w0 B b T2 (d+1) w'→Calls Tryz.prog 119 #[.pointer (some ⟨b,0,none⟩)] w' fun e w''=>e= .returned (.tuple #[])∧PrS w0 B b (T++(Pn.pad d++Pn.stT x.h (Pn.linesT x.t (d+1)) (Pn.linesT x.e (d+1)) d [])) d w''):=hdn (fun w' h'=>by
  refine (endX w' h' (by omega) (by omega)).mono fun e w'' ⟨he,h1⟩=>⟨he,h1.eq ?_⟩
  rw[e9])
 have HC45:Hid (∀w' T' d',PrS w0 B b T' d' w'→w'.cell? ⟨q,o+45,none⟩=some (.slice x.tp x.t.len x.tc)):=hdn (fun w' T' d' h'=>cell_at (HRW.out _ _ _ h') 45 _ rfl)
 have HC47:Hid (∀w' T' d',PrS w0 B b T' d' w'→w'.cell? ⟨q,o+47,none⟩=some (.bool false)):=hdn (fun w' T' d' h'=>by have:=cell_at (HRW.out _ _ _ h') 47 _ rfl;rwa[hbo] at this)
 have e1:(d:Int)+1-1=(d:Int):=by omega
 have hd0:(0:Int)≤(d:Int):=Int.natCast_nonneg _
 have hd5:(d:Int)≤50:=by omega
 clear hG hr hl h k hbo hc hE oT ht hdp hT hT1 hT2 hdq l1 hlen e9
 generalize bt (Pn.condT x.h.cond)=tc at*
 go_enter Tryz.func146,Tryz.ntmps146
 go_wp2_with (first |(go_at_call 148;refine CC.out.mono ?_;rintro e w1 ⟨rfl,h1⟩;have HP1:=hdn h1;clear h1)|(go_at_call 118;(with_reducible refine (CB.out _ HP1.out).mono ?_);rintro e w2 ⟨rfl,h2⟩;have HP2:=hdn h2;have c45:=HC45.out _ _ _ h2;clear h2)|(go_at_call 123;(with_reducible refine (CE.out _ HP2.out).mono ?_);rintro e w3 ⟨rfl,h3⟩;have HP3:=hdn h3;have c47:=HC47.out _ _ _ h3;clear h3)|(go_at_call 119;refine (CF.out _ HP3.out).mono ?_;rintro e w4 ⟨rfl,h4⟩;have HP4:=hdn h4;clear h4))
 go_end0
 exact ⟨rfl,HP4.out⟩
theorem branchEb (x:It) (q o:Nat) (w0:World) (B:Bx) (b:Nat) (T:List UInt8) (d:Nat) (w:World) (hG:Gp w0) (hr:w0.rangeAt q o x.cells) (hl:itLies w0 x) (h:PrS w0 B b T d w) (k:x.h.kind=4) (hbo:x.h.both=true) (hc:Pn.okCond x.h.cond=true) (hE:okE x.t) (oT:Pn.okList x.t=true) (ht:Pn.tight 8010 x.t) (hdp:(d:Int)+1+Pn.dp x.t≤50) (hE2:okE x.e) (oE:Pn.okList x.e=true) (te:Pn.tight 8010 x.e) (hdpe:(d:Int)+1+Pn.dp x.e≤50) (hT:T.length+(Pn.pad d++Pn.stT x.h (Pn.linesT x.t (d+1)) (Pn.linesT x.e (d+1)) d []).length≤100000000000):
  Calls Tryz.prog 146 #[.pointer (some ⟨b,0,none⟩),.pointer (some ⟨q,o,none⟩)] w fun e w'=>e= .returned (.tuple #[])∧PrS w0 B b (T++(Pn.pad d++Pn.stT x.h (Pn.linesT x.t (d+1)) (Pn.linesT x.e (d+1)) d [])) d w':=by
 have HRW:Hid (∀w' T' d',PrS w0 B b T' d' w'→w'.rangeAt q o x.cells):=hdn (fun w' T' d' h'=>rangeAt_below hr h'.2.1)
 have hdq:=Pn.dp_nn x.t
 have CC:Hid (Calls Tryz.prog 148 #[.pointer (some ⟨q,o+17,none⟩)] w fun e w''=>e= .returned (.string (bt (Pn.condT x.h.cond)))∧PrS w0 B b T d w''):=hdn (
  (condX_any x.h.cond q (o+17) w (hG.go h.2.1) (rangeAt_sub (rangeAt_below hr h.2.1) 17 26 rfl) (vlLies_below hl.1.2.2.1 h.2.1) (vlLies_below hl.1.2.2.2.1 h.2.1) hc).mono fun e w'' ⟨he,hb⟩=>⟨he,h.below hb⟩)
 have s1:(bt (Pn.condT x.h.cond)).size≤420:=Pn.cond_len hc
 obtain ⟨T1,hT1⟩: ∃T1,T1=T++(Pn.pad d++([105,102,32,40]++Pn.condT x.h.cond++ [41,32,123,10])):=⟨_,rfl⟩
 obtain ⟨T2,hT2⟩: ∃T2,T2=T1++Pn.linesT x.t (d+1):=⟨_,rfl⟩
 obtain ⟨T3,hT3⟩: ∃T3,T3=T2++(Pn.pad d++([125,32,101,108,115,101,32]++ [123,10])):=⟨_,rfl⟩
 obtain ⟨T4,hT4⟩: ∃T4,T4=T3++Pn.linesT x.e (d+1):=⟨_,rfl⟩
 have e9:T++(Pn.pad d++Pn.stT x.h (Pn.linesT x.t (d+1)) (Pn.linesT x.e (d+1)) d [])=T4++(Pn.pad d++ [125,10]):=by rw[hT4,hT3,hT2,hT1,Pn.st4b k hbo];simp
 have hlen:T4.length+((Pn.pad d).length+2)=T.length+(Pn.pad d++Pn.stT x.h (Pn.linesT x.t (d+1)) (Pn.linesT x.e (d+1)) d []).length:=by
  have:=congrArg List.length e9
  simp only[List.length_append,List.length_cons,List.length_nil] at this ⊢
  omega
 have l3:T3.length+(Pn.linesT x.e (d+1)).length=T4.length:=by rw[hT4,List.length_append]
 have l2:T2.length≤T3.length:=by rw[hT3,List.length_append];omega
 have l1:T1.length+(Pn.linesT x.t (d+1)).length=T2.length:=by rw[hT2,List.length_append]
 have CB:Hid (∀w',PrS w0 B b T d w'→Calls Tryz.prog 118 #[.pointer (some ⟨b,0,none⟩),.string ((⟨#[105,102,32,40]⟩:ByteArray)++bt (Pn.condT x.h.cond)++⟨#[41,32]⟩)] w' fun e w''=>e= .returned (.tuple #[])∧PrS w0 B b T1 (d+1) w''):=hdn (fun w' h'=>by
  refine (beginX _ w' h' (by omega) (by omega) (by rw[sizeApp,sizeApp,show (⟨#[105,102,32,40]⟩:ByteArray).size=4 from rfl,show (⟨#[41,32]⟩:ByteArray).size=2 from rfl];omega)).mono fun e w'' ⟨he,h1⟩=>⟨he,h1.eq ?_⟩
  rw[hT1];simp[bt])
 have CE:Hid (∀w',PrS w0 B b T1 (d+1) w'→Calls Tryz.prog 123 #[.slice x.tp x.t.len x.tc,.func (.func 124) #[.pointer (some ⟨b,0,none⟩)] #[]] w' fun e w''=>e= .returned (.tuple #[])∧PrS w0 B b T2 (d+1) w''):=hdn (fun w' h'=>by
  rw[hT2]
  exact hE x.tp x.tc w0 B b T1 (d+1) w' hG hl.2.1 h' oT ht (by omega) (by omega))
 have CF:Hid (∀w',PrS w0 B b T4 (d+1) w'→Calls Tryz.prog 119 #[.pointer (some ⟨b,0,none⟩)] w' fun e w''=>e= .returned (.tuple #[])∧PrS w0 B b (T++(Pn.pad d++Pn.stT x.h (Pn.linesT x.t (d+1)) (Pn.linesT x.e (d+1)) d [])) d w''):=hdn (fun w' h'=>by
  refine (endX w' h' (by omega) (by omega)).mono fun e w'' ⟨he,h1⟩=>⟨he,h1.eq ?_⟩
  rw[e9])
 have HC45:Hid (∀w' T' d',PrS w0 B b T' d' w'→w'.cell? ⟨q,o+45,none⟩=some (.slice x.tp x.t.len x.tc)):=hdn (fun w' T' d' h'=>cell_at (HRW.out _ _ _ h') 45 _ rfl)
 have HC47:Hid (∀w' T' d',PrS w0 B b T' d' w'→w'.cell? ⟨q,o+47,none⟩=some (.bool true)):=hdn (fun w' T' d' h'=>by have:=cell_at (HRW.out _ _ _ h') 47 _ rfl;rwa[hbo] at this)
 have HC46:Hid (∀w' T' d',PrS w0 B b T' d' w'→w'.cell? ⟨q,o+46,none⟩=some (.slice x.ep x.e.len x.ec)):=hdn (fun w' T' d' h'=>cell_at (HRW.out _ _ _ h') 46 _ rfl)
 have CB2:Hid (∀w',PrS w0 B b T2 d w'→Calls Tryz.prog 118 #[.pointer (some ⟨b,0,none⟩),.string ⟨#[125,32,101,108,115,101,32]⟩] w' fun e w''=>e= .returned (.tuple #[])∧PrS w0 B b T3 (d+1) w''):=hdn (fun w' h'=>by
  rw[hT3]
  exact beginX ⟨#[125,32,101,108,115,101,32]⟩ w' h' (by omega) (by omega) (by decide))
 have CE2:Hid (∀w',PrS w0 B b T3 (d+1) w'→Calls Tryz.prog 123 #[.slice x.ep x.e.len x.ec,.func (.func 124) #[.pointer (some ⟨b,0,none⟩)] #[]] w' fun e w''=>e= .returned (.tuple #[])∧PrS w0 B b T4 (d+1) w''):=hdn (fun w' h'=>by
  rw[hT4]
  exact hE2 x.ep x.ec w0 B b T3 (d+1) w' hG hl.2.2 h' oE te (by omega) (by omega))
 have e1:(d:Int)+1-1=(d:Int):=by omega
 have hd0:(0:Int)≤(d:Int):=Int.natCast_nonneg _
 have hd5:(d:Int)≤50:=by omega
 clear hG hr hl h k hbo hc hE oT ht hdp hT hT1 hT2 hdq l1 hlen e9 hE2 oE te hdpe hT3 hT4 l3 l2
 generalize bt (Pn.condT x.h.cond)=tc at*
 go_enter Tryz.func146,Tryz.ntmps146
 go_upto_region 4 with (first |(go_at_call 148;refine CC.out.mono ?_;rintro e w1 ⟨rfl,h1⟩;have HP1:=hdn h1;clear h1)|(go_at_call 118;(with_reducible refine (CB.out _ HP1.out).mono ?_);rintro e w2 ⟨rfl,h2⟩;have HP2:=hdn h2;have c45:=HC45.out _ _ _ h2;clear h2)|(go_at_call 123;(with_reducible refine (CE.out _ HP2.out).mono ?_);rintro e w3 ⟨rfl,h3⟩;have HP3:=hdn h3;have c47:=HC47.out _ _ _ h3;obtain ⟨m2,n2,hp4⟩:=h3.less;have HP4:=hdn hp4;clear h3 hp4))
 clear m2 n2
 go_wp2_with (first |(go_at_call 118;(with_reducible refine (CB2.out _ HP4.out).mono ?_);rintro e w5 ⟨rfl,h5⟩;have HP5:=hdn h5;have c46:=HC46.out _ _ _ h5;clear h5)|(go_at_call 123;(with_reducible refine (CE2.out _ HP5.out).mono ?_);rintro e w6 ⟨rfl,h6⟩;have HP6:=hdn h6;clear h6)|(go_at_call 119;refine (CF.out _ HP6.out).mono ?_;rintro e w7 ⟨rfl,h7⟩;have HP7:=hdn h7;clear h7))
 go_end0
 exact ⟨rfl,HP7.out⟩
theorem stmtE4 (x:It) (q o:Nat) (w0:World) (B:Bx) (b:Nat) (T:List UInt8) (d:Nat) (w:World) (hr:w0.rangeAt q o x.cells) (h:PrS w0 B b T d w) (k:x.h.kind=4) (Q:World→Prop)
  (CB:Calls Tryz.prog 146 #[.pointer (some ⟨b,0,none⟩),.pointer (some ⟨q,o,none⟩)] w fun e w'=>e= .returned (.tuple #[])∧Q w'):
  Calls Tryz.prog 124 #[.pointer (some ⟨b,0,none⟩),.pointer (some ⟨q,o,none⟩)] w fun e w'=>e= .returned (.tuple #[])∧Q w':=by
 have c0:=cell_at (rangeAt_below hr h.2.1) 0 _ rfl
 rw[Nat.add_zero,k] at c0
 have HB:=hdn CB
 clear hr h k CB
 go_enter Tryz.func124,Tryz.ntmps124
 go_wp2_with (go_at_call 146;refine HB.out.mono ?_;rintro e w1 ⟨rfl,h1⟩;have HP1:=hdn h1;clear h1)
 go_end0
 exact ⟨rfl,HP1.out⟩
theorem stmtE (x:It) (q o:Nat) (w0:World) (B:Bx) (b:Nat) (T:List UInt8) (d:Nat) (w:World) (hG:Gp w0) (hr:w0.rangeAt q o x.cells) (hl:itLies w0 x) (h:PrS w0 B b T d w) (hd:d≤50)
  (ok:Pn.okStmt x.h (Pn.isNil x.t) (Pn.isNil x.e)=true) (oT:Pn.okList x.t=true) (oE:Pn.okList x.e=true) (ta:x.h.args.l.length≤8010) (tt:Pn.tight 8010 x.t) (te:Pn.tight 8010 x.e) (hT1:okE x.t) (hE1:okE x.e) (hdp:(d:Int)+(if 4≤x.h.kind then 1+max (Pn.dp x.t) (Pn.dp x.e) else 0)≤50)
  (hT:T.length+(Pn.pad d++Pn.stT x.h (Pn.linesT x.t (d+1)) (Pn.linesT x.e (d+1)) d []).length≤100000000000):
  Calls Tryz.prog 124 #[.pointer (some ⟨b,0,none⟩),.pointer (some ⟨q,o,none⟩)] w fun e w'=>e= .returned (.tuple #[])∧PrS w0 B b (T++(Pn.pad d++Pn.stT x.h (Pn.linesT x.t (d+1)) (Pn.linesT x.e (d+1)) d [])) d w':=by
 have hT0:T.length≤100000000000:=by omega
 unfold Pn.okStmt at ok
 by_cases k0:x.h.kind=0
 ·exact stmtE0 x q o w0 B b T d w hG hr hl h hd k0 hT0
 rw[if_neg k0] at ok
 by_cases k1:x.h.kind=1
 ·rw[if_pos k1] at ok
  simp only[Bool.and_eq_true,Bool.not_eq_true'] at ok
  obtain ⟨⟨⟨⟨⟨⟨o1,o2⟩,_⟩,_⟩,_⟩,_⟩,_⟩:=ok
  exact stmtE1 x q o w0 B b T d w hG hr hl h hd k1 o1 o2 hT0
 rw[if_neg k1] at ok
 by_cases k2:x.h.kind=2
 ·rw[if_pos k2] at ok
  simp only[Bool.and_eq_true,Bool.not_eq_true'] at ok
  obtain ⟨⟨⟨⟨⟨⟨o1,_⟩,_⟩,_⟩,_⟩,_⟩,_⟩:=ok
  exact stmtE2 x q o w0 B b T d w hG hr hl h hd k2 o1 hT0
 rw[if_neg k2] at ok
 by_cases k3:x.h.kind=3
 ·rw[if_pos k3] at ok
  simp only[Bool.and_eq_true,Bool.not_eq_true'] at ok
  obtain ⟨⟨⟨⟨⟨⟨⟨o1,_⟩,_⟩,_⟩,o8⟩,_⟩,_⟩,_⟩:=ok
  exact stmtE3 x q o w0 B b T d w hG hr hl h hd k3 o8 o1 ta hT0
 rw[if_neg k3] at ok
 by_cases k4:x.h.kind=4
 ·rw[if_pos k4] at ok
  simp only[Bool.and_eq_true,Bool.or_eq_true] at ok
  obtain ⟨⟨⟨⟨_,_⟩,o3⟩,_⟩,_⟩:=ok
  rw[if_pos (by omega)] at hdp
  cases hbo:x.h.both with
  |true=>exact stmtE4 x q o w0 B b T d w hr h k4 _ (branchEb x q o w0 B b T d w hG hr hl h k4 hbo o3 hT1 oT tt (by omega) hE1 oE te (by omega) hT)
  |false=>exact stmtE4 x q o w0 B b T d w hr h k4 _ (branchEa x q o w0 B b T d w hG hr hl h k4 hbo o3 hT1 oT tt (by omega) hT)
 rw[if_neg k4] at ok
 by_cases k5:x.h.kind=5
 ·rw[if_pos k5] at ok
  simp only[Bool.and_eq_true,Bool.not_eq_true'] at ok
  obtain ⟨⟨⟨⟨⟨_,_⟩,o3⟩,_⟩,_⟩,_⟩:=ok
  rw[if_pos (by omega)] at hdp
  exact stmtE5 x q o w0 B b T d w hG hr hl h hd k5 o3 hT1 oT tt (by omega) hT
 rw[if_neg k5] at ok
 by_cases k6:x.h.kind=6
 ·rw[if_pos (by omega)] at hdp
  exact stmtE6 x q o w0 B b T d w hG hr hl h hd k6 hT1 oT tt (by omega) hT
 rw[if_neg k6] at ok;cases ok
theorem lines_cons (h:Hd) (tp:Option Addr) (tc:Nat) (t:SL) (ep:Option Addr) (ec:Nat) (e r:SL) (d:Nat):Pn.linesT (.cons h tp tc t ep ec e r) d=(Pn.pad d++Pn.stT h (Pn.linesT t (d+1)) (Pn.linesT e (d+1)) d [])++Pn.linesT r d:=by
 show Pn.pad d++Pn.stT h _ _ d (Pn.linesT r d)=_
 rw[Pn.stT_app,List.append_assoc]
theorem eachSt_one (l:SL) (hP:l.each okE):okE l:=by
 intro p c w0 B b T d w hG hl h ho ht hd hT
 obtain ⟨hlen,hl⟩:=hl
 have hlen':l.len≤300000000000:=by omega
 have HP:=hdn hP;have HO0:=hdn ho;have HT0:=hdn ht;have HG:=hdn hG;have HS0:=hdn h;have HD0:=hdn hd;have HL0:=hdn hT
 clear hlen hP ho ht hG h hd hT
 have hcl:=enters35
 go_enter Tryz.func123,Tryz.ntmps123
 go_wp2_with fail
 go_loopw [7] (fun i wr=> ∃(k:Nat) (rest:SL) (Tk:List UInt8),i= .int .i64 k∧k≤l.len∧Hid (k+rest.len=l.len)∧Hid (Pn.okList rest=true)∧Hid (Pn.tight 8010 rest)∧
    Hid (rest= .nil∨∃b o,p=some ⟨b,o,none⟩∧lies w0 rest b (o+k*48))∧Hid (rest.each okE)∧Hid (PrS w0 B b Tk d wr)∧Hid (Tk++Pn.linesT rest d=T++Pn.linesT l d)∧Hid ((d:Int)+Pn.dp rest≤50)) (fun i _=>l.len-(intOf i).toNat)
 case atStart=>exact ⟨0,l,T,rfl,Nat.zero_le _,hdn (Nat.zero_add _),HO0,HT0,hdn (by simpa using hl),HP,HS0,hdn rfl,HD0⟩
 case round=>
  obtain ⟨k,rest,Tk,rfl,hk,HK,HO,HTI,HL,HQ,HS,HE,HD⟩:=hrel
  cases rest with
  |nil=>
   have hk':l.len≤k:=by have:=HK.out;simp only[SL.len] at this;omega
   have HF:Hid (PrS w0 B b (T++Pn.linesT l d) d wr):=hdn (HS.out.eq (by rw[←HE.out];simp[Pn.linesT]))
   have hk1: ¬(k:Int)<(l.len:Int):=by omega
   go_wp2_with fail
   go_end0
   exact ⟨rfl,HF.out⟩
  |cons h tp tc t ep ec e r=>
   have hkl:k<l.len:=by have:=HK.out;simp only[SL.len] at this;omega
   have ho:=HO.out
   simp only[Pn.okList,Bool.and_eq_true] at ho
   obtain ⟨⟨⟨o1,o2⟩,o3⟩,o4⟩:=ho
   have hti:=HTI.out
   simp only[Pn.tight] at hti
   have HL3:=hdn (hd_lies HL.out)
   obtain ⟨b1,q,rfl,hrg,hhd,hts,hes,hrs⟩:=lies_head HL.out
   obtain ⟨hQt,hQe,hQr⟩:=HQ.out
   have HQR:=hdn hQr
   have HRS:=hdn hrs
   have HO4:=hdn o4
   have HT4:=hdn hti.2.2.2
   have hdq:=HD.out
   simp only[Pn.dp] at hdq
   have n1:=Pn.dp_nn t;have n2:=Pn.dp_nn e;have n3:=Pn.dp_nn r
   have he:=HE.out
   rw[lines_cons,←List.append_assoc] at he
   have hel:=congrArg List.length he
   have hll:=HL0.out
   rw[List.length_append,List.length_append,List.length_append] at hel
   obtain ⟨T1,hT1⟩: ∃T1,T1=Tk++(Pn.pad d++Pn.stT h (Pn.linesT t (d+1)) (Pn.linesT e (d+1)) d []):=⟨_,rfl⟩
   have CS:Hid (Calls Tryz.prog 124 #[.pointer (some ⟨b,0,none⟩),.pointer (some ⟨b1,q+k*48,none⟩)] wr fun en w'=>en= .returned (.tuple #[])∧PrS w0 B b T1 d w'):=hdn (by
    rw[hT1]
    have hif:(if 4≤h.kind then 1+max (Pn.dp t) (Pn.dp e) else 0)≥0:=by split<;>omega
    exact stmtE ⟨h,tp,tc,t,ep,ec,e⟩ b1 (q+k*48) w0 B b Tk d wr HG.out hrg ⟨HL3.out.1,HL3.out.2.1,HL3.out.2.2⟩ HS.out (by omega) o1 o2 o3 hti.1 hti.2.1 hti.2.2.1 hQt hQe (by show (d:Int)+(if 4≤h.kind then 1+max (Pn.dp t) (Pn.dp e) else 0)≤50;omega) (by show Tk.length+(Pn.pad d++Pn.stT h (Pn.linesT t (d+1)) (Pn.linesT e (d+1)) d []).length≤100000000000;simp only[List.length_append] at hel hll ⊢;omega))
   have HE1:Hid (T1++Pn.linesT r d=T++Pn.linesT l d):=hdn (by rw[hT1];exact he)
   have HD1:Hid ((d:Int)+Pn.dp r≤50):=hdn (by omega)
   clear hrg hhd hts hes hrs o1 o2 o3 o4 hQt hQe hQr HO HQ hdq n1 n2 n3 hti he hel hll hT1 HTI
   have hk0:(0:Int)≤(k:Int):=Int.natCast_nonneg _
   have hk1:(k:Int)<(l.len:Int):=by omega
   go_wp2_with fail
   refine CS.out.mono ?_;rintro en w1 ⟨rfl,h1⟩
   have HS1:=hdn h1
   clear h1
   go_wp2_with fail
   go_roundw
   case rel=>exact ⟨k+1,r,T1,by go_num,by omega,hdn (by have:=HK.out;simp only[SL.len] at this;omega),HO4,HT4,HRS,HQR,HS1,HE1,HD1⟩
   case measure=>simp[intOf];omega
theorem eachSt_E (l:SL):okE l:=(SL.all eachSt_one l).1
end Go.Proofs.YtcehbcnloiooaaaGreatDoor
