/-
  The printer's texts: paths, terms, values, conditions. Plain: how long the printed text of what was read can be. Plain: printed texts, part by part. Plain: how deep and how many statements are, as the document counts them, of what may be. The walk of the document's Right, where a program is right. T
-/
import Derived.Test.YtcehbcnloiooaaaGreatDoorM08
import Derived.Lib.AppendIntMem
import Derived.Lib.SmallJoins
import Derived.Test.YtcehbcnloiooaaaGreatDoorM07
set_option maxHeartbeats 6400000
set_option maxRecDepth 100000
namespace Go.Proofs.YtcehbcnloiooaaaGreatDoor
open Go.RowKit Go.Sort
def relB (k:Nat):List UInt8:=if k=1 then [32,61,61,32] else if k=2 then [32,33,61,32] else if k=3 then [32,60,32] else if k=4 then [32,62,61,32] else []
structure Gp (w:World):Prop where
 gl:Gl w
 pow:Lib.TabIs Tryz.prog w "internal/strconv.uint64pow10" .u64 Lib.pow10Tab
 rel: ∀k,k<5→w.cell? ⟨2,k,none⟩=some (.string (bt (relB k)))
 big:7≤w.heap.size
theorem gPow:Tryz.prog.globalNamed "internal/strconv.uint64pow10" =some 4:=by kernel_rfl
theorem cell_heap {w w':World} {b o:Nat} (h:w'.heap[b]? =w.heap[b]?):w'.cell? ⟨b,o,none⟩=w.cell? ⟨b,o,none⟩:=by unfold World.cell?;rw[h]
theorem Gp.below {w w':World} {B:Nat} (h:Gp w) (hb:Below B w w') (hB:7≤B):Gp w':=by
 refine ⟨h.gl.below hb (by omega), ?_,fun k hk=> ?_,Nat.le_trans h.big hb.size⟩
 ·have hp:=h.pow
  unfold Lib.TabIs World.var? at hp ⊢
  rw[gPow] at hp ⊢
  simp only[Option.bind_some] at hp ⊢
  rw[hb.block 4 (by omega)]
  exact hp
 ·rw[cell_heap (hb.block 2 (by omega))];exact h.rel k hk
theorem Gp.go {w w':World} (h:Gp w) (hb:Below w.heap.size w w'):Gp w':=h.below hb h.big
theorem size165:(Tryz.prog.info? 106).map (·.size)=some 2:=by kernel_rfl
theorem hopT_one (t x:ByteArray) (l:List UInt8) (h:t=bt l):t++((⟨#[45,62]⟩:ByteArray)++x)=bt (l++ [45,62]++Pn.txt x):=by
 rw[h];exact ba_ext (by simp[bt,Pn.txt])
theorem pathX_any (x:Pth) (b o:Nat) (w:World) (hr:w.rangeAt b o x.cells) (hp:pthLies w x) (ho:Pn.okPath x=true):
  Calls Tryz.prog 143 #[.pointer (some ⟨b,o,none⟩)] w fun e w'=>e= .returned (.string (bt (Pn.pathT x)))∧Below w.heap.size w w':=by
 unfold Pn.okPath at ho
 simp only[Bool.and_eq_true,decide_eq_true_eq,List.all_eq_true] at ho
 obtain ⟨⟨h1,h8⟩,h2⟩:=ho
 obtain ⟨hl,hp⟩:=Lay.of_sl hp (by decide)
 have H1:=hdn h1;have H2:=hdn h2;have HP:=hdn hp
 have HT:Hid (bt (Pn.pathT x)=bt (Pn.txt x.name++Pn.hopsT x.hops.l)):=hdn rfl
 have c0:w.cell? ⟨b,o,none⟩=some (.string x.name):=cell_at hr 0 _ rfl
 have c2:w.cell? ⟨b,o+2,none⟩=some (.slice x.hops.p x.hops.l.length x.hops.cap):=cell_at hr 2 _ rfl
 rw[HT.out]
 clear h1 h2 hp hl HT hr
 generalize x.hops.p=p at*
 generalize x.hops.l=l at*
 generalize x.hops.cap=c at*
 generalize x.name=nx at*
 go_enter Tryz.func143,Tryz.ntmps143
 go_wp2_with fail
 clear c0 c2
 go_loopw [3,15] (fun v i wr=> ∃(k:Nat) (t:ByteArray),k≤l.length∧i= .int .i64 k∧v= .string t∧Hid (t=bt (Pn.txt nx++Pn.hopsT (l.take k)))∧Hid (Below w.heap.size w wr)) (fun _ i _=>l.length-(intOf i).toNat)
 case atStart=>exact ⟨0,_,Nat.zero_le _,rfl,rfl,hdn (by rw[List.take_zero];simp only[Pn.hopsT,List.append_nil,bt_txt]),hdn (Below.refl _ _)⟩
 case round=>
  obtain ⟨k,t,hk,rfl,rfl,HT,HB⟩:=hrel
  have ht:t.size≤200:=by
   have h3:=Pn.hopsT_len (l.take k) (fun h hh=>H2.out h (List.mem_of_mem_take hh))
   have h4:=(Pn.okN_nameB H1.out).1
   have h5:(Pn.txt nx).length=nx.size:=Tx.len_eq _
   have h6:(l.take k).length≤8:=by rw[List.length_take];omega
   rw[HT.out,bt_size,List.length_append];omega
  by_cases hkl:k<l.length
  ·obtain ⟨b1,o1,rfl,hx⟩: ∃b o,p=some ⟨b,o,none⟩∧∀k x,l[k]? =some x→w.rangeAt b (o+k*2) (Hp.cells x)∧triv w x:=by
    rcases HP.out with h |h
    ·rw[h] at hkl;simp at hkl
    ·exact h
   have hrx:=rangeAt_below (hx k l[k] (List.getElem?_eq_getElem hkl)).1 HB.out
   have hs:=(Pn.okN_nameB (H2.out l[k] (List.getElem_mem hkl))).1
   have e:l.take (k+1)=l.take k++ [l[k]]:=(List.take_append_getElem hkl).symm
   have HE:Hid (Pn.txt nx++Pn.hopsT (l.take (k+1))=Pn.txt nx++Pn.hopsT (l.take k)++ [45,62]++Pn.txt l[k].name):=hdn (by rw[e,Pn.hopsT_snoc];simp only[List.append_assoc])
   generalize l[k]=y at hrx hs HE
   obtain ⟨hc,hhc⟩: ∃hc,hc=(Hp.cells y).toArray:=⟨_,rfl⟩
   have HRX:Hid (wr.rangeAt b1 (o1+k*2) hc.toList):=hdn (by rw[hhc];exact hrx)
   have HSI:Hid ((Tryz.prog.info? 106).map (·.size)=some hc.size):=hdn (by rw[hhc];exact size165)
   have HZ:Hid (2=hc.size):=hdn (by rw[hhc];rfl)
   have HON:Hid (hc.all (·.oneCell')=true):=hdn (by rw[hhc];simp[Value.oneCell'])
   obtain ⟨wA,hwA⟩: ∃wA:World,wA=wr.alloc (.cells hc 106):=⟨_,rfl⟩
   have HBA:Hid (Below wr.heap.size wr wA):=hdn (by rw[hwA];exact (Below.refl _ _).alloc (Nat.le_refl _) _)
   have hkA:Bk wA wr.heap.size 106 hc:=by rw[hwA];exact heap_alloc_new _ _
   have c5:wA.cell? ⟨wr.heap.size,0,none⟩=some (.string y.name):=by rw[hkA.cell 0,hhc];rfl
   have HWA:=hdn hwA
   have HB1:Hid (Below w.heap.size w wA):=hdn (HB.out.trans (HBA.out.mono HB.out.size))
   generalize y.name=nk at c5 hs HE
   clear hx e hrx hhc hwA hkA
   have hk0:(0:Int)≤(k:Int):=Int.natCast_nonneg _
   have hk1:(k:Int)<(l.length:Int):=by omega
   go_wp2_with (first |((with_reducible show wpList _ _ _ (Oper.mk (some 18) _ _ _ _ _::_) _ _);refine wpList_load_arr rfl 106 (.tmp 17) rfl b1 (o1+k*2) rfl hc _ HRX.out Tryz.underlying106 rfl HSI.out ?_)|((with_reducible show wpList _ _ _ (Oper.mk none (Op.store 106 _ _) _ _ _ _::_) _ _);refine wpList_store_new rfl 106 (.tmp 5) (.tmp 18) rfl _ hc rfl rfl HSI.out HZ.out HON.out ?_;rw[←HWA.out]))
   go_roundw
   case rel=>exact ⟨k+1,_,by omega,by go_num,rfl,hdn (by rw[HE.out];exact hopT_one _ _ _ HT.out),HB1⟩
   case measure=>simp[intOf];omega
  ·obtain rfl:k=l.length:=by omega
   have hc: ¬((l.length:Int)<(l.length:Int)):=by omega
   go_wp2_with fail
   go_ret
   exact ⟨ret_text (by rw[HT.out,List.take_length]),HB.out⟩
theorem dec_eq: ∀n:Nat,Lib.decDigits n=Tx.digits n:=by
 intro n
 induction n using Nat.strongRecOn with
 |_ n ih=>
  rw[Lib.decDigits]
  by_cases h:n<10
  ·rw[dif_pos h,digits_small n h]
  ·rw[dif_neg h,digits_great n h,ih (n/10) (by omega)]
theorem itoaX_any (n:Int) (w:World) (hG:Gp w) (ho:Pn.okNum n=true):
  Calls Tryz.prog 175 #[.int .i64 n] w fun e w'=>e= .returned (.string (bt (Tx.digits n.toNat)))∧Below w.heap.size w w':=by
 unfold Pn.okNum at ho
 simp only[Bool.and_eq_true,decide_eq_true_eq] at ho
 refine (Tryz.strconv_Itoa n (by omega) (by omega) w hG.pow).mono fun e w' h=>⟨?_,by obtain ⟨k,os,rfl⟩:=h.2;exact Lib.below_grow _ w (Nat.le_refl _) k os⟩
 rw[h.1]
 unfold Lib.itoa
 rw[if_neg (by omega),dec_eq];rfl
theorem termX_any (x:Tm) (b o:Nat) (w:World) (hG:Gp w) (ho:Pn.okTerm x=true) (hr:w.rangeAt b o x.cells):
  Calls Tryz.prog 164 #[.pointer (some ⟨b,o,none⟩)] w fun e w'=>e= .returned (.string (bt (Pn.termT x)))∧Below w.heap.size w w':=by
 have c0:w.cell? ⟨b,o,none⟩=some (.string x.name):=cell_at hr 0 _ rfl
 have c1:w.cell? ⟨b,o+1,none⟩=some (.int .i64 x.n):=cell_at hr 1 _ rfl
 unfold Pn.okTerm at ho
 unfold Pn.termT
 by_cases h0:Pn.txt x.name= []
 ·rw[if_pos h0] at ho ⊢
  have CN:=hdn (itoaX_any x.n w hG ho)
  have he:=e_txt h0
  clear hG ho hr h0
  generalize bt (Tx.digits x.n.toNat)=tx at*
  go_enter Tryz.func164,Tryz.ntmps164
  go_wp2_with (go_at_call 175;refine CN.out.mono ?_;rintro e w1 ⟨rfl,hb⟩;have HB1:=hdn hb;clear hb)
  go_ret
  exact ⟨rfl,HB1.out⟩
 ·rw[if_neg h0] at ho ⊢
  simp only[Bool.and_eq_true,decide_eq_true_eq] at ho
  have he:=okN_ne ho.1
  rw[bt_txt]
  clear hG ho hr h0
  go_enter Tryz.func164,Tryz.ntmps164
  go_wp2_with fail
  go_ret
  exact ⟨rfl,Below.refl _ _⟩
theorem valX0 (x:Vl) (b o:Nat) (w:World) (hr:w.rangeAt b o x.cells) (k:x.kind=0):
  Calls Tryz.prog 144 #[.pointer (some ⟨b,o,none⟩)] w fun e w'=>e= .returned (.string (bt (Pn.tNull)))∧Below w.heap.size w w':=by
 have c0:=cell_at hr 0 _ rfl
 rw[Nat.add_zero,k] at c0
 clear hr k
 go_enter Tryz.func144,Tryz.ntmps144
 go_wp2_with fail
 go_ret
 exact ⟨rfl,Below.refl _ _⟩
theorem valX3 (x:Vl) (b o:Nat) (w:World) (hr:w.rangeAt b o x.cells) (k:x.kind=3):
  Calls Tryz.prog 144 #[.pointer (some ⟨b,o,none⟩)] w fun e w'=>e= .returned (.string (bt (Pn.tInput)))∧Below w.heap.size w w':=by
 have c0:=cell_at hr 0 _ rfl
 rw[Nat.add_zero,k] at c0
 clear hr k
 go_enter Tryz.func144,Tryz.ntmps144
 go_wp2_with fail
 go_ret
 exact ⟨rfl,Below.refl _ _⟩
theorem valX1 (x:Vl) (b o:Nat) (w:World) (hr:w.rangeAt b o x.cells) (k:x.kind=1) (hl:vlLies w x) (hp:Pn.okPath x.path=true):
  Calls Tryz.prog 144 #[.pointer (some ⟨b,o,none⟩)] w fun e w'=>e= .returned (.string (bt (Pn.pathT x.path)))∧Below w.heap.size w w':=by
 have c0:=cell_at hr 0 _ rfl
 rw[Nat.add_zero,k] at c0
 have CP:=hdn (pathX_any x.path b (o+2) w (rangeAt_sub hr 2 3 rfl) (pthLies_of hl) hp)
 clear hr k hl hp
 generalize bt (Pn.pathT x.path)=tx at*
 go_enter Tryz.func144,Tryz.ntmps144
 go_wp2_with (go_at_call 143;refine CP.out.mono ?_;rintro e w1 ⟨rfl,hb⟩;have HB1:=hdn hb;clear hb)
 go_ret
 exact ⟨rfl,HB1.out⟩
theorem valX2 (x:Vl) (b o:Nat) (w:World) (hr:w.rangeAt b o x.cells) (k:x.kind=2) (ht:x.type.size≤16):
  Calls Tryz.prog 144 #[.pointer (some ⟨b,o,none⟩)] w fun e w'=>e= .returned (.string (bt (Pn.tNew++ [32]++Pn.txt x.type)))∧Below w.heap.size w w':=by
 have c0:=cell_at hr 0 _ rfl
 rw[Nat.add_zero,k] at c0
 have c5:=cell_at hr 5 _ rfl
 clear hr k
 go_enter Tryz.func144,Tryz.ntmps144
 go_wp2_with fail
 go_ret
 exact ⟨ret_text (ba_ext (by simp[bt,Pn.txt,Pn.tNew])),Below.refl _ _⟩
theorem valX4 (x:Vl) (b o:Nat) (w:World) (hG:Gp w) (hr:w.rangeAt b o x.cells) (k:x.kind=4) (ho:Pn.okTerm x.left=true):
  Calls Tryz.prog 144 #[.pointer (some ⟨b,o,none⟩)] w fun e w'=>e= .returned (.string (bt (Pn.termT x.left)))∧Below w.heap.size w w':=by
 have c0:=cell_at hr 0 _ rfl
 rw[Nat.add_zero,k] at c0
 have CT:=hdn (termX_any x.left b (o+6) w hG ho (rangeAt_sub hr 6 3 rfl))
 clear hr k hG ho
 generalize bt (Pn.termT x.left)=tx at*
 go_enter Tryz.func144,Tryz.ntmps144
 go_wp2_with (go_at_call 164;refine CT.out.mono ?_;rintro e w1 ⟨rfl,hb⟩;have HB1:=hdn hb;clear hb)
 go_ret
 exact ⟨rfl,HB1.out⟩
theorem valX5 (x:Vl) (b o:Nat) (w:World) (hG:Gp w) (hr:w.rangeAt b o x.cells) (k:x.kind=5) (ol:Pn.okTerm x.left=true) (orr:Pn.okTerm x.right=true):
  Calls Tryz.prog 144 #[.pointer (some ⟨b,o,none⟩)] w fun e w'=>e= .returned (.string (bt (Pn.termT x.left++ [32]++ [43]++ [32]++Pn.termT x.right)))∧Below w.heap.size w w':=by
 have c0:=cell_at hr 0 _ rfl
 rw[Nat.add_zero,k] at c0
 have HG:=hdn hG;have HR:=hdn hr
 have HE:Hid (bt (Pn.termT x.left++ [32]++ [43]++ [32]++Pn.termT x.right)=bt (Pn.termT x.left)++⟨#[32,43,32]⟩++bt (Pn.termT x.right)):=hdn (ba_ext (by simp[bt]))
 have CL: ∀dd os,Calls Tryz.prog 164 #[.pointer (some ⟨b,o+6,none⟩)] (grow (redrawn w dd) os) fun en w''=>en= .returned (.string (bt (Pn.termT x.left)))∧∃p:Regrown,w''=grow (redrawn w p.d) p.os:=
  fun dd os=>Calls.regrown_of (termX_any x.left b (o+6) _ (HG.out.go (below_regrown _ _ _)) ol (rangeAt_sub (rangeAt_below HR.out (below_regrown _ _ _)) 6 3 rfl))
 have CR: ∀dd os,Calls Tryz.prog 164 #[.pointer (some ⟨b,o+9,none⟩)] (grow (redrawn w dd) os) fun en w''=>en= .returned (.string (bt (Pn.termT x.right)))∧∃p:Regrown,w''=grow (redrawn w p.d) p.os:=
  fun dd os=>Calls.regrown_of (termX_any x.right b (o+9) _ (HG.out.go (below_regrown _ _ _)) orr (rangeAt_sub (rangeAt_below HR.out (below_regrown _ _ _)) 9 3 rfl))
 have sl:(bt (Pn.termT x.left)).size≤16:=term_len ol
 have sr:(bt (Pn.termT x.right)).size≤16:=term_len orr
 generalize bt (Pn.termT x.left)=tl at*
 generalize bt (Pn.termT x.right)=tr at*
 clear hG hr k ol orr
 go_enter Tryz.func144,Tryz.ntmps144
 go_wp2_with fail
 refine wp_region_quiet_below (by kernel_rfl) (by kernel_rfl) ?_
 repeat (go_big_quiet_step (first |(with_reducible exact CL _ _)|(with_reducible exact CR _ _)))
 refine wpQuiet_nil ?_
 intro _ hw'
 obtain ⟨⟨dq,osq⟩,hw''⟩:=hw'
 subst hw''
 have HB3:=hdn (below_regrown w dq osq)
 generalize grow (redrawn w dq) osq=w3 at HB3 ⊢
 go_wp2_with fail
 go_ret
 exact ⟨ret_text HE.out.symm,HB3.out⟩
theorem valX6 (x:Vl) (b o:Nat) (w:World) (hG:Gp w) (hr:w.rangeAt b o x.cells) (k:x.kind=6) (ol:Pn.okTerm x.left=true) (orr:Pn.okTerm x.right=true):
  Calls Tryz.prog 144 #[.pointer (some ⟨b,o,none⟩)] w fun e w'=>e= .returned (.string (bt (Pn.termT x.left++ [32]++ [45]++ [32]++Pn.termT x.right)))∧Below w.heap.size w w':=by
 have c0:=cell_at hr 0 _ rfl
 rw[Nat.add_zero,k] at c0
 have HG:=hdn hG;have HR:=hdn hr
 have HE:Hid (bt (Pn.termT x.left++ [32]++ [45]++ [32]++Pn.termT x.right)=bt (Pn.termT x.left)++⟨#[32,45,32]⟩++bt (Pn.termT x.right)):=hdn (ba_ext (by simp[bt]))
 have CL: ∀dd os,Calls Tryz.prog 164 #[.pointer (some ⟨b,o+6,none⟩)] (grow (redrawn w dd) os) fun en w''=>en= .returned (.string (bt (Pn.termT x.left)))∧∃p:Regrown,w''=grow (redrawn w p.d) p.os:=
  fun dd os=>Calls.regrown_of (termX_any x.left b (o+6) _ (HG.out.go (below_regrown _ _ _)) ol (rangeAt_sub (rangeAt_below HR.out (below_regrown _ _ _)) 6 3 rfl))
 have CR: ∀dd os,Calls Tryz.prog 164 #[.pointer (some ⟨b,o+9,none⟩)] (grow (redrawn w dd) os) fun en w''=>en= .returned (.string (bt (Pn.termT x.right)))∧∃p:Regrown,w''=grow (redrawn w p.d) p.os:=
  fun dd os=>Calls.regrown_of (termX_any x.right b (o+9) _ (HG.out.go (below_regrown _ _ _)) orr (rangeAt_sub (rangeAt_below HR.out (below_regrown _ _ _)) 9 3 rfl))
 have sl:(bt (Pn.termT x.left)).size≤16:=term_len ol
 have sr:(bt (Pn.termT x.right)).size≤16:=term_len orr
 generalize bt (Pn.termT x.left)=tl at*
 generalize bt (Pn.termT x.right)=tr at*
 clear hG hr k ol orr
 go_enter Tryz.func144,Tryz.ntmps144
 go_wp2_with fail
 refine wp_region_quiet_below (by kernel_rfl) (by kernel_rfl) ?_
 repeat (go_big_quiet_step (first |(with_reducible exact CL _ _)|(with_reducible exact CR _ _)))
 refine wpQuiet_nil ?_
 intro _ hw'
 obtain ⟨⟨dq,osq⟩,hw''⟩:=hw'
 subst hw''
 have HB3:=hdn (below_regrown w dq osq)
 generalize grow (redrawn w dq) osq=w3 at HB3 ⊢
 go_wp2_with fail
 go_ret
 exact ⟨ret_text HE.out.symm,HB3.out⟩
theorem valX_any (x:Vl) (b o:Nat) (w:World) (hG:Gp w) (hr:w.rangeAt b o x.cells) (hl:vlLies w x) (ho:Pn.okVal x=true):
  Calls Tryz.prog 144 #[.pointer (some ⟨b,o,none⟩)] w fun e w'=>e= .returned (.string (bt (Pn.valT x)))∧Below w.heap.size w w':=by
 unfold Pn.okVal at ho
 unfold Pn.valT
 by_cases k0:x.kind=0
 ·rw[if_pos k0];exact valX0 x b o w hr k0
 rw[if_neg k0]
 by_cases k3:x.kind=3
 ·rw[if_neg (by omega),if_neg (by omega),if_pos k3];exact valX3 x b o w hr k3
 rw[if_neg (by omega)] at ho
 by_cases k1:x.kind=1
 ·rw[if_pos k1] at ho ⊢
  simp only[Bool.and_eq_true] at ho
  exact valX1 x b o w hr k1 hl ho.2
 rw[if_neg k1] at ho ⊢
 by_cases k2:x.kind=2
 ·rw[if_pos k2] at ho ⊢
  simp only[Bool.and_eq_true] at ho
  exact valX2 x b o w hr k2 (Pn.okN_nameB ho.2).1
 rw[if_neg k2] at ho ⊢
 rw[if_neg k3]
 by_cases k4:x.kind=4
 ·rw[if_pos k4] at ho ⊢
  simp only[Bool.and_eq_true,decide_eq_true_eq] at ho
  have ot:Pn.okTerm x.left=true:=by unfold Pn.okTerm;rw[if_pos ho.1.2];exact ho.2
  have:=valX4 x b o w hG hr k4 ot
  unfold Pn.termT at this
  rwa[if_pos ho.1.2] at this
 rw[if_neg k4] at ho ⊢
 by_cases k5:x.kind=5∨x.kind=6
 ·rw[if_pos k5] at ho
  simp only[Bool.and_eq_true] at ho
  rcases k5 with k |k
  ·rw[if_pos k];exact valX5 x b o w hG hr k ho.1.2 ho.2
  ·rw[if_neg (by omega)];exact valX6 x b o w hG hr k ho.1.2 ho.2
 ·rw[if_neg k5] at ho;cases ho
theorem condX0 (c:Cd) (b o:Nat) (w:World) (hr:w.rangeAt b o c.cells) (k:c.kind=0):
  Calls Tryz.prog 148 #[.pointer (some ⟨b,o,none⟩)] w fun e w'=>e= .returned (.string (bt [63]))∧Below w.heap.size w w':=by
 have c0:=cell_at hr 0 _ rfl
 rw[Nat.add_zero,k] at c0
 clear hr k
 go_enter Tryz.func148,Tryz.ntmps148
 go_wp2_with fail
 go_ret
 exact ⟨rfl,Below.refl _ _⟩
theorem condX1 (c:Cd) (b o:Nat) (w:World) (hG:Gp w) (hr:w.rangeAt b o c.cells) (k:c.kind=1) (hl:vlLies w c.left) (hrr:vlLies w c.right) (ol:Pn.okSide c.left=true) (orr:Pn.okSide c.right=true):
  Calls Tryz.prog 148 #[.pointer (some ⟨b,o,none⟩)] w fun e w'=>e= .returned (.string (bt (Pn.valT c.left++ [32,61,61,32]++Pn.valT c.right)))∧Below w.heap.size w w':=by
 have c0:=cell_at hr 0 _ rfl
 rw[Nat.add_zero,k] at c0
 have HG:=hdn hG;have HR:=hdn hr;have HL:=hdn hl;have HRR:=hdn hrr
 have vl:Pn.okVal c.left=true:=by unfold Pn.okSide at ol;simp only[Bool.and_eq_true] at ol;exact ol.1
 have vr:Pn.okVal c.right=true:=by unfold Pn.okSide at orr;simp only[Bool.and_eq_true] at orr;exact orr.1
 have HE:Hid (bt (Pn.valT c.left++ [32,61,61,32]++Pn.valT c.right)=bt (Pn.valT c.left)++⟨#[32,61,61,32]⟩++bt (Pn.valT c.right)):=hdn (ba_ext (by simp[bt]))
 have CL: ∀dd os,Calls Tryz.prog 144 #[.pointer (some ⟨b,o+2,none⟩)] (grow (redrawn w dd) os) fun en w''=>en= .returned (.string (bt (Pn.valT c.left)))∧∃p:Regrown,w''=grow (redrawn w p.d) p.os:=
  fun dd os=>Calls.regrown_of (valX_any c.left b (o+2) _ (HG.out.go (below_regrown _ _ _)) (rangeAt_sub (rangeAt_below HR.out (below_regrown _ _ _)) 2 12 rfl) (vlLies_below HL.out (below_regrown _ _ _)) vl)
 have CR: ∀dd os,Calls Tryz.prog 144 #[.pointer (some ⟨b,o+14,none⟩)] (grow (redrawn w dd) os) fun en w''=>en= .returned (.string (bt (Pn.valT c.right)))∧∃p:Regrown,w''=grow (redrawn w p.d) p.os:=
  fun dd os=>Calls.regrown_of (valX_any c.right b (o+14) _ (HG.out.go (below_regrown _ _ _)) (rangeAt_sub (rangeAt_below HR.out (below_regrown _ _ _)) 14 12 rfl) (vlLies_below HRR.out (below_regrown _ _ _)) vr)
 have sl:(bt (Pn.valT c.left)).size≤200:=side_len ol
 have sr:(bt (Pn.valT c.right)).size≤200:=side_len orr
 have k0:=cell_regrown c0
 have g1:w.cell? ⟨2,1,none⟩=some (.string ⟨#[32,61,61,32]⟩):=hG.rel 1 (by decide)
 have gk:=cell_regrown g1
 generalize bt (Pn.valT c.left)=tl at*
 generalize bt (Pn.valT c.right)=tr at*
 clear hG hr k hl hrr ol orr vl vr
 go_enter Tryz.func148,Tryz.ntmps148
 go_wp2_with fail
 refine wp_region_quiet_below (by kernel_rfl) (by kernel_rfl) ?_
 repeat (go_big_quiet_step (first |(with_reducible exact CL _ _)|(with_reducible exact CR _ _)))
 refine wpQuiet_nil ?_
 intro _ hw'
 obtain ⟨⟨dq,osq⟩,hw''⟩:=hw'
 subst hw''
 have HB3:=hdn (below_regrown w dq osq)
 generalize grow (redrawn w dq) osq=w3 at HB3 ⊢
 go_wp2_with fail
 go_ret
 exact ⟨ret_text HE.out.symm,HB3.out⟩
theorem condX2 (c:Cd) (b o:Nat) (w:World) (hG:Gp w) (hr:w.rangeAt b o c.cells) (k:c.kind=2) (hl:vlLies w c.left) (hrr:vlLies w c.right) (ol:Pn.okSide c.left=true) (orr:Pn.okSide c.right=true):
  Calls Tryz.prog 148 #[.pointer (some ⟨b,o,none⟩)] w fun e w'=>e= .returned (.string (bt (Pn.valT c.left++ [32,33,61,32]++Pn.valT c.right)))∧Below w.heap.size w w':=by
 have c0:=cell_at hr 0 _ rfl
 rw[Nat.add_zero,k] at c0
 have HG:=hdn hG;have HR:=hdn hr;have HL:=hdn hl;have HRR:=hdn hrr
 have vl:Pn.okVal c.left=true:=by unfold Pn.okSide at ol;simp only[Bool.and_eq_true] at ol;exact ol.1
 have vr:Pn.okVal c.right=true:=by unfold Pn.okSide at orr;simp only[Bool.and_eq_true] at orr;exact orr.1
 have HE:Hid (bt (Pn.valT c.left++ [32,33,61,32]++Pn.valT c.right)=bt (Pn.valT c.left)++⟨#[32,33,61,32]⟩++bt (Pn.valT c.right)):=hdn (ba_ext (by simp[bt]))
 have CL: ∀dd os,Calls Tryz.prog 144 #[.pointer (some ⟨b,o+2,none⟩)] (grow (redrawn w dd) os) fun en w''=>en= .returned (.string (bt (Pn.valT c.left)))∧∃p:Regrown,w''=grow (redrawn w p.d) p.os:=
  fun dd os=>Calls.regrown_of (valX_any c.left b (o+2) _ (HG.out.go (below_regrown _ _ _)) (rangeAt_sub (rangeAt_below HR.out (below_regrown _ _ _)) 2 12 rfl) (vlLies_below HL.out (below_regrown _ _ _)) vl)
 have CR: ∀dd os,Calls Tryz.prog 144 #[.pointer (some ⟨b,o+14,none⟩)] (grow (redrawn w dd) os) fun en w''=>en= .returned (.string (bt (Pn.valT c.right)))∧∃p:Regrown,w''=grow (redrawn w p.d) p.os:=
  fun dd os=>Calls.regrown_of (valX_any c.right b (o+14) _ (HG.out.go (below_regrown _ _ _)) (rangeAt_sub (rangeAt_below HR.out (below_regrown _ _ _)) 14 12 rfl) (vlLies_below HRR.out (below_regrown _ _ _)) vr)
 have sl:(bt (Pn.valT c.left)).size≤200:=side_len ol
 have sr:(bt (Pn.valT c.right)).size≤200:=side_len orr
 have k0:=cell_regrown c0
 have g1:w.cell? ⟨2,2,none⟩=some (.string ⟨#[32,33,61,32]⟩):=hG.rel 2 (by decide)
 have gk:=cell_regrown g1
 generalize bt (Pn.valT c.left)=tl at*
 generalize bt (Pn.valT c.right)=tr at*
 clear hG hr k hl hrr ol orr vl vr
 go_enter Tryz.func148,Tryz.ntmps148
 go_wp2_with fail
 refine wp_region_quiet_below (by kernel_rfl) (by kernel_rfl) ?_
 repeat (go_big_quiet_step (first |(with_reducible exact CL _ _)|(with_reducible exact CR _ _)))
 refine wpQuiet_nil ?_
 intro _ hw'
 obtain ⟨⟨dq,osq⟩,hw''⟩:=hw'
 subst hw''
 have HB3:=hdn (below_regrown w dq osq)
 generalize grow (redrawn w dq) osq=w3 at HB3 ⊢
 go_wp2_with fail
 go_ret
 exact ⟨ret_text HE.out.symm,HB3.out⟩
theorem condX3 (c:Cd) (b o:Nat) (w:World) (hG:Gp w) (hr:w.rangeAt b o c.cells) (k:c.kind=3) (hl:vlLies w c.left) (hrr:vlLies w c.right) (ol:Pn.okSide c.left=true) (orr:Pn.okSide c.right=true):
  Calls Tryz.prog 148 #[.pointer (some ⟨b,o,none⟩)] w fun e w'=>e= .returned (.string (bt (Pn.valT c.left++ [32,60,32]++Pn.valT c.right)))∧Below w.heap.size w w':=by
 have c0:=cell_at hr 0 _ rfl
 rw[Nat.add_zero,k] at c0
 have HG:=hdn hG;have HR:=hdn hr;have HL:=hdn hl;have HRR:=hdn hrr
 have vl:Pn.okVal c.left=true:=by unfold Pn.okSide at ol;simp only[Bool.and_eq_true] at ol;exact ol.1
 have vr:Pn.okVal c.right=true:=by unfold Pn.okSide at orr;simp only[Bool.and_eq_true] at orr;exact orr.1
 have HE:Hid (bt (Pn.valT c.left++ [32,60,32]++Pn.valT c.right)=bt (Pn.valT c.left)++⟨#[32,60,32]⟩++bt (Pn.valT c.right)):=hdn (ba_ext (by simp[bt]))
 have CL: ∀dd os,Calls Tryz.prog 144 #[.pointer (some ⟨b,o+2,none⟩)] (grow (redrawn w dd) os) fun en w''=>en= .returned (.string (bt (Pn.valT c.left)))∧∃p:Regrown,w''=grow (redrawn w p.d) p.os:=
  fun dd os=>Calls.regrown_of (valX_any c.left b (o+2) _ (HG.out.go (below_regrown _ _ _)) (rangeAt_sub (rangeAt_below HR.out (below_regrown _ _ _)) 2 12 rfl) (vlLies_below HL.out (below_regrown _ _ _)) vl)
 have CR: ∀dd os,Calls Tryz.prog 144 #[.pointer (some ⟨b,o+14,none⟩)] (grow (redrawn w dd) os) fun en w''=>en= .returned (.string (bt (Pn.valT c.right)))∧∃p:Regrown,w''=grow (redrawn w p.d) p.os:=
  fun dd os=>Calls.regrown_of (valX_any c.right b (o+14) _ (HG.out.go (below_regrown _ _ _)) (rangeAt_sub (rangeAt_below HR.out (below_regrown _ _ _)) 14 12 rfl) (vlLies_below HRR.out (below_regrown _ _ _)) vr)
 have sl:(bt (Pn.valT c.left)).size≤200:=side_len ol
 have sr:(bt (Pn.valT c.right)).size≤200:=side_len orr
 have k0:=cell_regrown c0
 have g1:w.cell? ⟨2,3,none⟩=some (.string ⟨#[32,60,32]⟩):=hG.rel 3 (by decide)
 have gk:=cell_regrown g1
 generalize bt (Pn.valT c.left)=tl at*
 generalize bt (Pn.valT c.right)=tr at*
 clear hG hr k hl hrr ol orr vl vr
 go_enter Tryz.func148,Tryz.ntmps148
 go_wp2_with fail
 refine wp_region_quiet_below (by kernel_rfl) (by kernel_rfl) ?_
 repeat (go_big_quiet_step (first |(with_reducible exact CL _ _)|(with_reducible exact CR _ _)))
 refine wpQuiet_nil ?_
 intro _ hw'
 obtain ⟨⟨dq,osq⟩,hw''⟩:=hw'
 subst hw''
 have HB3:=hdn (below_regrown w dq osq)
 generalize grow (redrawn w dq) osq=w3 at HB3 ⊢
 go_wp2_with fail
 go_ret
 exact ⟨ret_text HE.out.symm,HB3.out⟩
theorem condX4 (c:Cd) (b o:Nat) (w:World) (hG:Gp w) (hr:w.rangeAt b o c.cells) (k:c.kind=4) (hl:vlLies w c.left) (hrr:vlLies w c.right) (ol:Pn.okSide c.left=true) (orr:Pn.okSide c.right=true):
  Calls Tryz.prog 148 #[.pointer (some ⟨b,o,none⟩)] w fun e w'=>e= .returned (.string (bt (Pn.valT c.left++ [32,62,61,32]++Pn.valT c.right)))∧Below w.heap.size w w':=by
 have c0:=cell_at hr 0 _ rfl
 rw[Nat.add_zero,k] at c0
 have HG:=hdn hG;have HR:=hdn hr;have HL:=hdn hl;have HRR:=hdn hrr
 have vl:Pn.okVal c.left=true:=by unfold Pn.okSide at ol;simp only[Bool.and_eq_true] at ol;exact ol.1
 have vr:Pn.okVal c.right=true:=by unfold Pn.okSide at orr;simp only[Bool.and_eq_true] at orr;exact orr.1
 have HE:Hid (bt (Pn.valT c.left++ [32,62,61,32]++Pn.valT c.right)=bt (Pn.valT c.left)++⟨#[32,62,61,32]⟩++bt (Pn.valT c.right)):=hdn (ba_ext (by simp[bt]))
 have CL: ∀dd os,Calls Tryz.prog 144 #[.pointer (some ⟨b,o+2,none⟩)] (grow (redrawn w dd) os) fun en w''=>en= .returned (.string (bt (Pn.valT c.left)))∧∃p:Regrown,w''=grow (redrawn w p.d) p.os:=
  fun dd os=>Calls.regrown_of (valX_any c.left b (o+2) _ (HG.out.go (below_regrown _ _ _)) (rangeAt_sub (rangeAt_below HR.out (below_regrown _ _ _)) 2 12 rfl) (vlLies_below HL.out (below_regrown _ _ _)) vl)
 have CR: ∀dd os,Calls Tryz.prog 144 #[.pointer (some ⟨b,o+14,none⟩)] (grow (redrawn w dd) os) fun en w''=>en= .returned (.string (bt (Pn.valT c.right)))∧∃p:Regrown,w''=grow (redrawn w p.d) p.os:=
  fun dd os=>Calls.regrown_of (valX_any c.right b (o+14) _ (HG.out.go (below_regrown _ _ _)) (rangeAt_sub (rangeAt_below HR.out (below_regrown _ _ _)) 14 12 rfl) (vlLies_below HRR.out (below_regrown _ _ _)) vr)
 have sl:(bt (Pn.valT c.left)).size≤200:=side_len ol
 have sr:(bt (Pn.valT c.right)).size≤200:=side_len orr
 have k0:=cell_regrown c0
 have g1:w.cell? ⟨2,4,none⟩=some (.string ⟨#[32,62,61,32]⟩):=hG.rel 4 (by decide)
 have gk:=cell_regrown g1
 generalize bt (Pn.valT c.left)=tl at*
 generalize bt (Pn.valT c.right)=tr at*
 clear hG hr k hl hrr ol orr vl vr
 go_enter Tryz.func148,Tryz.ntmps148
 go_wp2_with fail
 refine wp_region_quiet_below (by kernel_rfl) (by kernel_rfl) ?_
 repeat (go_big_quiet_step (first |(with_reducible exact CL _ _)|(with_reducible exact CR _ _)))
 refine wpQuiet_nil ?_
 intro _ hw'
 obtain ⟨⟨dq,osq⟩,hw''⟩:=hw'
 subst hw''
 have HB3:=hdn (below_regrown w dq osq)
 generalize grow (redrawn w dq) osq=w3 at HB3 ⊢
 go_wp2_with fail
 go_ret
 exact ⟨ret_text HE.out.symm,HB3.out⟩
theorem condX_any (c:Cd) (b o:Nat) (w:World) (hG:Gp w) (hr:w.rangeAt b o c.cells) (hl:vlLies w c.left) (hrr:vlLies w c.right) (ho:Pn.okCond c=true):
  Calls Tryz.prog 148 #[.pointer (some ⟨b,o,none⟩)] w fun e w'=>e= .returned (.string (bt (Pn.condT c)))∧Below w.heap.size w w':=by
 unfold Pn.okCond at ho
 unfold Pn.condT
 by_cases k0:c.kind=0
 ·rw[if_pos k0];exact condX0 c b o w hr k0
 rw[if_neg k0] at ho ⊢
 simp only[Bool.and_eq_true,decide_eq_true_eq] at ho
 have hk:c.kind=1∨c.kind=2∨c.kind=3∨c.kind=4:=by omega
 rcases hk with k |k |k |k
 ·rw[show Pn.valT c.left++ [32]++Pn.relT c.kind++ [32]++Pn.valT c.right=Pn.valT c.left++ [32,61,61,32]++Pn.valT c.right from by rw[k];simp[Pn.relT]]
  exact condX1 c b o w hG hr k hl hrr ho.1.2 ho.2
 ·rw[show Pn.valT c.left++ [32]++Pn.relT c.kind++ [32]++Pn.valT c.right=Pn.valT c.left++ [32,33,61,32]++Pn.valT c.right from by rw[k];simp[Pn.relT]]
  exact condX2 c b o w hG hr k hl hrr ho.1.2 ho.2
 ·rw[show Pn.valT c.left++ [32]++Pn.relT c.kind++ [32]++Pn.valT c.right=Pn.valT c.left++ [32,60,32]++Pn.valT c.right from by rw[k];simp[Pn.relT]]
  exact condX3 c b o w hG hr k hl hrr ho.1.2 ho.2
 ·rw[show Pn.valT c.left++ [32]++Pn.relT c.kind++ [32]++Pn.valT c.right=Pn.valT c.left++ [32,62,61,32]++Pn.valT c.right from by rw[k];simp[Pn.relT]]
  exact condX4 c b o w hG hr k hl hrr ho.1.2 ho.2
end Go.Proofs.YtcehbcnloiooaaaGreatDoor
namespace Go.Proofs.YtcehbcnloiooaaaGreatDoor
namespace Pn
open Pr (th St Res th_ok)
def tight (M:Nat):SL→Prop
 |.nil=>True
 |.cons h _ _ t _ _ e r=>h.args.l.length≤M∧tight M t∧tight M e∧tight M r
def tightP (M:Nat) (p:Pg):Prop:=
 (p.structs.l.length≤M∧∀x∈p.structs.l,x.fields.l.length≤M)∧p.globals.l.length≤M∧p.procs.l.length≤M∧∀x∈p.procs.l,x.params.l.length≤M∧x.locals_.l.length≤M∧tight M x.body
section
variable {t:List Pr.Tk}
theorem more_len {α:Type} {item:St→Res α}: ∀(n:Nat) (acc:List α) (u:St) {l:List α} {v:St},Pr.more t item n acc u= .ok (l,v)→l.length≤acc.length+n
 |0,acc,u,l,v,h=>by cases h
 |n+1,acc,u,l,v,h=>by
  unfold Pr.more at h
  split at h
  ·obtain ⟨x,w,h1,h2⟩:=th_ok h
   have:=more_len n _ w h2
   simp at this;omega
  ·obtain ⟨a,u1,h1,h⟩:=th_ok h
   injection h with h;injection h with h _;subst h
   omega
theorem listed_len {α:Type} {item:St→Res α} {u v:St} {l:List α} (h:Pr.listed t item u= .ok (l,v)):l.length≤t.length+2:=by
 obtain ⟨a,u1,h1,h⟩:=th_ok h
 split at h
 ·injection h with h;injection h with h _;subst h;simp
 ·obtain ⟨b,u2,h2,h⟩:=th_ok h
  have:=more_len _ _ _ h
  simp at this;omega
theorem fields_llen: ∀(n:Nat) (acc:List Dc) (u:St) {l:List Dc} {v:St},Pr.fields t n acc u= .ok (l,v)→l.length≤acc.length+n
 |0,acc,u,l,v,h=>by cases h
 |n+1,acc,u,l,v,h=>by
  unfold Pr.fields at h
  split at h
  ·injection h with h;injection h with hl h;subst hl;omega
  ·obtain ⟨x,u1,h1,h⟩:=th_ok h
   obtain ⟨y,u2,h2,h⟩:=th_ok h
   have:=fields_llen n _ u2 h
   simp at this;omega
theorem locals_llen: ∀(n:Nat) (acc:List Dc) (u:St) {l:List Dc} {v:St},Pr.locals t n acc u= .ok (l,v)→l.length≤acc.length+n
 |0,acc,u,l,v,h=>by cases h
 |n+1,acc,u,l,v,h=>by
  unfold Pr.locals at h
  split at h
  ·obtain ⟨x,u1,h1,h⟩:=th_ok h
   have:=locals_llen n _ u1 h
   simp at this;omega
  ·injection h with h;injection h with hl h;subst hl;omega
theorem block_tight {M:Nat} {rec:St→Res SL} (hr: ∀u l v,rec u= .ok (l,v)→tight M l) {u v:St} {l:SL} (h:Pr.block t rec u= .ok (l,v)):tight M l:=by
 obtain ⟨a,u1,h1,h⟩:=th_ok h
 obtain ⟨b,u2,h2,h⟩:=th_ok h
 obtain ⟨c,u3,h3,h⟩:=th_ok h
 obtain ⟨d,u4,h4,h⟩:=th_ok h
 injection h with h;injection h with hl h;subst h;subst hl
 exact hr _ _ _ h3
theorem free_tight {u v:St} {x:Hd} (h:Pr.free t u= .ok (x,v)):x.args.l.length≤t.length+2:=by
 obtain ⟨a,u1,h1,h⟩:=th_ok h
 obtain ⟨b,u2,h2,h⟩:=th_ok h
 obtain ⟨c,u3,h3,h⟩:=th_ok h
 obtain ⟨d,u4,h4,h⟩:=th_ok h
 obtain ⟨e,u5,h5,h⟩:=th_ok h
 injection h with h;injection h with h _;subst h
 exact Nat.zero_le _
theorem named_tight {u v:St} {x:Hd} (h:Pr.named t u= .ok (x,v)):x.args.l.length≤t.length+2:=by
 unfold Pr.named at h
 split at h
 ·obtain ⟨a,u1,h1,h⟩:=th_ok h
  obtain ⟨b,u2,h2,h⟩:=th_ok h
  obtain ⟨c,u3,h3,h⟩:=th_ok h
  injection h with h;injection h with h _;subst h
  exact listed_len h2
 ·obtain ⟨a,u1,h1,h⟩:=th_ok h
  obtain ⟨b,u2,h2,h⟩:=th_ok h
  obtain ⟨c,u3,h3,h⟩:=th_ok h
  obtain ⟨d,u4,h4,h⟩:=th_ok h
  injection h with h;injection h with h _;subst h
  exact Nat.zero_le _
theorem stmt_tight {rec:St→Res SL} (hr: ∀u l v,rec u= .ok (l,v)→tight (t.length+2) l) {u v:St} {h:Hd} {T E:SL} (hs:Pr.stmt t rec u= .ok ((h,T,E),v)):
  h.args.l.length≤t.length+2∧tight (t.length+2) T∧tight (t.length+2) E:=by
 obtain ⟨a,u1,h1,hs⟩:=th_ok hs
 split at hs
 ·injection hs with hs;injection hs with hx hv
  simp only[Prod.mk.injEq] at hx
  obtain ⟨rfl,rfl,rfl⟩:=hx
  exact ⟨Nat.zero_le _,trivial,trivial⟩
 ·split at hs
  ·obtain ⟨b,u2,h2,hs⟩:=th_ok hs
   injection hs with hs;injection hs with hx hv
   simp only[Prod.mk.injEq] at hx
   obtain ⟨rfl,rfl,rfl⟩:=hx
   exact ⟨Nat.zero_le _,block_tight hr h2,trivial⟩
  ·split at hs
   ·obtain ⟨b,u2,h2,hs⟩:=th_ok hs
    injection hs with hs;injection hs with hx hv
    simp only[Prod.mk.injEq] at hx
    obtain ⟨rfl,rfl,rfl⟩:=hx
    exact ⟨free_tight h2,trivial,trivial⟩
   ·split at hs
    ·obtain ⟨b,u2,h2,hs⟩:=th_ok hs
     obtain ⟨c,u3,h3,hs⟩:=th_ok hs
     obtain ⟨d,u4,h4,hs⟩:=th_ok hs
     split at hs
     ·obtain ⟨e,u5,h5,hs⟩:=th_ok hs
      injection hs with hs;injection hs with hx hv
      simp only[Prod.mk.injEq] at hx
      obtain ⟨rfl,rfl,rfl⟩:=hx
      exact ⟨Nat.zero_le _,block_tight hr h4,block_tight hr h5⟩
     ·injection hs with hs;injection hs with hx hv
      simp only[Prod.mk.injEq] at hx
      obtain ⟨rfl,rfl,rfl⟩:=hx
      exact ⟨Nat.zero_le _,block_tight hr h4,trivial⟩
    ·split at hs
     ·obtain ⟨b,u2,h2,hs⟩:=th_ok hs
      obtain ⟨c,u3,h3,hs⟩:=th_ok hs
      obtain ⟨d,u4,h4,hs⟩:=th_ok hs
      injection hs with hs;injection hs with hx hv
      simp only[Prod.mk.injEq] at hx
      obtain ⟨rfl,rfl,rfl⟩:=hx
      exact ⟨Nat.zero_le _,block_tight hr h4,trivial⟩
     ·obtain ⟨b,u2,h2,hs⟩:=th_ok hs
      injection hs with hs;injection hs with hx hv
      simp only[Prod.mk.injEq] at hx
      obtain ⟨rfl,rfl,rfl⟩:=hx
      exact ⟨named_tight h2,trivial,trivial⟩
theorem stmts_tight: ∀(n:Nat) (u:St) (l:SL) (v:St),Pr.stmts t n u= .ok (l,v)→tight (t.length+2) l
 |0,u,l,v,h=>by cases h
 |n+1,u,l,v,h=>by
  unfold Pr.stmts at h
  split at h
  ·obtain ⟨⟨hh,a,e⟩,u1,h1,h⟩:=th_ok h
   obtain ⟨r,u2,h2,h⟩:=th_ok h
   injection h with h;injection h with hl h;subst hl
   obtain ⟨g1,g2,g3⟩:=stmt_tight (fun u l v h=>stmts_tight n u l v h) h1
   exact ⟨g1,g2,g3,stmts_tight n _ _ _ h2⟩
  ·injection h with h;injection h with hl h;subst hl
   exact trivial
theorem struct_tight {u v:St} {x:Sr} (h:Pr.structure_ t u= .ok (x,v)):x.fields.l.length≤t.length+2:=by
 obtain ⟨a,u1,h1,h⟩:=th_ok h
 obtain ⟨b,u2,h2,h⟩:=th_ok h
 obtain ⟨c,u3,h3,h⟩:=th_ok h
 obtain ⟨d,u4,h4,h⟩:=th_ok h
 injection h with h;injection h with hl h;subst hl
 have:=fields_llen _ _ _ h4
 simp at this
 show d.length≤_
 omega
theorem proc_tight {u v:St} {x:Pc} (h:Pr.proc t u= .ok (x,v)):x.params.l.length≤t.length+2∧x.locals_.l.length≤t.length+2∧tight (t.length+2) x.body:=by
 obtain ⟨a,u1,h1,h⟩:=th_ok h
 obtain ⟨b,u2,h2,h⟩:=th_ok h
 obtain ⟨c,u3,h3,h⟩:=th_ok h
 obtain ⟨d,u4,h4,h⟩:=th_ok h
 obtain ⟨e,u5,h5,h⟩:=th_ok h
 obtain ⟨f,u6,h6,h⟩:=th_ok h
 obtain ⟨k,u7,h7,h⟩:=th_ok h
 injection h with h;injection h with hl h;subst hl
 have:=locals_llen _ _ _ h5
 simp at this
 exact ⟨listed_len h3,by show e.length≤_;omega,stmts_tight _ _ _ _ h6⟩
theorem program_tight: ∀(n:Nat) (ss:List Sr) (gs:List Dc) (ps:List Pc) (u:St) {p:Pg} {v:St},Pr.program t n ss gs ps u= .ok (p,v)→ss.length+n≤t.length+2→gs.length+n≤t.length+2→ps.length+n≤t.length+2→
  (∀x∈ss,x.fields.l.length≤t.length+2)→(∀x∈ps,x.params.l.length≤t.length+2∧x.locals_.l.length≤t.length+2∧tight (t.length+2) x.body)→tightP (t.length+2) p
 |0,ss,gs,ps,u,p,v,h,_,_,_,_,_=>by cases h
 |n+1,ss,gs,ps,u,p,v,h,h1,h2,h3,h4,h5=>by
  unfold Pr.program at h
  split at h
  ·injection h with h;injection h with hl h;subst hl
   exact ⟨⟨by show ss.length≤_;omega,h4⟩,by show gs.length≤_;omega,by show ps.length≤_;omega,h5⟩
  ·split at h
   ·obtain ⟨x,u1,q1,h⟩:=th_ok h
    exact program_tight n _ gs ps u1 h (by simp;omega) (by omega) (by omega) (fun z hz=>by
     rcases List.mem_append.1 hz with hz |hz
     ·exact h4 z hz
     ·rw[List.mem_singleton.1 hz];exact struct_tight q1) h5
   ·split at h
    ·obtain ⟨x,u1,q1,h⟩:=th_ok h
     exact program_tight n ss gs _ u1 h (by omega) (by omega) (by simp;omega) h4 (fun z hz=>by
      rcases List.mem_append.1 hz with hz |hz
      ·exact h5 z hz
      ·rw[List.mem_singleton.1 hz];exact proc_tight q1)
    ·obtain ⟨x,u1,q1,h⟩:=th_ok h
     exact program_tight n ss _ ps u1 h (by omega) (by simp;omega) (by omega) h4 h5
end
theorem tight_mono {M N:Nat} (h:M≤N): ∀l:SL,tight M l→tight N l
 |.nil,_=>trivial
 |.cons _ _ _ t _ _ e r,g=>⟨Nat.le_trans g.1 h,tight_mono h t g.2.1,tight_mono h e g.2.2.1,tight_mono h r g.2.2.2⟩
theorem tightP_mono {M N:Nat} (h:M≤N) {p:Pg} (g:tightP M p):tightP N p:=
 ⟨⟨Nat.le_trans g.1.1 h,fun x hx=>Nat.le_trans (g.1.2 x hx) h⟩,Nat.le_trans g.2.1 h,Nat.le_trans g.2.2.1 h,fun x hx=>⟨Nat.le_trans (g.2.2.2 x hx).1 h,Nat.le_trans (g.2.2.2 x hx).2.1 h,tight_mono h _ (g.2.2.2 x hx).2.2⟩⟩
theorem path_len {x:Pth} (h:okPath x=true):(pathT x).length≤160:=by
 unfold okPath at h
 simp only[Bool.and_eq_true,decide_eq_true_eq,List.all_eq_true] at h
 have h1:=(okN_nameB h.1.1).1
 have h2:=hopsT_len x.hops.l h.2
 have:=h.1.2
 simp only[pathT,List.length_append,txt,Tx.len_eq]
 omega
theorem txt_len {x:ByteArray} (h:okN x=true):(txt x).length≤16:=by
 have h1:=(okN_nameB h).1
 simpa only[txt,Tx.len_eq] using h1
theorem val_len {x:Vl} (h:okVal x=true):(valT x).length≤200:=by
 unfold okVal at h
 unfold valT
 by_cases k0:x.kind=0
 ·rw[if_pos k0];decide
 rw[if_neg k0]
 by_cases k3:x.kind=3
 ·rw[if_neg (by omega),if_neg (by omega),if_pos k3];decide
 rw[if_neg (by omega)] at h
 by_cases k1:x.kind=1
 ·rw[if_pos k1] at h ⊢
  simp only[Bool.and_eq_true] at h
  have:=path_len h.2;omega
 rw[if_neg k1] at h ⊢
 by_cases k2:x.kind=2
 ·rw[if_pos k2] at h ⊢
  simp only[Bool.and_eq_true] at h
  have:=txt_len h.2
  simp only[List.length_append,tNew,List.length_cons,List.length_nil]
  omega
 rw[if_neg k2] at h ⊢
 rw[if_neg k3]
 by_cases k4:x.kind=4
 ·rw[if_pos k4] at h ⊢
  simp only[Bool.and_eq_true] at h
  have:=digits_len 9 x.left.n.toNat (by have:=(okNum_nat h.2).2;omega)
  omega
 rw[if_neg k4] at h ⊢
 by_cases k5:x.kind=5∨x.kind=6
 ·rw[if_pos k5] at h
  simp only[Bool.and_eq_true] at h
  have a:=term_len h.1.2
  have b:=term_len h.2
  split<;>simp only[List.length_append,List.length_cons,List.length_nil]<;>omega
 ·rw[if_neg k5] at h;cases h
theorem cond_len {x:Cd} (h:okCond x=true):(condT x).length≤420:=by
 unfold okCond at h
 unfold condT
 by_cases k0:x.kind=0
 ·rw[if_pos k0];simp
 rw[if_neg k0] at h ⊢
 simp only[Bool.and_eq_true] at h
 have a:=side_len h.1.2
 have b:=side_len h.2
 have c:(relT x.kind).length≤2:=by unfold relT;split<;>(try split)<;>(try split)<;>simp
 simp only[List.length_append,List.length_cons,List.length_nil]
 omega
theorem comma_len {α:Type} {f:α→List UInt8} {B:Nat}: ∀l:List α,(∀a∈l,(f a).length≤B)→(commaT f l).length≤l.length*(B+2)
 | [],_=>Nat.zero_le _
 | [a],h=>by have:=h a List.mem_cons_self;simp only[commaT,List.length_cons,List.length_nil];omega
 |a::b::l,h=>by
  have h1:=h a List.mem_cons_self
  have h2:=comma_len (b::l) (fun x hx=>h x (List.mem_cons_of_mem _ hx))
  simp only[commaT,List.length_append,List.length_cons] at*
  rw[Nat.succ_mul]
  omega
theorem lines_len: ∀(l:SL) (d:Nat),okList l=true→tight 8010 l→(d:Int)+dp l≤50→((linesT l d).length:Int)≤cnt l*2000000
 |.nil,_,_,_,_=>by simp[linesT,cnt]
 |.cons h _ _ t _ _ e r,d,ho,ht,hd=>by
  simp only[okList,Bool.and_eq_true] at ho
  obtain ⟨ta,tt,te,tr⟩:=ht
  simp only[dp] at hd
  have hr:=lines_len r d ho.2 tr (by omega)
  have hn:=dp_nn r
  have ct:=cnt_nn t;have ce:=cnt_nn e
  have hdp:d≤50:=by omega
  have hp:=pad_len d
  simp only[linesT,cnt,List.length_append,hp]
  have hos:=ho.1.1.1
  unfold okStmt at hos
  unfold stT
  by_cases h0:h.kind=0
  ·rw[if_pos h0];simp only[List.length_cons];omega
  by_cases h1:h.kind=1
  ·rw[if_neg h0,if_pos h1] at hos ⊢
   simp only[Bool.and_eq_true] at hos
   have:=path_len hos.1.1.1.1.1.1
   have:=val_len hos.1.1.1.1.1.2
   simp only[List.length_cons,List.length_append];omega
  by_cases h2:h.kind=2
  ·rw[if_neg h0,if_neg h1,if_pos h2] at hos ⊢
   simp only[Bool.and_eq_true] at hos
   have:=path_len hos.1.1.1.1.1.1
   simp only[List.length_cons,List.length_append,tFree,List.length_nil];omega
  by_cases h3:h.kind=3
  ·rw[if_neg h0,if_neg h1,if_neg h2,if_pos h3] at hos ⊢
   simp only[Bool.and_eq_true] at hos
   have:=txt_len hos.1.1.1.2
   have hall:=hos.1.1.1.1.1.1.1
   have:=comma_len (f:=valT) (B:=200) h.args.l (fun a ha=>side_len (List.all_eq_true.1 hall a ha))
   simp only[List.length_cons,List.length_append];omega
  by_cases h4:h.kind=4
  ·rw[if_neg h0,if_neg h1,if_neg h2,if_neg h3,if_pos h4] at hos ⊢
   simp only[Bool.and_eq_true] at hos
   have:=cond_len hos.1.1.2
   rw[if_pos (by omega)] at hd
   have a:=lines_len t (d+1) ho.1.1.2 tt (by omega)
   have b:=lines_len e (d+1) ho.1.2 te (by omega)
   simp only[List.length_cons,List.length_append,tIf,List.length_nil,hp]
   split
   ·simp only[List.length_cons,List.length_append,tElse,List.length_nil,hp];omega
   ·simp only[List.length_cons];omega
  by_cases h5:h.kind=5
  ·rw[if_neg h0,if_neg h1,if_neg h2,if_neg h3,if_neg h4,if_pos h5] at hos ⊢
   simp only[Bool.and_eq_true] at hos
   have:=cond_len hos.1.1.1.2
   rw[if_pos (by omega)] at hd
   have a:=lines_len t (d+1) ho.1.1.2 tt (by omega)
   simp only[List.length_cons,List.length_append,tWhile,List.length_nil,hp];omega
  ·rw[if_neg h0,if_neg h1,if_neg h2,if_neg h3,if_neg h4,if_neg h5] at hos ⊢
   by_cases h6:h.kind=6
   ·rw[if_pos (by omega)] at hd
    have a:=lines_len t (d+1) ho.1.1.2 tt (by omega)
    simp only[List.length_cons,List.length_append,hp];omega
   ·rw[if_neg h6] at hos;cases hos
theorem fields_tlen {d:Nat} {k:List UInt8} (hd:d≤1): ∀l:List Dc,l.all okDecl=true→(fieldsT d l k).length≤l.length*50+k.length
 | [],_=>by simp[fieldsT]
 |x::l,h=>by
  simp only[List.all_cons,Bool.and_eq_true] at h
  have a:=decl_len h.1
  have b:=fields_tlen (k:=k) hd l h.2
  have c:=pad_len d
  simp only[fieldsT,List.length_append,List.length_cons,c] at*
  omega
theorem structs_tlen {k:List UInt8}: ∀l:List Sr,l.all okStruct=true→(∀x∈l,x.fields.l.length≤8010)→(structsT l k).length≤l.length*500000+k.length
 | [],_,_=>by simp[structsT]
 |x::l,h,g=>by
  simp only[List.all_cons,Bool.and_eq_true,okStruct] at h
  have a:=txt_len h.1.1
  have b:=structs_tlen (k:=k) l h.2 (fun y hy=>g y (List.mem_cons_of_mem _ hy))
  have c:=fields_tlen (d:=1) (k:=125::10::structsT l k) (by omega) x.fields.l (fields_decls h.1.2)
  have e:=g x List.mem_cons_self
  simp only[structsT,List.length_append,List.length_cons,tStruct,List.length_nil] at*
  omega
theorem procs_tlen: ∀l:List Pc,l.all okProc=true→(∀x∈l,dp x.body≤20)→(∀x∈l,x.params.l.length≤8010∧x.locals_.l.length≤8010∧tight 8010 x.body)→((procsT l).length:Int)≤l.length*1000000+cntP l*2000000
 | [],_,_,_=>by simp[procsT,cntP]
 |x::l,h,hd,g=>by
  simp only[List.all_cons,Bool.and_eq_true,okProc] at h
  have a:=txt_len h.1.1.1.1
  have b:=procs_tlen l h.2 (fun y hy=>hd y (List.mem_cons_of_mem _ hy)) (fun y hy=>g y (List.mem_cons_of_mem _ hy))
  obtain ⟨g1,g2,g3⟩:=g x List.mem_cons_self
  have c:=fields_tlen (d:=1) (k:=linesT x.body 1++125::10::procsT l) (by omega) x.locals_.l h.1.1.2
  have e:=lines_len x.body 1 h.1.2 g3 (by have:=hd x List.mem_cons_self;omega)
  have f:=comma_len (f:=declT) (B:=40) x.params.l (fun y hy=>decl_len (List.all_eq_true.1 h.1.1.1.2 y hy))
  simp only[procsT,cntP,List.length_append,List.length_cons,tVoid,List.length_nil] at*
  omega
theorem prog_tlen {p:Pg} (h:right p=true) (g:tightP 8010 p):(progT p).length≤100000000000:=by
 simp only[right,okProg,Bool.and_eq_true,decide_eq_true_eq] at h
 obtain ⟨⟨⟨⟨hs,hg⟩,hp⟩,hd⟩,hc⟩:=h
 obtain ⟨⟨g1,g2⟩,g3,g4,g5⟩:=g
 have a:=procs_tlen p.procs.l hp (fun x hx=>by have:=List.all_eq_true.1 hd x hx;simpa using this) g5
 have b:=fields_tlen (d:=0) (k:=procsT p.procs.l) (by omega) p.globals.l hg
 have c:=structs_tlen (k:=fieldsT 0 p.globals.l (procsT p.procs.l)) p.structs.l hs g2
 unfold progT
 omega
end Pn
end Go.Proofs.YtcehbcnloiooaaaGreatDoor
namespace Go.Proofs.YtcehbcnloiooaaaGreatDoor
namespace Pn
theorem stT_app (h:Hd) (t e:List UInt8) (d:Nat) (k:List UInt8):stT h t e d k=stT h t e d []++k:=by
 unfold stT
 split
 ·rfl
 split
 ·simp
 split
 ·simp
 split
 ·simp
 split
 ·split<;>simp
 split
 ·simp
 ·simp
theorem fieldsT_app (d:Nat): ∀(l:List Dc) (k:List UInt8),fieldsT d l k=fieldsT d l []++k
 | [],_=>rfl
 |x::l,k=>by simp only[fieldsT];rw[fieldsT_app d l k];simp
theorem fieldsT_snoc (d:Nat): ∀(l:List Dc) (x:Dc),fieldsT d (l++ [x]) []=fieldsT d l []++(pad d++(declT x++ [59,10]))
 | [],x=>by simp[fieldsT]
 |y::l,x=>by simp only[List.cons_append,fieldsT];rw[fieldsT_snoc d l x];simp
def srT (x:Sr):List UInt8:=tStruct++32::(txt x.name++32::123::10::(fieldsT 1 x.fields.l []++ [125,10]))
theorem structsT_app: ∀(l:List Sr) (k:List UInt8),structsT l k=structsT l []++k
 | [],_=>rfl
 |x::l,k=>by
  simp only[structsT]
  rw[fieldsT_app 1 x.fields.l (125::10::structsT l k),fieldsT_app 1 x.fields.l (125::10::structsT l []),structsT_app l k]
  simp
theorem structsT_snoc: ∀(l:List Sr) (x:Sr),structsT (l++ [x]) []=structsT l []++srT x
 | [],x=>by simp only[List.nil_append,structsT,srT];rw[fieldsT_app]
 |y::l,x=>by
  simp only[List.cons_append,structsT]
  rw[fieldsT_app 1 y.fields.l (125::10::structsT (l++ [x]) []),fieldsT_app 1 y.fields.l (125::10::structsT l []),structsT_snoc l x]
  simp
def pcT (x:Pc):List UInt8:=tVoid++32::(txt x.name++40::(commaT declT x.params.l++41::32::123::10::(fieldsT 1 x.locals_.l []++(linesT x.body 1++ [125,10]))))
theorem procsT_cons (x:Pc) (l:List Pc):procsT (x::l)=pcT x++procsT l:=by
 simp only[procsT,pcT]
 rw[fieldsT_app 1 x.locals_.l (linesT x.body 1++125::10::procsT l)]
 simp
theorem procsT_snoc: ∀(l:List Pc) (x:Pc),procsT (l++ [x])=procsT l++pcT x
 | [],x=>by
  rw[List.nil_append,procsT_cons];simp[procsT]
 |y::l,x=>by
  rw[List.cons_append,procsT_cons,procsT_cons,procsT_snoc l x];simp
theorem progT_eq (p:Pg):progT p=structsT p.structs.l []++(fieldsT 0 p.globals.l []++procsT p.procs.l):=by
 unfold progT
 rw[structsT_app,fieldsT_app]
theorem take_snoc {α:Type} (l:List α) (n:Nat) (h:n<l.length):l.take (n+1)=l.take n++ [l[n]]:=(List.take_append_getElem h).symm
theorem structs_part (l:List Sr) (n:Nat):(structsT (l.take n) []).length≤(structsT l []).length:=by
 have h:structsT l []=structsT (l.take n) []++structsT (l.drop n) []:=by
  rw[←structsT_app]
  induction n generalizing l with
  |zero=>rfl
  |succ n ih=>
   cases l with
   |nil=>rfl
   |cons x l=>simp only[List.take_succ_cons,List.drop_succ_cons,structsT];rw[ih l]
 rw[h,List.length_append];omega
theorem fields_part (d:Nat) (l:List Dc) (n:Nat):(fieldsT d (l.take n) []).length≤(fieldsT d l []).length:=by
 have h:fieldsT d l []=fieldsT d (l.take n) []++fieldsT d (l.drop n) []:=by
  rw[←fieldsT_app]
  induction n generalizing l with
  |zero=>rfl
  |succ n ih=>
   cases l with
   |nil=>rfl
   |cons x l=>simp only[List.take_succ_cons,List.drop_succ_cons,fieldsT];rw[ih l]
 rw[h,List.length_append];omega
theorem procs_part (l:List Pc) (n:Nat):(procsT (l.take n)).length≤(procsT l).length:=by
 have h:procsT l=procsT (l.take n)++procsT (l.drop n):=by
  induction n generalizing l with
  |zero=>rfl
  |succ n ih=>
   cases l with
   |nil=>rfl
   |cons x l=>simp only[List.take_succ_cons,List.drop_succ_cons];rw[procsT_cons,procsT_cons,ih l];simp
 rw[h,List.length_append];omega
theorem st0 {h:Hd} (k:h.kind=0) (t e:List UInt8) (d:Nat):stT h t e d []= [59,10]:=by unfold stT;rw[if_pos k]
theorem st1 {h:Hd} (k:h.kind=1) (t e:List UInt8) (d:Nat):stT h t e d []=pathT h.place++ [32,61,32]++valT h.value++ [59,10]:=by unfold stT;rw[if_neg (by omega),if_pos k];simp
theorem st2 {h:Hd} (k:h.kind=2) (t e:List UInt8) (d:Nat):stT h t e d []= [102,114,101,101,40]++pathT h.place++ [41,59,10]:=by unfold stT;rw[if_neg (by omega),if_neg (by omega),if_pos k];simp[tFree]
theorem st3 {h:Hd} (k:h.kind=3) (t e:List UInt8) (d:Nat):stT h t e d []=txt h.name++ [40]++commaT valT h.args.l++ [41,59,10]:=by unfold stT;rw[if_neg (by omega),if_neg (by omega),if_neg (by omega),if_pos k];simp
theorem st4b {h:Hd} (k:h.kind=4) (b:h.both=true) (t e:List UInt8) (d:Nat):stT h t e d []= [105,102,32,40]++condT h.cond++ [41,32,123,10]++t++pad d++ [125,32,101,108,115,101,32,123,10]++e++pad d++ [125,10]:=by
 unfold stT;rw[if_neg (by omega),if_neg (by omega),if_neg (by omega),if_neg (by omega),if_pos k,if_pos b];simp[tIf,tElse]
theorem st4 {h:Hd} (k:h.kind=4) (b:h.both=false) (t e:List UInt8) (d:Nat):stT h t e d []= [105,102,32,40]++condT h.cond++ [41,32,123,10]++t++pad d++ [125,10]:=by
 unfold stT;rw[if_neg (by omega),if_neg (by omega),if_neg (by omega),if_neg (by omega),if_pos k,if_neg (by rw[b];decide)];simp[tIf]
theorem st5 {h:Hd} (k:h.kind=5) (t e:List UInt8) (d:Nat):stT h t e d []= [119,104,105,108,101,32,40]++condT h.cond++ [41,32,123,10]++t++pad d++ [125,10]:=by
 unfold stT;rw[if_neg (by omega),if_neg (by omega),if_neg (by omega),if_neg (by omega),if_neg (by omega),if_pos k];simp[tWhile]
theorem st6 {h:Hd} (k:6≤h.kind) (t e:List UInt8) (d:Nat):stT h t e d []= [123,10]++t++pad d++ [125,10]:=by
 unfold stT;rw[if_neg (by omega),if_neg (by omega),if_neg (by omega),if_neg (by omega),if_neg (by omega),if_neg (by omega)];simp
end Pn
end Go.Proofs.YtcehbcnloiooaaaGreatDoor
namespace Go.Proofs.YtcehbcnloiooaaaGreatDoor
namespace Pn
end Pn
end Go.Proofs.YtcehbcnloiooaaaGreatDoor
namespace Go.Proofs.YtcehbcnloiooaaaGreatDoor
open Go.RowKit Go.Sort
namespace Pn
end Pn
theorem size40:(Tryz.prog.info? 37).map (·.size)=some 6:=by kernel_rfl
end Go.Proofs.YtcehbcnloiooaaaGreatDoor
namespace Go.Proofs.YtcehbcnloiooaaaGreatDoor
open Go.RowKit Go.Sort
end Go.Proofs.YtcehbcnloiooaaaGreatDoor
namespace Go.Proofs.YtcehbcnloiooaaaGreatDoor
open Go.RowKit Go.Sort
theorem Pb.cell2 {B b:Nat} {l:List UInt8} {op:Int} {w:World} (h:Pb B b l op w):w.cell? ⟨b,2,none⟩=some (.int .i64 op)∧w.frozen? ⟨b,2,none⟩=false∧B≤b:=by
 rcases h with h |h
 ·exact ⟨h.cell.2.1,h.cell.2.2.2 2,h.1⟩
 ·exact ⟨h.cell.2.1,h.cell.2.2.2 2,h.1⟩
theorem Pb.open_ {B b:Nat} {l:List UInt8} {op:Int} {w:World} (h:Pb B b l op w) (n:Int):Pb B b l n (w.setCell ⟨b,2,none⟩ (.int .i64 n)):=by
 have go: ∀a,PbA B b l op a w→PbA B b l n a (w.setCell ⟨b,2,none⟩ (.int .i64 n)):=by
  rintro a ⟨hB,v,hb,ho,hn⟩
  exact ⟨hB,v,by simp[World.setCell,Array.getElem?_modify,hb],own_set ho hn _ _,hn⟩
 exact h.elim (fun x=> .inl (go _ x)) (fun x=> .inr (go _ x))
end Go.Proofs.YtcehbcnloiooaaaGreatDoor
namespace Go.Proofs.YtcehbcnloiooaaaGreatDoor
open Go.RowKit Go.Sort
theorem enters35: ∀args w,(callFunc 124 args).run Tryz.prog w= .ok (.enter 124 args) w:=enters Tryz.func124 (by kernel_rfl) rfl
theorem enters47: ∀args w,(callFunc 93 args).run Tryz.prog w= .ok (.enter 93 args) w:=enters Tryz.func93 (by kernel_rfl) rfl
end Go.Proofs.YtcehbcnloiooaaaGreatDoor
