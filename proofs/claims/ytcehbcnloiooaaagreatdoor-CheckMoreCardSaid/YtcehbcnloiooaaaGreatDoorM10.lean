/-
  The printer's texts: items parted by commas. The printer at the page's procedure. The printer's lines, and that they leave all other blocks as they are. The printer: lines, declarations, structs.
-/
import Derived.Test.YtcehbcnloiooaaaGreatDoorM09
import Derived.Deep.OwnRows
import Derived.Test.YtcehbcnloiooaaaGreatDoorM05
set_option maxHeartbeats 6400000
set_option maxRecDepth 100000
namespace Go.Proofs.YtcehbcnloiooaaaGreatDoor
open Go.RowKit Go.Sort
theorem infoStr:(Tryz.prog.info? 9).map (fun i=>(i.zero,i.size,i.bytes))=some (some (.string ⟨#[]⟩),1,16):=by kernel_rfl
def rowT {α:Type} (f:α→List UInt8) (l:List α) (n:Nat):List Value:=(l.take n).map (fun x=> .string (bt (f x)))++List.replicate (l.length-n) (.string ⟨#[]⟩)
theorem made_strs {α:Type} {f:α→List UInt8} {l:List α}:madeCells #[.string ⟨#[]⟩] l.length=(rowT f l 0).toArray:=by
 apply Array.ext'
 rw[toList_madeCells_one];rfl
theorem rowT_full {α:Type} (f:α→List UInt8) (l:List α):rowT f l l.length=l.map fun x=> .string (bt (f x)):=by
 unfold rowT;rw[List.take_length,Nat.sub_self];simp
theorem rowT_at {α:Type} (f:α→List UInt8) (l:List α) (n:Nat) (h:n<l.length):(rowT f l n)[n]? =some (.string ⟨#[]⟩):=by
 have hl:((l.take n).map (fun x=>Value.string (bt (f x)))).length=n:=by rw[List.length_map,List.length_take];omega
 unfold rowT
 rw[List.getElem?_append_right (by omega),hl,Nat.sub_self,List.getElem?_replicate,if_pos (by omega)]
theorem rowT_set {α:Type} (f:α→List UInt8) (l:List α) (n:Nat) (h:n<l.length):(rowT f l n).set n (.string (bt (f l[n])))=rowT f l (n+1):=by
 have hl:((l.take n).map (fun x=>Value.string (bt (f x)))).length=n:=by rw[List.length_map,List.length_take];omega
 unfold rowT
 rw[List.set_append_right _ _ (by omega),hl,Nat.sub_self,←List.take_append_getElem h,List.map_append]
 rw[show l.length-n=(l.length-(n+1))+1 by omega,List.replicate_succ]
 simp
theorem join_comma {α:Type} (f:α→List UInt8) (l:List α):Lib.join ((l.map fun x=>bt (f x)).map (·.data.toList)) (⟨#[44,32]⟩:ByteArray).data.toList=Pn.commaT f l:=by
 rw[List.map_map]
 have e:((fun x:ByteArray=>x.data.toList)∘fun x=>bt (f x))=f:=by funext x;rfl
 rw[e,show (⟨#[44,32]⟩:ByteArray).data.toList= [44,32] from rfl]
 have tl: ∀(l:List α) (a:α),f a++Lib.joinTail [44,32] (l.map f)=Pn.commaT f (a::l):=by
  intro l
  induction l with
  |nil=>intro a;simp[Lib.joinTail,Pn.commaT]
  |cons b l ih=>
   intro a
   show f a++(([44,32]++f b)++Lib.joinTail [44,32] (l.map f))=f a++44::32::Pn.commaT f (b::l)
   rw[←ih b,List.append_assoc];rfl
 cases l with
 |nil=>rfl
 |cons a l=>rw[List.map_cons,Lib.join_cons];exact tl l a
theorem enters74: ∀args w,(callFunc 144 args).run Tryz.prog w= .ok (.enter 144 args) w:=enters Tryz.func144 (by kernel_rfl) rfl
theorem variableX_any (x:Dc) (b o:Nat) (w:World) (ho:Pn.okDecl x=true) (hr:w.rangeAt b o x.cells):
  Calls Tryz.prog 121 #[.pointer (some ⟨b,o,none⟩)] w fun e w'=>e= .returned (.string (bt (Pn.declT x)))∧Below w.heap.size w w':=by
 have c0:w.cell? ⟨b,o,none⟩=some (.string x.type):=cell_at hr 0 _ rfl
 have c1:w.cell? ⟨b,o+1,none⟩=some (.string x.name):=cell_at hr 1 _ rfl
 unfold Pn.okDecl at ho
 simp only[Bool.and_eq_true,Bool.or_eq_true,decide_eq_true_eq] at ho
 obtain ⟨hn,ht⟩:=ho
 have s1:=(Pn.okN_nameB hn).1
 unfold Pn.declT
 by_cases h0:Pn.txt x.type= []
 ·rw[if_pos h0]
  have he:=e_txt h0
  clear h0 ht hn hr
  go_enter Tryz.func121,Tryz.ntmps121
  go_wp2_with fail
  go_ret
  exact ⟨ret_text (ba_ext (by simp[bt,Pn.txt,Pn.tInt])),Below.refl _ _⟩
 ·rw[if_neg h0]
  have ht:=ht.resolve_left h0
  have s2:=(Pn.okN_nameB ht).1
  have he:=okN_ne ht
  clear h0 ht hn hr
  go_enter Tryz.func121,Tryz.ntmps121
  go_wp2_with fail
  go_region
  all_goals (go_wp2_with fail;go_ret;exact ⟨ret_text (ba_ext (by simp[bt,Pn.txt])),by first |exact Below.refl _ _ |exact below_drewN_ (Below.refl _ _) _⟩)
theorem enters85: ∀args w,(callFunc 121 args).run Tryz.prog w= .ok (.enter 121 args) w:=enters Tryz.func121 (by kernel_rfl) rfl
theorem commasV_any (l:List Vl) (p:Option Addr) (c:Nat) (w:World) (hG:Gp w) (h1:Lay 12 Vl.cells vlLies w p l) (ho: ∀x∈l,Pn.okVal x=true) (hn:l.length≤8010):
  Calls Tryz.prog 145 #[.slice p l.length c,.func (.func 144) #[] #[]] w fun e w'=>e= .returned (.string (bt (Pn.commaT Pn.valT l)))∧Below w.heap.size w w':=by
 obtain ⟨_,h1⟩:=h1
 have H1:=hdn h1;have HO:=hdn ho
 obtain ⟨wM,hwM⟩: ∃wM:World,wM=w.alloc (.cells (madeCells #[.string ⟨#[]⟩] l.length) 9):=⟨_,rfl⟩
 have HBM:Hid (Below w.heap.size w wM):=hdn (by rw[hwM];exact (Below.refl _ _).alloc (Nat.le_refl _) _)
 have HKM:Hid (Bk wM w.heap.size 9 (rowT Pn.valT l 0).toArray):=hdn (by rw[hwM,made_strs];exact heap_alloc_new _ _)
 have hmk:(Instr.makeSlice 154 (.int .i64 l.length) (.int .i64 l.length)).run Tryz.prog w= .ok (.slice (some ⟨w.heap.size,0,none⟩) l.length l.length) wM:=by rw[hwM];exact run_make_row' 154 9 (.string ⟨#[]⟩) 16 Tryz.underlying154 infoStr rfl .i64 .i64 l.length (by omega) (by omega) w
 have HG:=hdn hG
 have HJ:Hid (∀w':World,Bk w' w.heap.size 9 (rowT Pn.valT l l.length).toArray→Calls Tryz.prog 142 #[.slice (some ⟨w.heap.size,0,none⟩) l.length l.length,.string ⟨#[44,32]⟩] w' fun e w''=>e= .returned (.string (bt (Pn.commaT Pn.valT l)))∧Below w'.heap.size w' w''):=hdn (fun w' hk=>by
  have hlen:(l.map fun x=>bt (Pn.valT x)).length=l.length:=List.length_map _
  have hJ:=Tryz.strings_Join w.heap.size 0 l.length (l.map fun x=>bt (Pn.valT x)) ⟨#[44,32]⟩ w' (fun j x hx=>by
   rw[Nat.zero_add,hk.cell j]
   have:=rowT_full Pn.valT l
   rw[this,List.getElem?_toArray,List.getElem?_map]
   rw[List.getElem?_map] at hx
   obtain ⟨y,hy,rfl⟩:=Option.map_eq_some_iff.1 hx
   rw[hy];rfl) hk.lt (by rw[hlen];omega) (by rw[hlen];exact Nat.le_refl _) (by
    rw[join_comma]
    have:=Pn.comma_len (f:=Pn.valT) (B:=200) l (fun a ha=>Pn.val_len (HO.out a ha))
    omega)
  rw[hlen,join_comma] at hJ
  exact hJ)
 clear h1 ho hwM hG
 have hcl:=enters74
 go_enter Tryz.func145,Tryz.ntmps145
 go_wp2_with fail
 obtain ⟨R,hR⟩: ∃R,R=w.heap.size:=⟨_,rfl⟩
 rw[←hR] at HKM HJ ⊢
 have HR:=hdn hR
 clear hR
 go_loopw [12] (fun i wr=> ∃n:Nat,n≤l.length∧i= .int .i64 n∧Hid (Below w.heap.size w wr)∧Hid (Bk wr R 9 (rowT Pn.valT l n).toArray)) (fun i _=>l.length-(intOf i).toNat)
 case atStart=>exact ⟨0,Nat.zero_le _,rfl,HBM,HKM⟩
 case round=>
  obtain ⟨n,hnn,rfl,HB,HK⟩:=hrel
  by_cases hnl:n<l.length
  ·obtain ⟨b1,o1,rfl,hx⟩: ∃b o,p=some ⟨b,o,none⟩∧∀k x,l[k]? =some x→w.rangeAt b (o+k*12) (Vl.cells x)∧vlLies w x:=by
    rcases H1.out with h |h
    ·rw[h] at hnl;simp at hnl
    ·exact h
   have hxn:=hx n l[n] (List.getElem?_eq_getElem hnl)
   have hok:=HO.out l[n] (List.getElem_mem hnl)
   have HN:Hid (∀w':World,Bk w' R 9 (rowT Pn.valT l n).toArray→Bk (w'.setCell ⟨R,n,none⟩ (.string (bt (Pn.valT l[n])))) R 9 (rowT Pn.valT l (n+1)).toArray):=hdn (fun w' h=>by
    have:=h.setArr n (.string (bt (Pn.valT l[n])))
    rwa[rowT_set Pn.valT l n hnl] at this)
   have HC0:Hid (∀w':World,Bk w' R 9 (rowT Pn.valT l n).toArray→w'.cell? ⟨R,n,none⟩=some (.string ⟨#[]⟩)):=hdn (fun w' h=>by rw[h.cell n,List.getElem?_toArray,rowT_at Pn.valT l n hnl])
   generalize l[n]=x at hxn hok HN
   have HC:=hdn (valX_any x b1 (o1+n*12) wr (HG.out.go HB.out) (rangeAt_below hxn.1 HB.out) (vlLies_below hxn.2 HB.out) hok)
   have hn0:(0:Int)≤(n:Int):=Int.natCast_nonneg _
   have hn1:(n:Int)<(l.length:Int):=by omega
   clear hx hxn hok
   generalize bt (Pn.valT x)=tx at*
   go_wp2_with fail
   refine HC.out.mono ?_;rintro e w1 ⟨rfl,hb⟩
   have HK1:=hdn (HK.out.below hb HK.out.lt)
   have d1:=HC0.out w1 HK1.out
   have f1:=HK1.out.frozen n
   have HK2:=hdn (HN.out w1 HK1.out)
   have HB2:Hid (Below w.heap.size w (w1.setCell ⟨R,n,none⟩ (.string tx))):=hdn (below_by (HB.out.trans (hb.mono HB.out.size)) (grownBy_setC w1 ⟨R,n,none⟩ (.string tx)) (by rw[HR.out];exact Nat.le_refl _))
   clear hb
   go_wp2_with fail
   go_roundw
   case rel=>exact ⟨n+1,by omega,by go_num,HB2,HK2⟩
   case measure=>simp[intOf];omega
  ·obtain rfl:n=l.length:=by omega
   have CJ:=hdn (HJ.out _ HK.out)
   have hc1: ¬((l.length:Int)<(l.length:Int)):=by omega
   obtain ⟨tx,htx⟩: ∃tx,tx=bt (Pn.commaT Pn.valT l):=⟨_,rfl⟩
   rw[←htx] at CJ
   have HTX:=hdn htx
   clear htx
   go_wp2_with (go_at_call 142;refine CJ.out.mono ?_;rintro e w1 ⟨rfl,hb⟩;have HB1:=hdn (HB.out.trans (hb.mono HB.out.size));clear hb)
   go_ret
   exact ⟨ret_text HTX.out,HB1.out⟩
theorem commasD_any (l:List Dc) (p:Option Addr) (c:Nat) (w:World) (h1:Lay 3 Dc.cells triv w p l) (ho: ∀x∈l,Pn.okDecl x=true) (hn:l.length≤8010):
  Calls Tryz.prog 122 #[.slice p l.length c,.func (.func 121) #[] #[]] w fun e w'=>e= .returned (.string (bt (Pn.commaT Pn.declT l)))∧Below w.heap.size w w':=by
 obtain ⟨_,h1⟩:=h1
 have H1:=hdn h1;have HO:=hdn ho
 obtain ⟨wM,hwM⟩: ∃wM:World,wM=w.alloc (.cells (madeCells #[.string ⟨#[]⟩] l.length) 9):=⟨_,rfl⟩
 have HBM:Hid (Below w.heap.size w wM):=hdn (by rw[hwM];exact (Below.refl _ _).alloc (Nat.le_refl _) _)
 have HKM:Hid (Bk wM w.heap.size 9 (rowT Pn.declT l 0).toArray):=hdn (by rw[hwM,made_strs];exact heap_alloc_new _ _)
 have hmk:(Instr.makeSlice 154 (.int .i64 l.length) (.int .i64 l.length)).run Tryz.prog w= .ok (.slice (some ⟨w.heap.size,0,none⟩) l.length l.length) wM:=by rw[hwM];exact run_make_row' 154 9 (.string ⟨#[]⟩) 16 Tryz.underlying154 infoStr rfl .i64 .i64 l.length (by omega) (by omega) w
 have HJ:Hid (∀w':World,Bk w' w.heap.size 9 (rowT Pn.declT l l.length).toArray→Calls Tryz.prog 142 #[.slice (some ⟨w.heap.size,0,none⟩) l.length l.length,.string ⟨#[44,32]⟩] w' fun e w''=>e= .returned (.string (bt (Pn.commaT Pn.declT l)))∧Below w'.heap.size w' w''):=hdn (fun w' hk=>by
  have hlen:(l.map fun x=>bt (Pn.declT x)).length=l.length:=List.length_map _
  have hJ:=Tryz.strings_Join w.heap.size 0 l.length (l.map fun x=>bt (Pn.declT x)) ⟨#[44,32]⟩ w' (fun j x hx=>by
   rw[Nat.zero_add,hk.cell j]
   have:=rowT_full Pn.declT l
   rw[this,List.getElem?_toArray,List.getElem?_map]
   rw[List.getElem?_map] at hx
   obtain ⟨y,hy,rfl⟩:=Option.map_eq_some_iff.1 hx
   rw[hy];rfl) hk.lt (by rw[hlen];omega) (by rw[hlen];exact Nat.le_refl _) (by
    rw[join_comma]
    have:=Pn.comma_len (f:=Pn.declT) (B:=200) l (fun a ha=>Nat.le_trans (decl_len (HO.out a ha)) (by decide))
    omega)
  rw[hlen,join_comma] at hJ
  exact hJ)
 clear h1 ho hwM
 have hcl:=enters85
 go_enter Tryz.func122,Tryz.ntmps122
 go_wp2_with fail
 obtain ⟨R,hR⟩: ∃R,R=w.heap.size:=⟨_,rfl⟩
 rw[←hR] at HKM HJ ⊢
 have HR:=hdn hR
 clear hR
 go_loopw [12] (fun i wr=> ∃n:Nat,n≤l.length∧i= .int .i64 n∧Hid (Below w.heap.size w wr)∧Hid (Bk wr R 9 (rowT Pn.declT l n).toArray)) (fun i _=>l.length-(intOf i).toNat)
 case atStart=>exact ⟨0,Nat.zero_le _,rfl,HBM,HKM⟩
 case round=>
  obtain ⟨n,hnn,rfl,HB,HK⟩:=hrel
  by_cases hnl:n<l.length
  ·obtain ⟨b1,o1,rfl,hx⟩: ∃b o,p=some ⟨b,o,none⟩∧∀k x,l[k]? =some x→w.rangeAt b (o+k*3) (Dc.cells x)∧triv w x:=by
    rcases H1.out with h |h
    ·rw[h] at hnl;simp at hnl
    ·exact h
   have hxn:=hx n l[n] (List.getElem?_eq_getElem hnl)
   have hok:=HO.out l[n] (List.getElem_mem hnl)
   have HN:Hid (∀w':World,Bk w' R 9 (rowT Pn.declT l n).toArray→Bk (w'.setCell ⟨R,n,none⟩ (.string (bt (Pn.declT l[n])))) R 9 (rowT Pn.declT l (n+1)).toArray):=hdn (fun w' h=>by
    have:=h.setArr n (.string (bt (Pn.declT l[n])))
    rwa[rowT_set Pn.declT l n hnl] at this)
   have HC0:Hid (∀w':World,Bk w' R 9 (rowT Pn.declT l n).toArray→w'.cell? ⟨R,n,none⟩=some (.string ⟨#[]⟩)):=hdn (fun w' h=>by rw[h.cell n,List.getElem?_toArray,rowT_at Pn.declT l n hnl])
   generalize l[n]=x at hxn hok HN
   have HC:=hdn (variableX_any x b1 (o1+n*3) wr hok (rangeAt_below hxn.1 HB.out))
   have hn0:(0:Int)≤(n:Int):=Int.natCast_nonneg _
   have hn1:(n:Int)<(l.length:Int):=by omega
   clear hx hxn hok
   generalize bt (Pn.declT x)=tx at*
   go_wp2_with fail
   refine HC.out.mono ?_;rintro e w1 ⟨rfl,hb⟩
   have HK1:=hdn (HK.out.below hb HK.out.lt)
   have d1:=HC0.out w1 HK1.out
   have f1:=HK1.out.frozen n
   have HK2:=hdn (HN.out w1 HK1.out)
   have HB2:Hid (Below w.heap.size w (w1.setCell ⟨R,n,none⟩ (.string tx))):=hdn (below_by (HB.out.trans (hb.mono HB.out.size)) (grownBy_setC w1 ⟨R,n,none⟩ (.string tx)) (by rw[HR.out];exact Nat.le_refl _))
   clear hb
   go_wp2_with fail
   go_roundw
   case rel=>exact ⟨n+1,by omega,by go_num,HB2,HK2⟩
   case measure=>simp[intOf];omega
  ·obtain rfl:n=l.length:=by omega
   have CJ:=hdn (HJ.out _ HK.out)
   have hc1: ¬((l.length:Int)<(l.length:Int)):=by omega
   obtain ⟨tx,htx⟩: ∃tx,tx=bt (Pn.commaT Pn.declT l):=⟨_,rfl⟩
   rw[←htx] at CJ
   have HTX:=hdn htx
   clear htx
   go_wp2_with (go_at_call 142;refine CJ.out.mono ?_;rintro e w1 ⟨rfl,hb⟩;have HB1:=hdn (HB.out.trans (hb.mono HB.out.size));clear hb)
   go_ret
   exact ⟨ret_text HTX.out,HB1.out⟩
end Go.Proofs.YtcehbcnloiooaaaGreatDoor
namespace Go.Proofs.YtcehbcnloiooaaaGreatDoor
open Go.RowKit Go.Sort
theorem Pb.below {B b:Nat} {l:List UInt8} {op:Int} {w w':World} (h:Pb B b l op w) (hb:Below w.heap.size w w'):Pb B b l op w':=by
 have go: ∀a,PbA B b l op a w→PbA B b l op a w':=by
  rintro a ⟨hB,v,hk,ho,hn⟩
  have hlt:b<w.heap.size:=(Array.getElem?_eq_some_iff.1 hk).1
  refine ⟨hB,v,(hb.block b hlt).trans hk,ho.kept (grownBy_of hb none) ?_,hn⟩
  cases hv:v.ownBlock with
  |none=>exact .inl rfl
  |some k=>exact .inr (by intro e;cases e)
 exact h.elim (fun x=> .inl (go _ x)) (fun x=> .inr (go _ x))
theorem Pb.drew {B b:Nat} {l:List UInt8} {op:Int} {w:World} (h:Pb B b l op w) (n:Nat):Pb B b l op (w.drewN n):=h.below (below_drewN_ (Below.refl _ _) n)
def tProg:List UInt8:= [118,111,105,100,32,112,40,41,32,123,10,32,32,120,32,61,32,110,117,108,108,59,10,125,10]
end Go.Proofs.YtcehbcnloiooaaaGreatDoor
namespace Go.Proofs.YtcehbcnloiooaaaGreatDoor
open Go.RowKit Go.Sort
def Keep (b:Nat) (w w':World):Prop:= ∀k t cs,k≠b→t≠5→Bk w k t cs→Bk w' k t cs
theorem Keep.refl (b:Nat) (w:World):Keep b w w:=fun _ _ _ _ _ h=>h
theorem Keep.trans {b:Nat} {w w' w'':World} (h:Keep b w w') (k:Keep b w' w''):Keep b w w'':=fun _ _ _ h1 h2 h3=>k _ _ _ h1 h2 (h _ _ _ h1 h2 h3)
theorem Keep.below {b:Nat} {w w':World} (h:Below w.heap.size w w'):Keep b w w':=fun _ _ _ _ _ hk=>hk.below h hk.lt
theorem Keep.set {b:Nat} (w:World) (i:Nat) (v:Value):Keep b w (w.setCell ⟨b,i,none⟩ v):=fun _ _ _ h1 _ hk=>hk.far h1 v
theorem Keep.alloc {b:Nat} (w:World) (o:Obj):Keep b w (w.alloc o):=Keep.below ((Below.refl _ _).alloc (Nat.le_refl _) _)
theorem Keep.grown {b B n:Nat} {w w':World} {v:Value} {xs:List Value} (ho:w.ownsRow B 5 1 v n xs) (hg:w.grownBy w' v.ownBlock):Keep b w w':=by
 intro k t cs _ ht hk
 have hne:k≠v.ownBlock.getD (k+1):=by
  intro e
  rcases ho.2 with ⟨hv,_⟩|⟨g,cap,cur,hv,_,hgb,_⟩
  ·rw[hv] at e;simp[Value.ownBlock] at e
  ·rw[hv] at e
   have e2:k=g:=e
   subst e2
   unfold Bk at hk
   rw[hgb] at hk
   injection hk with hk;injection hk with _ hk _
   exact ht hk.symm
 unfold Bk at hk ⊢
 rw[←hk]
 refine hg.block k (Array.getElem?_eq_some_iff.1 hk).1 ?_
 intro e
 rw[←e] at hne
 exact hne rfl
theorem copyCheck_k (B b:Nat) (l:List UInt8) (op:Int) (w:World) (h:Pb B b l op w):
  Calls Tryz.prog 162 #[.pointer (some ⟨b,0,none⟩)] w fun e w'=>e= .returned (.tuple #[])∧PbA B b l op (.pointer (some ⟨b,0,none⟩)) w'∧Below B w w'∧Keep b w w':=by
 rcases h with h |h
 ·obtain ⟨c0,_,hs,hf⟩:=h.cell
  refine (copyCheck_fresh b w c0 hs (hf 0)).mono ?_
  rintro e w' ⟨rfl,rfl⟩
  obtain ⟨hB,v,hb,ho,hn⟩:=h
  exact ⟨rfl,⟨hB,v,by simp[World.setCell,Array.getElem?_modify,hb],own_set ho hn _ _,hn⟩,(Below.refl B w).setCell (p:=⟨b,0,none⟩) hB _,Keep.set w 0 _⟩
 ·refine (copyCheck_used b w h.cell.1).mono ?_
  rintro e w' ⟨rfl,rfl⟩
  exact ⟨rfl,h,Below.refl B _,Keep.refl _ _⟩
theorem writeStr_k (B b:Nat) (l:List UInt8) (op:Int) (s:ByteArray) (w:World) (h:Pb B b l op w) (hlen:l.length+s.size≤140737488355328) (hBw:B≤w.heap.size):
  Calls Tryz.prog 140 #[.pointer (some ⟨b,0,none⟩),.string s] w fun e w'=>e= .returned (.tuple #[.int .i64 s.size,.nilIface])∧Pb B b (l++s.data.toList) op w'∧Below B w w'∧Keep b w w':=by
 obtain ⟨i0,hi,hz0,hz1,hz2⟩:=info_parts infoByte
 go_enter Tryz.func140,Tryz.ntmps140
 go_wp2_with (go_at_call 162;refine (copyCheck_k B b l op _ h).mono ?_)
 rintro e w1 ⟨rfl,h1,hb1,hk1⟩
 obtain ⟨c0,c2,_,hf⟩:=h1.cell
 obtain ⟨hB,v,hbk,hown,hne⟩:=h1
 have c1:w1.cell? ⟨b,1,none⟩=some v:=cell_of_row _ _ 1 _ _ _ hbk
 go_wp2_with (at_builtin;refine Lib.wpList_append_own_string _ rfl _ _ 145 9 rfl B 5 i0 Tryz.underlying145 Tryz.underlying9 hi hz0 hz1 hz2 _ _ _ rfl hown s rfl ?c3 ?c4 ?c5 ?_)
 case c3=>unfold maxLen;omega
 case c4=>omega
 case c5=>have:=hb1.size;omega
 intro v' w2 hown' hgrow _
 have hlt:b<w1.heap.size:=(Array.getElem?_eq_some_iff.1 hbk).1
 have hb2:w2.heap[b]? =some (.cells #[.pointer (some ⟨b,0,none⟩),v,.int .i64 op] 149 (0,0)):=by
  rw[hgrow.block b hlt (fun e=>hne e.symm)]
  exact hbk
 have d1:w2.cell? ⟨b,1,none⟩=some v:=cell_of_row _ _ 1 _ _ _ hb2
 have f1:w2.frozen? ⟨b,1,none⟩=false:=frozen_of_row w2 b 1 _ _ hb2
 obtain ⟨ao,n',cap,rfl⟩: ∃ao n' cap,v'= .slice ao n' cap:=by
  rcases hown'.2 with ⟨hv,_⟩|⟨g,cap,cur,hv,_⟩
  ·exact ⟨_,_,_,hv⟩
  ·exact ⟨_,_,_,hv⟩
 go_wp2
 refine bodyPost_ret (results_tmp2 rfl _ _ _) rfl ?_
 refine ⟨rfl,.inr (PbA.put hB hb2 (l':=l++s.data.toList) ?_), ?_,hk1.trans ((Keep.grown hown hgrow).trans (Keep.set _ 1 _))⟩
 ·rw[Lib.byteCells_append,←Lib.strCells_eq,List.length_append,show s.data.toList.length=s.size from rfl];exact hown'
 ·exact (hb1.grown hgrow (by have:=hb1.size;omega) (fun k hk=>(hown.lt k hk).1)).setCell (p:=⟨b,1,none⟩) hB _
theorem writeByte_k (B b:Nat) (l:List UInt8) (op:Int) (c:UInt8) (w:World) (h:Pb B b l op w) (hlen:l.length+1≤140737488355328) (hBw:B≤w.heap.size):
  Calls Tryz.prog 141 #[.pointer (some ⟨b,0,none⟩),.int .u8 (c.toNat:Int)] w fun e w'=>e= .returned .nilIface∧Pb B b (l++ [c]) op w'∧Below B w w'∧Keep b w w':=by
 obtain ⟨i0,hi,hz0,hz1,hz2⟩:=info_parts infoByte
 obtain ⟨C,hC⟩: ∃C:Int,C=(c.toNat:Int):=⟨_,rfl⟩
 have HC:=hdn hC
 rw[←hC]
 clear hC
 go_enter Tryz.func141,Tryz.ntmps141
 go_wp2_with (go_at_call 162;refine (copyCheck_k B b l op _ h).mono ?_)
 rintro e w1 ⟨rfl,h1,hb1,hk1⟩
 obtain ⟨c0,c2,_,hf⟩:=h1.cell
 obtain ⟨hB,v,hbk,hown,hne⟩:=h1
 have c1:w1.cell? ⟨b,1,none⟩=some v:=cell_of_row _ _ 1 _ _ _ hbk
 go_wp2_with (at_builtin;refine wpList_append_own _ rfl _ _ 145 rfl B 5 i0 (.int .u8 0) 1 1 Tryz.underlying145 hi hz0 hz1 hz2 rfl (by decide) _ _ _ rfl (hown.alloc _) ⟨w1.heap.size,0,none⟩ 1 1 [.int .u8 C] rfl rfl ?c1 ?c2 ?c3 ?c4 ?c5 ?_)
 case c1=>
  intro j u hj
  match j,hj with
  |0,hj=>simp at hj;subst hj;simp[Addr.add]
 case c2=>intro u hu;simp at hu;subst hu;rfl
 case c3=>unfold maxLen;omega
 case c4=>omega
 case c5=>have:=hb1.size;simp;omega
 intro v' w2 hown' hgrow _
 have hlt:b<w1.heap.size:=(Array.getElem?_eq_some_iff.1 hbk).1
 have hb2:w2.heap[b]? =some (.cells #[.pointer (some ⟨b,0,none⟩),v,.int .i64 op] 149 (0,0)):=by
  rw[hgrow.block b (by simp;omega) (fun e=>hne e.symm),heap_alloc_old w1 _ hlt]
  exact hbk
 have d1:w2.cell? ⟨b,1,none⟩=some v:=cell_of_row _ _ 1 _ _ _ hb2
 have f1:w2.frozen? ⟨b,1,none⟩=false:=frozen_of_row w2 b 1 _ _ hb2
 obtain ⟨g,cap,rfl⟩: ∃g cap,v'= .slice (some ⟨g,0,none⟩) (l.length+1) cap:=by
  rcases hown'.2 with ⟨_,h0⟩|⟨g,cap,cur,hv,_⟩
  ·omega
  ·exact ⟨g,cap,hv⟩
 go_wp2
 go_ret
 refine ⟨rfl,.inr (PbA.put hB hb2 (l':=l++ [c]) ?_), ?_,hk1.trans ((Keep.alloc _ _).trans ((Keep.grown (hown.alloc _) hgrow).trans (Keep.set _ 1 _)))⟩
 ·rw[Lib.byteCells_append,List.length_append];rw[HC.out] at hown';exact hown'
 ·exact ((hb1.alloc (by have:=hb1.size;omega) _).grown hgrow (by have:=hb1.size;simp;omega) (fun k hk=>(hown.lt k hk).1)).setCell (p:=⟨b,1,none⟩) hB _
theorem line_k (B b:Nat) (l:List UInt8) (d:Nat) (s:ByteArray) (w:World) (h:Pb B b l (d:Int) w) (hd:d≤100) (hl:l.length≤100000000000) (hs:s.size≤1000000000) (hBw:B≤w.heap.size):
  Calls Tryz.prog 120 #[.pointer (some ⟨b,0,none⟩),.string s] w fun e w'=>e= .returned (.tuple #[])∧Pb B b (l++Pn.pad d++s.data.toList++ [10]) (d:Int) w'∧Below B w w'∧Keep b w w':=by
 have HP:=hdn h
 have c2:=h.cell2.1
 have hd0:(0:Int)≤(d:Int):=Int.natCast_nonneg _
 clear h
 go_enter Tryz.func120,Tryz.ntmps120
 go_wp2_with fail
 clear c2
 go_loopw [8] (fun i wr=> ∃n:Nat,n≤d∧i= .int .i64 n∧Hid (Pb B b (l++Pn.pad n) (d:Int) wr)∧Hid (Below B w wr)∧Hid (Keep b w wr)) (fun i _=>d-(intOf i).toNat)
 case atStart=>exact ⟨0,Nat.zero_le _,rfl,by rw[show Pn.pad 0= [] from rfl,List.append_nil];exact HP,hdn (Below.refl _ _),hdn (Keep.refl _ _)⟩
 case round=>
  obtain ⟨n,hn,rfl,HPN,HB,HQ⟩:=hrel
  have hp:=pad_len n
  have hw:=HB.out.size
  by_cases hnd:n<d
  ·have hn1:(n:Int)<(d:Int):=by omega
   have CW:=writeStr_k B b (l++Pn.pad n) d ⟨#[32,32]⟩ wr HPN.out (by rw[List.length_append,hp,show (⟨#[32,32]⟩:ByteArray).size=2 from rfl];omega) (by omega)
   go_wp2_with (go_at_call 140;refine CW.mono ?_;rintro e w1 ⟨rfl,h1,hb,hq⟩;have HP1:=hdn h1;have HB1:=hdn (HB.out.trans hb);have HQ1:=hdn (HQ.out.trans hq);clear hq;clear h1 hb)
   go_roundw
   case rel=>exact ⟨n+1,by omega,by go_num,hdn (by have:=HP1.out;rw[List.append_assoc] at this;exact this),HB1,HQ1⟩
   case measure=>simp[intOf];omega
  ·obtain rfl:n=d:=by omega
   have CW:=writeStr_k B b (l++Pn.pad n) n s wr HPN.out (by rw[List.length_append,hp];omega) (by omega)
   have CB:Hid (∀w',Pb B b (l++Pn.pad n++s.data.toList) (n:Int) w'→B≤w'.heap.size→Calls Tryz.prog 141 #[.pointer (some ⟨b,0,none⟩),.int .u8 10] w' fun e w''=>e= .returned .nilIface∧Pb B b (l++Pn.pad n++s.data.toList++ [10]) (n:Int) w''∧Below B w' w''∧Keep b w' w''):=hdn (fun w' h' hb=>writeByte_k B b _ n 10 w' h' (by rw[List.length_append,List.length_append,hp,show s.data.toList.length=s.size from rfl];omega) hb)
   go_wp2_with (first |(go_at_call 140;refine CW.mono ?_;rintro e w1 ⟨rfl,h1,hb,hq⟩;have HP1:=hdn h1;have HB1:=hdn (HB.out.trans hb);have HQ1:=hdn (HQ.out.trans hq);clear hq;have hw1:=HB1.out.size;clear h1 hb)|(go_at_call 141;refine (CB.out _ HP1.out (by omega)).mono ?_;rintro e w2 ⟨rfl,h2,hb,hq⟩;have HP2:=hdn h2;have HB2:=hdn (HB1.out.trans hb);have HQ2:=hdn (HQ1.out.trans hq);clear hq;clear h2 hb))
   go_end0
   exact ⟨rfl,HP2.out,HB2.out,HQ2.out⟩
theorem begin_k (B b:Nat) (l:List UInt8) (d:Nat) (s:ByteArray) (w:World) (h:Pb B b l (d:Int) w) (hd:d≤99) (hl:l.length≤100000000000) (hs:s.size≤100000000) (hBw:B≤w.heap.size):
  Calls Tryz.prog 118 #[.pointer (some ⟨b,0,none⟩),.string s] w fun e w'=>e= .returned (.tuple #[])∧Pb B b (l++Pn.pad d++(s.data.toList++ [123])++ [10]) ((d:Int)+1) w'∧Below B w w'∧Keep b w w':=by
 have HS:Hid ((s++⟨#[123]⟩:ByteArray).data.toList=s.data.toList++ [123]):=hdn (by simp)
 have CL:=line_k B b l d (s++⟨#[123]⟩) w h (by omega) hl (by rw[ByteArray.size_append,show (⟨#[123]⟩:ByteArray).size=1 from rfl];omega) hBw
 rw[HS.out] at CL
 clear h
 have hd0:(0:Int)≤(d:Int):=Int.natCast_nonneg _
 go_enter Tryz.func118,Tryz.ntmps118
 go_wp2_with (go_at_call 120;refine CL.mono ?_;rintro e w1 ⟨rfl,h1,hb,hq⟩;have c2:=h1.cell2.1;have f2:=h1.cell2.2.1;have HP1:=hdn h1;have HB1:=hdn hb;have HQ1:=hdn hq;clear h1 hb hq)
 go_end0
 exact ⟨rfl,HP1.out.open_ _,HB1.out.setCell (p:=⟨b,2,none⟩) HP1.out.cell2.2.2 _,HQ1.out.trans (Keep.set _ 2 _)⟩
theorem end_k (B b:Nat) (l:List UInt8) (d:Nat) (w:World) (h:Pb B b l ((d:Int)+1) w) (hd:d≤99) (hl:l.length≤100000000000) (hBw:B≤w.heap.size):
  Calls Tryz.prog 119 #[.pointer (some ⟨b,0,none⟩)] w fun e w'=>e= .returned (.tuple #[])∧Pb B b (l++Pn.pad d++ [125]++ [10]) (d:Int) w'∧Below B w w'∧Keep b w w':=by
 have c2:=h.cell2.1;have f2:=h.cell2.2.1
 have hd0:(0:Int)≤(d:Int):=Int.natCast_nonneg _
 have h2:=h.open_ (d:Int)
 have HB:=hdn ((Below.refl B w).setCell (p:=⟨b,2,none⟩) h.cell2.2.2 (.int .i64 (d:Int)))
 have CL:=hdn (line_k B b l d ⟨#[125]⟩ (w.setCell ⟨b,2,none⟩ (.int .i64 (d:Int))) h2 (by omega) hl (by decide) (Nat.le_trans hBw HB.out.size))
 clear h h2
 have e1:(d:Int)+1-1=(d:Int):=by omega
 go_enter Tryz.func119,Tryz.ntmps119
 go_wp2_with (go_at_call 120;refine CL.out.mono ?_;rintro e w1 ⟨rfl,h1,hb,hq⟩;have HP1:=hdn h1;have HB1:=hdn (HB.out.trans hb);have HQ1:=hdn ((Keep.set (b:=b) w 2 (.int .i64 (d:Int))).trans hq);clear h1 hb hq)
 go_end0
 exact ⟨rfl,HP1.out,HB1.out,HQ1.out⟩
end Go.Proofs.YtcehbcnloiooaaaGreatDoor
namespace Go.Proofs.YtcehbcnloiooaaaGreatDoor
open Go.RowKit Go.Sort
structure Bx where
 n:Nat
 cs:Array Value
def PrS (w0:World) (B:Bx) (b:Nat) (T:List UInt8) (d:Nat) (w:World):Prop:=Pb B.n b T (d:Int) w∧Below w0.heap.size w0 w∧w0.heap.size≤B.n∧B.n≤w.heap.size∧Bk w (b+1) 26 B.cs
theorem PrS.below {w0 w w':World} {B:Bx} {b d:Nat} {T:List UInt8} (h:PrS w0 B b T d w) (hb:Below w.heap.size w w'):PrS w0 B b T d w':=
 ⟨h.1.below hb,h.2.1.trans (hb.mono h.2.1.size),h.2.2.1,Nat.le_trans h.2.2.2.1 hb.size,h.2.2.2.2.below hb h.2.2.2.2.lt⟩
theorem PrS.drew {w0 w:World} {B:Bx} {b d:Nat} {T:List UInt8} (h:PrS w0 B b T d w) (n:Nat):PrS w0 B b T d (w.drewN n):=h.below (below_drewN_ (Below.refl _ _) n)
theorem PrS.put {w0 w w':World} {B:Bx} {b d d':Nat} {T T':List UInt8} (h:PrS w0 B b T d w) (h1:Pb B.n b T' (d':Int) w') (hb:Below B.n w w') (hq:Keep b w w'):PrS w0 B b T' d' w':=
 ⟨h1,h.2.1.trans (hb.mono h.2.2.1),h.2.2.1,Nat.le_trans h.2.2.2.1 hb.size,hq _ _ _ (by omega) (by decide) h.2.2.2.2⟩
theorem PrS.eq {w0 w:World} {B:Bx} {b d:Nat} {T T':List UInt8} (h:PrS w0 B b T d w) (e:T=T'):PrS w0 B b T' d w:=e▸h
theorem lineX {w0:World} {B:Bx} {b d:Nat} {T:List UInt8} (s:ByteArray) (w:World) (h:PrS w0 B b T d w) (hd:d≤60) (hl:T.length≤100000000000) (hs:s.size≤100000000):
  Calls Tryz.prog 120 #[.pointer (some ⟨b,0,none⟩),.string s] w fun e w'=>e= .returned (.tuple #[])∧PrS w0 B b (T++(Pn.pad d++(s.data.toList++ [10]))) d w':=
 (line_k B.n b T d s w h.1 (by omega) hl (by omega) h.2.2.2.1).mono fun e w' ⟨he,h1,hb,hq⟩=>⟨he,(h.put h1 hb hq).eq (by simp only[List.append_assoc])⟩
theorem beginX {w0:World} {B:Bx} {b d:Nat} {T:List UInt8} (s:ByteArray) (w:World) (h:PrS w0 B b T d w) (hd:d≤60) (hl:T.length≤100000000000) (hs:s.size≤100000000):
  Calls Tryz.prog 118 #[.pointer (some ⟨b,0,none⟩),.string s] w fun e w'=>e= .returned (.tuple #[])∧PrS w0 B b (T++(Pn.pad d++(s.data.toList++ [123,10]))) (d+1) w':=
 (begin_k B.n b T d s w h.1 (by omega) hl (by omega) h.2.2.2.1).mono fun e w' ⟨he,h1,hb,hq⟩=>⟨he,(h.put (d':=d+1) (by rw[show ((d+1:Nat):Int)=(d:Int)+1 by omega];exact h1) hb hq).eq (by simp only[List.append_assoc,List.cons_append,List.nil_append])⟩
theorem endX {w0:World} {B:Bx} {b d:Nat} {T:List UInt8} (w:World) (h:PrS w0 B b T (d+1) w) (hd:d≤60) (hl:T.length≤100000000000):
  Calls Tryz.prog 119 #[.pointer (some ⟨b,0,none⟩)] w fun e w'=>e= .returned (.tuple #[])∧PrS w0 B b (T++(Pn.pad d++ [125,10])) d w':=
 (end_k B.n b T d w (by have:=h.1;rwa[show ((d+1:Nat):Int)=(d:Int)+1 by omega] at this) (by omega) hl h.2.2.2.1).mono fun e w' ⟨he,h1,hb,hq⟩=>⟨he,(h.put h1 hb hq).eq (by simp only[List.append_assoc,List.cons_append,List.nil_append])⟩
theorem declX_any (x:Dc) (q o:Nat) (w0:World) (B:Bx) (b:Nat) (T:List UInt8) (d:Nat) (w:World) (hr:w0.rangeAt q o x.cells) (h:PrS w0 B b T d w) (ho:Pn.okDecl x=true) (hd:d≤1) (hT:T.length≤100000000000):
  Calls Tryz.prog 91 #[.pointer (some ⟨b,0,none⟩),.pointer (some ⟨q,o,none⟩)] w fun e w'=>e= .returned (.tuple #[])∧PrS w0 B b (T++(Pn.pad d++(Pn.declT x++ [59,10]))) d w':=by
 have CV:=hdn (variableX_any x q o w ho (rangeAt_below hr h.2.1))
 have HL:=decl_len ho
 have CL:Hid (∀w',PrS w0 B b T d w'→Calls Tryz.prog 120 #[.pointer (some ⟨b,0,none⟩),.string (bt (Pn.declT x)++⟨#[59]⟩)] w' fun e w''=>e= .returned (.tuple #[])∧PrS w0 B b (T++(Pn.pad d++(Pn.declT x++ [59,10]))) d w''):=hdn (fun w' h'=>by
  refine (lineX _ w' h' (by omega) hT (by rw[ByteArray.size_append,bt_size,show (⟨#[59]⟩:ByteArray).size=1 from rfl];omega)).mono fun e w'' ⟨he,h1⟩=>⟨he,h1.eq ?_⟩
  simp[bt])
 have hs:(bt (Pn.declT x)).size≤40:=by rw[bt_size];exact HL
 have HP:=hdn h
 clear hr h ho hT HL
 generalize bt (Pn.declT x)=tx at*
 go_enter Tryz.func91,Tryz.ntmps91
 go_wp2_with (first |(go_at_call 121;refine CV.out.mono ?_;rintro e w1 ⟨rfl,hb⟩;have HP1:=hdn (HP.out.below hb);clear hb)|(go_at_call 120;refine (CL.out _ HP1.out).mono ?_;rintro e w2 ⟨rfl,h2⟩;have HP2:=hdn h2;clear h2))
 go_end0
 exact ⟨rfl,HP2.out⟩
theorem enters45: ∀args w,(callFunc 91 args).run Tryz.prog w= .ok (.enter 91 args) w:=enters Tryz.func91 (by kernel_rfl) rfl
theorem eachDc_any (l:List Dc) (p:Option Addr) (c:Nat) (w0:World) (B:Bx) (b:Nat) (T:List UInt8) (d:Nat) (w:World) (hG:Gp w0) (h1:Lay 3 Dc.cells triv w0 p l) (h:PrS w0 B b T d w) (ho: ∀x∈l,Pn.okDecl x=true) (hd:d≤1) (hT:T.length+(Pn.fieldsT d l []).length≤100000000000):
  Calls Tryz.prog 90 #[.slice p l.length c,.func (.func 91) #[.pointer (some ⟨b,0,none⟩)] #[]] w fun e w'=>e= .returned (.tuple #[])∧PrS w0 B b (T++Pn.fieldsT d l []) d w':=by
 obtain ⟨hl,h1⟩:=h1
 have H1:=hdn h1;have HO:=hdn ho;have HG:=hdn hG;have HP0:=hdn h;have HT:=hdn hT
 clear h1 ho hG h hT
 have hcl:=enters45
 go_enter Tryz.func90,Tryz.ntmps90
 go_wp2_with fail
 go_loopw [7] (fun i wr=> ∃n:Nat,n≤l.length∧i= .int .i64 n∧Hid (PrS w0 B b (T++Pn.fieldsT d (l.take n) []) d wr)) (fun i _=>l.length-(intOf i).toNat)
 case atStart=>exact ⟨0,Nat.zero_le _,rfl,hdn (by rw[List.take_zero,show Pn.fieldsT d [] []= [] from rfl,List.append_nil];exact HP0.out)⟩
 case round=>
  obtain ⟨n,hn,rfl,HP⟩:=hrel
  by_cases hnl:n<l.length
  ·obtain ⟨b1,o1,rfl,hx⟩: ∃b o,p=some ⟨b,o,none⟩∧∀k x,l[k]? =some x→w0.rangeAt b (o+k*3) (Dc.cells x)∧triv w0 x:=by
    rcases H1.out with h |h
    ·rw[h] at hnl;simp at hnl
    ·exact h
   have hxn:=hx n l[n] (List.getElem?_eq_getElem hnl)
   have hok:=HO.out l[n] (List.getElem_mem hnl)
   have e:=Pn.take_snoc l n hnl
   have hlen:=Pn.fields_part d l n
   have HC:Hid (Calls Tryz.prog 91 #[.pointer (some ⟨b,0,none⟩),.pointer (some ⟨b1,o1+n*3,none⟩)] wr fun en w'=>en= .returned (.tuple #[])∧PrS w0 B b (T++Pn.fieldsT d (l.take (n+1)) []) d w'):=hdn (by
    refine (declX_any l[n] b1 (o1+n*3) w0 B b _ d wr hxn.1 HP.out hok hd (by rw[List.length_append];have:=HT.out;omega)).mono fun en w' ⟨he,h1⟩=>⟨he,h1.eq ?_⟩
    rw[e,Pn.fieldsT_snoc,List.append_assoc])
   clear hlen
   have hn0:(0:Int)≤(n:Int):=Int.natCast_nonneg _
   have hn1:(n:Int)<(l.length:Int):=by omega
   clear hx hxn hok e
   go_wp2_with fail
   refine HC.out.mono ?_;rintro en w1 ⟨rfl,h1⟩
   have HP1:=hdn h1
   clear h1
   go_wp2_with fail
   go_roundw
   case rel=>exact ⟨n+1,by omega,by go_num,HP1⟩
   case measure=>simp[intOf];omega
  ·obtain rfl:n=l.length:=by omega
   have HF:Hid (PrS w0 B b (T++Pn.fieldsT d l []) d wr):=hdn (by have:=HP.out;rwa[List.take_length] at this)
   have hc1: ¬((l.length:Int)<(l.length:Int)):=by omega
   go_wp2_with fail
   go_end0
   exact ⟨rfl,HF.out⟩
theorem structX_any (x:Sr) (q o:Nat) (w0:World) (B:Bx) (b:Nat) (T:List UInt8) (w:World) (hG:Gp w0) (hr:w0.rangeAt q o x.cells) (hl:declsLie w0 x.fields) (h:PrS w0 B b T 0 w) (ho:Pn.okStruct x=true) (hT:T.length+(Pn.srT x).length≤100000000000):
  Calls Tryz.prog 89 #[.pointer (some ⟨b,0,none⟩),.pointer (some ⟨q,o,none⟩)] w fun e w'=>e= .returned (.tuple #[])∧PrS w0 B b (T++Pn.srT x) 0 w':=by
 unfold Pn.okStruct at ho
 simp only[Bool.and_eq_true,List.all_eq_true] at ho
 have hs:=(Pn.okN_nameB ho.1).1
 have HC:Hid (∀w' T' d',PrS w0 B b T' d' w'→w'.cell? ⟨q,o+2,none⟩=some (.slice x.fields.p x.fields.l.length x.fields.cap)):=hdn (fun w' T' d' h'=>cell_at (rangeAt_below hr h'.2.1) 2 _ rfl)
 have c0:w.cell? ⟨q,o,none⟩=some (.string x.name):=cell_at (rangeAt_below hr h.2.1) 0 _ rfl
 obtain ⟨T1,hT1⟩: ∃T1,T1=T++(Pn.tStruct++32::(Pn.txt x.name++ [32,123,10])):=⟨_,rfl⟩
 obtain ⟨T2,hT2⟩: ∃T2,T2=T1++Pn.fieldsT 1 x.fields.l []:=⟨_,rfl⟩
 have hlen:T2.length+2=T.length+(Pn.srT x).length:=by
  rw[hT2,hT1];unfold Pn.srT
  simp only[List.length_append,List.length_cons,List.length_nil];omega
 have hl2:T2.length=T1.length+(Pn.fieldsT 1 x.fields.l []).length:=by rw[hT2,List.length_append]
 have CB:Hid (Calls Tryz.prog 118 #[.pointer (some ⟨b,0,none⟩),.string ((⟨#[115,116,114,117,99,116,32]⟩:ByteArray)++x.name++⟨#[32]⟩)] w fun e w'=>e= .returned (.tuple #[])∧PrS w0 B b T1 1 w'):=hdn (by
  refine (beginX _ w h (by omega) (by omega) (by rw[ByteArray.size_append,ByteArray.size_append,show (⟨#[115,116,114,117,99,116,32]⟩:ByteArray).size=7 from rfl,show (⟨#[32]⟩:ByteArray).size=1 from rfl];omega)).mono fun e w' ⟨he,h1⟩=>⟨he,h1.eq ?_⟩
  rw[hT1];simp[Pn.pad,Pn.tStruct,Pn.txt])
 have CE:Hid (∀w',PrS w0 B b T1 1 w'→Calls Tryz.prog 90 #[.slice x.fields.p x.fields.l.length x.fields.cap,.func (.func 91) #[.pointer (some ⟨b,0,none⟩)] #[]] w' fun e w''=>e= .returned (.tuple #[])∧PrS w0 B b T2 1 w''):=hdn (fun w' h'=>by
  rw[hT2]
  exact eachDc_any x.fields.l x.fields.p x.fields.cap w0 B b T1 1 w' hG (Lay.of_sl (R:=triv) hl (by decide)) h' (fun y hy=>by have:=ho.2 y hy;unfold Pn.okField at this;simp only[Bool.and_eq_true] at this;exact this.1) (by decide) (by omega))
 have CF:Hid (∀w',PrS w0 B b T2 1 w'→Calls Tryz.prog 119 #[.pointer (some ⟨b,0,none⟩)] w' fun e w''=>e= .returned (.tuple #[])∧PrS w0 B b (T++Pn.srT x) 0 w''):=hdn (fun w' h'=>by
  refine (endX (d:=0) w' h' (by decide) (by omega)).mono fun e w'' ⟨he,h1⟩=>⟨he,h1.eq ?_⟩
  rw[hT2,hT1];unfold Pn.srT;simp[Pn.pad])
 clear hG hr hl h ho hT hT1 hT2 hlen hl2
 go_enter Tryz.func89,Tryz.ntmps89
 go_wp2_with (first |(go_at_call 118;refine CB.out.mono ?_;rintro e w1 ⟨rfl,h1⟩;have HP1:=hdn h1;have c2:=HC.out _ _ _ h1;clear h1)|(go_at_call 90;refine (CE.out _ HP1.out).mono ?_;rintro e w2 ⟨rfl,h2⟩;have HP2:=hdn h2;clear h2)|(go_at_call 119;refine (CF.out _ HP2.out).mono ?_;rintro e w3 ⟨rfl,h3⟩;have HP3:=hdn h3;clear h3))
 go_end0
 exact ⟨rfl,HP3.out⟩
theorem enters43: ∀args w,(callFunc 89 args).run Tryz.prog w= .ok (.enter 89 args) w:=enters Tryz.func89 (by kernel_rfl) rfl
theorem eachSr_any (l:List Sr) (p:Option Addr) (c:Nat) (w0:World) (B:Bx) (b:Nat) (T:List UInt8) (w:World) (hG:Gp w0) (h1:Lay 3 Sr.cells (fun w (x:Sr)=>declsLie w x.fields) w0 p l) (h:PrS w0 B b T 0 w) (ho: ∀x∈l,Pn.okStruct x=true) (hT:T.length+(Pn.structsT l []).length≤100000000000):
  Calls Tryz.prog 88 #[.slice p l.length c,.func (.func 89) #[.pointer (some ⟨b,0,none⟩)] #[]] w fun e w'=>e= .returned (.tuple #[])∧PrS w0 B b (T++Pn.structsT l []) 0 w':=by
 obtain ⟨hl,h1⟩:=h1
 have H1:=hdn h1;have HO:=hdn ho;have HG:=hdn hG;have HP0:=hdn h;have HT:=hdn hT
 clear h1 ho hG h hT
 have hcl:=enters43
 go_enter Tryz.func88,Tryz.ntmps88
 go_wp2_with fail
 go_loopw [7] (fun i wr=> ∃n:Nat,n≤l.length∧i= .int .i64 n∧Hid (PrS w0 B b (T++Pn.structsT (l.take n) []) 0 wr)) (fun i _=>l.length-(intOf i).toNat)
 case atStart=>exact ⟨0,Nat.zero_le _,rfl,hdn (by rw[List.take_zero,show Pn.structsT [] []= [] from rfl,List.append_nil];exact HP0.out)⟩
 case round=>
  obtain ⟨n,hn,rfl,HP⟩:=hrel
  by_cases hnl:n<l.length
  ·obtain ⟨b1,o1,rfl,hx⟩: ∃b o,p=some ⟨b,o,none⟩∧∀k x,l[k]? =some x→w0.rangeAt b (o+k*3) (Sr.cells x)∧(fun w (x:Sr)=>declsLie w x.fields) w0 x:=by
    rcases H1.out with h |h
    ·rw[h] at hnl;simp at hnl
    ·exact h
   have hxn:=hx n l[n] (List.getElem?_eq_getElem hnl)
   have hok:=HO.out l[n] (List.getElem_mem hnl)
   have e:=Pn.take_snoc l n hnl
   have hlen:=Pn.structs_part l (n+1)
   rw[e,Pn.structsT_snoc,List.length_append] at hlen
   have HC:Hid (Calls Tryz.prog 89 #[.pointer (some ⟨b,0,none⟩),.pointer (some ⟨b1,o1+n*3,none⟩)] wr fun en w'=>en= .returned (.tuple #[])∧PrS w0 B b (T++Pn.structsT (l.take (n+1)) []) 0 w'):=hdn (by
    refine (structX_any l[n] b1 (o1+n*3) w0 B b _ wr HG.out hxn.1 hxn.2 HP.out hok (by rw[List.length_append];have:=HT.out;omega)).mono fun en w' ⟨he,h1⟩=>⟨he,h1.eq ?_⟩
    rw[e,Pn.structsT_snoc,List.append_assoc])
   clear hlen
   have hn0:(0:Int)≤(n:Int):=Int.natCast_nonneg _
   have hn1:(n:Int)<(l.length:Int):=by omega
   clear hx hxn hok e
   go_wp2_with fail
   refine HC.out.mono ?_;rintro en w1 ⟨rfl,h1⟩
   have HP1:=hdn h1
   clear h1
   go_wp2_with fail
   go_roundw
   case rel=>exact ⟨n+1,by omega,by go_num,HP1⟩
   case measure=>simp[intOf];omega
  ·obtain rfl:n=l.length:=by omega
   have HF:Hid (PrS w0 B b (T++Pn.structsT l []) 0 wr):=hdn (by have:=HP.out;rwa[List.take_length] at this)
   have hc1: ¬((l.length:Int)<(l.length:Int)):=by omega
   go_wp2_with fail
   go_end0
   exact ⟨rfl,HF.out⟩
end Go.Proofs.YtcehbcnloiooaaaGreatDoor
