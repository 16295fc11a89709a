/-
  The walks over blanks and remarks, of both. The document's walk over blanks and remarks. The walks of the answers: a sign, an error; a word, a number, a Mark. The walk of a number's answer. The walks of a Mark's answer, of both. The document's Mark: the walk. The walk of 'the sign that comes next': 
-/
import Derived.Test.YtcehbcnloiooaaaGreatDoorM04
import Derived.WalkMore
import Derived.Deep.LoopGhost
import Derived.Laws.AppendOwnNone
import Derived.Maps.AppendAt
import Derived.OwnWalk
import Derived.Test.YtcehbcnloiooaaaGreatDoorM02
import Derived.Laws.Tables
import Derived.RegionTactic
import Derived.WalkLawsBesides
import Derived.Deep.DeepCutAuto
import Derived.BigQuiet
import Derived.Deep.AppendLies
import Derived.Deep.WholeRow
set_option maxHeartbeats 6400000
set_option maxRecDepth 100000
namespace Go.Proofs.YtcehbcnloiooaaaGreatDoor
open Go.RowKit
theorem from_list (s:ByteArray) (k:Nat):(s.extract k s.size).data.toList=s.data.toList.drop k:=by
 rw[←Lib.toList_data,Lib.extract_toList,←Tx.len_eq]
 exact List.take_of_length_le (by simp)
theorem part_list (s:ByteArray) (a b:Nat):(s.extract a b).data.toList=(s.data.toList.drop a).take (b-a):=by
 rw[←Lib.toList_data,Lib.extract_toList]
theorem pre2 (s:ByteArray) (k:Nat) (a b:UInt8):Lib.hasPrefix (s.extract k s.size).data.toList [a,b]=true↔∃h:k+1<s.size,s[k]=a∧s[k+1]=b:=by
 rw[from_list]
 unfold Lib.hasPrefix
 by_cases h:k<s.size
 ·rw[Tx.drop_at s k h]
  by_cases h1:k+1<s.size
  ·rw[Tx.drop_at s (k+1) h1]
   simp only[List.isPrefixOf,Bool.and_true,Bool.and_eq_true,beq_iff_eq,h1,exists_true_left]
   exact ⟨fun ⟨x,y⟩=>⟨x.symm,y.symm⟩,fun ⟨x,y⟩=>⟨x.symm,y.symm⟩⟩
  ·rw[Tx.drop_end s (k+1) (by omega)]
   simp[List.isPrefixOf,h1]
 ·rw[Tx.drop_end s k (by omega)]
  simp[List.isPrefixOf];omega
theorem index_run (l:List UInt8):Lib.indexByte l 10=if Tx.run Tx.inl l<l.length then (Tx.run Tx.inl l:Int) else-1:=by
 induction l with
 |nil=>rfl
 |cons b l ih=>
  unfold Lib.indexByte Tx.run
  by_cases h:b=10
  ·subst h;simp[Tx.inl]
  ·have hb:Tx.inl (b.toNat:Int)=true:=by
    unfold Tx.inl
    simp only[ne_eq,decide_not,Bool.not_eq_true',decide_eq_false_iff_not]
    intro e
    apply h
    exact UInt8.toNat_inj.1 (by show b.toNat=10;omega)
   have hb':(b==10)=false:=by simpa using h
   rw[hb',hb,ih]
   simp only[Bool.false_eq_true,if_false,if_true,List.length_cons]
   by_cases h2:Tx.run Tx.inl l<l.length
   ·rw[if_pos h2,if_neg (by simp),if_pos (show Tx.run Tx.inl l+1<l.length+1 by omega)];simp
   ·rw[if_neg h2,if_neg (show¬Tx.run Tx.inl l+1<l.length+1 by omega)];rfl
theorem index_line (s:ByteArray) (i:Nat) (hi:i≤s.size):Lib.indexByte (s.extract i s.size).data.toList 10=if Tx.wend Tx.inl s i<s.size then ((Tx.wend Tx.inl s i:Int)-i) else-1:=by
 rw[from_list,index_run,List.length_drop,Tx.len_eq]
 unfold Tx.wend
 by_cases h:Tx.run Tx.inl (s.data.toList.drop i)<s.size-i
 ·rw[if_pos h,if_pos (by omega)];omega
 ·rw[if_neg h,if_neg (by omega)]
def lineI (s:ByteArray) (i:Nat):Int:=Lib.indexByte (s.extract i s.size).data.toList 10
def preB (s:ByteArray) (k:Nat) (p:ByteArray):Bool:=Lib.hasPrefix (s.extract k s.size).data.toList p.data.toList
theorem indexFrom_any (s:ByteArray) (i:Nat) (w:World):
  Calls Tryz.prog 154 #[.string (s.extract i s.size),.int .u8 10] w fun e w'=>e= .returned (.int .i64 (lineI s i))∧w=w':=indexByte_any _ _ w
theorem prefixFrom_any (s:ByteArray) (k:Nat) (p:ByteArray) (w:World):
  Calls Tryz.prog 149 #[.string (s.extract k s.size),.string p] w fun e w'=>e= .returned (.bool (preB s k p))∧w=w':=hasPrefix_any _ _ w
theorem lineEnd_any (s:ByteArray) (i:Nat) (w:World) (hs:s.size≤5000000) (hi:i≤s.size):
  Calls Tryz.prog 150 #[.string s,.int .i64 i] w fun e w'=>e= .returned (.int .i64 (Tx.wend Tx.inl s i))∧w=w':=by
 have hx:lineI s i=_:=index_line s i hi
 have hle:=Tx.wend_le Tx.inl s i hi
 have hge:=Tx.wend_ge Tx.inl s i
 by_cases h:Tx.wend Tx.inl s i<s.size
 ·rw[if_pos h] at hx
  have h0:0≤lineI s i:=by omega
  have h1:lineI s i≤5000000:=by omega
  have HX:=hdn hx
  have HH:=hdn h
  clear hx h hle hge
  go_enter Tryz.func150,Tryz.ntmps150
  go_wp2_with (go_at_call 154;refine (indexFrom_any _ _ _).mono ?_;rintro e w' ⟨rfl,rfl⟩)
  go_ret
  exact ⟨lret_int (by have:=HX.out;omega),rfl⟩
 ·rw[if_neg h] at hx
  have h0: ¬0≤lineI s i:=by omega
  have HX:=hdn hx
  have HH:=hdn h
  clear hx h
  have HL:=hdn hle
  clear hle hge
  go_enter Tryz.func150,Tryz.ntmps150
  go_wp2_with (go_at_call 154;refine (indexFrom_any _ _ _).mono ?_;rintro e w' ⟨rfl,rfl⟩)
  go_ret
  exact ⟨lret_int (by have:=HH.out;have:=HL.out;omega),rfl⟩
theorem rem_yes (s:ByteArray) (k:Nat) (h:preB s k ⟨#[47,47]⟩=true): ∃h:k+1<s.size,s[k].toNat=47∧s[k+1].toNat=47:=by
 obtain ⟨h1,a,b⟩:=(pre2 s k 47 47).1 h
 exact ⟨h1,by rw[a];rfl,by rw[b];rfl⟩
theorem rem_no (s:ByteArray) (k:Nat) (hk:k<s.size) (h:preB s k ⟨#[47,47]⟩=false): ¬(s[k].toNat=47∧∃h:k+1<s.size,s[k+1].toNat=47):=by
 rintro ⟨a,h1,b⟩
 have:=(pre2 s k 47 47).2 ⟨h1,UInt8.toNat_inj.1 a,UInt8.toNat_inj.1 b⟩
 unfold preB at h
 rw[show (ByteArray.mk #[47,47]).data.toList= [47,47] from rfl,this] at h
 cases h
theorem byte_case (c:Int):(Tx.blk c=true∧((c==32)=true∨((c==32)=false∧(c==9)=true)∨((c==32)=false∧(c==9)=false∧(c==10)=true)∨((c==32)=false∧(c==9)=false∧(c==10)=false∧(c==13)=true)))
  ∨(Tx.blk c=false∧(c==32)=false∧(c==9)=false∧(c==10)=false∧(c==13)=false∧((c==47)=true∨(c==47)=false)):=by
 unfold Tx.blk;simp;omega
theorem skip_any (s:ByteArray) (i:Nat) (w:World) (hs:s.size≤5000000) (hi:i≤s.size):
  Calls Tryz.prog 125 #[.string s,.int .i64 i] w fun e w'=>e= .returned (.int .i64 (Tx.skp s i))∧w=w':=by
 go_enter Tryz.func125,Tryz.ntmps125
 go_wp2
 go_step3
 go_wp2
 go_step3
 go_wp2
 go_loop [1] (fun v=> ∃k:Nat,k≤s.size∧v= .int .i64 k∧Hid (Tx.skp s k=Tx.skp s i)) (fun v=>s.size-(intOf v).toNat)
 case atStart=>exact ⟨i,hi,rfl,rfl⟩
 case round=>
  obtain ⟨k,hk,rfl,HR⟩:=hrel
  by_cases hlt:k<s.size
  ·rcases byte_case (s[k].toNat:Int) with ⟨hb,hc⟩|⟨hb,h1,h2,h3,h4,hc⟩
   ·have HE:=hdn (Tx.skp_blank s k hlt hb)
    clear hb
    rcases hc with h1 |⟨h1,h2⟩|⟨h1,h2,h3⟩|⟨h1,h2,h3,h4⟩
    all_goals
     go_wp2_with fail
     go_round
     case rel=>exact ⟨k+1,by omega,by go_num,HE.out.trans HR.out⟩
     case measure=>simp[intOf];omega
   ·rcases hc with h5 |h5
    ·cases hp:preB s k ⟨#[47,47]⟩
     ·have HE:=hdn (Tx.skp_stop s k hlt hb (rem_no s k hlt hp))
      clear hb
      go_wp2_with (go_at_call 149;refine (prefixFrom_any _ _ _ _).mono ?_;rintro e w' ⟨rfl,rfl⟩)
      (first |go_ret |(rw[Exit.noGoto_ret];go_ret))
      exact ⟨lret_int (by rw[←HR.out,HE.out]),rfl⟩
     ·obtain ⟨h6,a,b⟩:=rem_yes s k hp
      have HE:=hdn (Tx.skp_rem s k h6 a b)
      have hge:k+1≤Tx.wend Tx.inl s k:=by
       rw[←Tx.wend_in Tx.inl s k hlt (by rw[a];rfl)];exact Tx.wend_ge _ _ _
      have hle:=Tx.wend_le Tx.inl s k hk
      clear hb a b h6
      go_wp2_with (first |(go_at_call 149;refine (prefixFrom_any _ _ _ _).mono ?_;rintro e w' ⟨rfl,rfl⟩)|(go_at_call 150;refine (lineEnd_any _ _ _ hs (by omega)).mono ?_;rintro e w' ⟨rfl,rfl⟩))
      go_round
      case rel=>exact ⟨_,hle,rfl,HE.out.trans HR.out⟩
      case measure=>simp[intOf];omega
    ·have HE:=hdn (Tx.skp_stop s k hlt hb (by rintro ⟨a,_⟩;rw[a] at h5;simp at h5))
     clear hb
     go_wp2_with fail
     (first |go_ret |(rw[Exit.noGoto_ret];go_ret))
     exact ⟨lret_int (by rw[←HR.out,HE.out]),rfl⟩
  ·have HE:=hdn (Tx.skp_end s k (by omega))
   go_wp2_with fail
   (first |go_ret |(rw[Exit.noGoto_ret];go_ret))
   exact ⟨lret_int (by rw[←HR.out,HE.out]),rfl⟩
end Go.Proofs.YtcehbcnloiooaaaGreatDoor
namespace Go.Proofs.YtcehbcnloiooaaaGreatDoor
open Go.RowKit
theorem ne_of (c d:Int) (b:Bool) (h:(c==d)=b):(c !=d)= !b:=by rw[bne,h]
theorem blank_any (s:ByteArray) (i:Nat) (w:World) (hs:s.size≤5000000) (hi:i≤s.size):
  Calls Tryz.prog 106 #[.string s,.int .i64 i] w fun e w'=>e= .returned (.int .i64 (Tx.skp s i))∧w=w':=by
 go_enter Tryz.func106,Tryz.ntmps106
 go_wp2
 go_loopg [1] (s.size-i) (fun g v wr=> ∃k:Nat,k≤s.size∧s.size-k≤g∧v= .int .i64 k∧w=wr∧Hid (Tx.skp s k=Tx.skp s i))
 case atStart=>exact ⟨i,hi,Nat.le_refl _,rfl,rfl,rfl⟩
 case round=>
  obtain ⟨k,hk,hgk,rfl,rfl,HR⟩:=hrel
  obtain ⟨g0,rfl⟩: ∃g0,g0=gk:=⟨gk,rfl⟩
  by_cases hlt:k<s.size
  ·rcases byte_case (s[k].toNat:Int) with ⟨hb,hc⟩|⟨hb,h1,h2,h3,h4,hc⟩
   ·have HE:=hdn (Tx.skp_blank s k hlt hb)
    clear hb
    rcases hc with h1 |⟨h1,h2⟩|⟨h1,h2,h3⟩|⟨h1,h2,h3,h4⟩
    all_goals
     go_wp2_with fail
     go_roundg (g0-1)
     case rel=>exact ⟨k+1,by omega,by omega,by go_num,rfl,HE.out.trans HR.out⟩
     case measure=>omega
   ·rcases hc with h5 |h5
    ·have n5:=ne_of _ _ _ h5
     by_cases h6:k+1<s.size
     ·cases h7:((s[k+1].toNat:Int)==47)
      ·have n7:=ne_of _ _ _ h7
       have HE:=hdn (Tx.skp_stop s k hlt hb (by rintro ⟨_,_,a⟩;rw[a] at h7;simp at h7))
       clear hb
       go_wp2_with fail
       go_ret
       exact ⟨lret_int (by rw[←HR.out,HE.out]),rfl⟩
      ·have n7:=ne_of _ _ _ h7
       have HE:=hdn (Tx.skp_rem s k h6 (by simp at h5;omega) (by simp at h7;omega))
       have HG:Hid (k+1≤Tx.wend Tx.inl s k):=hdn (by
        rw[←Tx.wend_in Tx.inl s k hlt (by unfold Tx.inl;simp at h5 ⊢;omega)];exact Tx.wend_ge _ _ _)
       clear hb
       go_wp2_with fail
       clear h1 h2 h3 h4 h5 h7 n5 n7 h6
       go_loopg [1] (s.size-k) (fun g v wr=> ∃j:Nat,j≤s.size∧s.size-j≤g∧v= .int .i64 j∧w=wr∧k≤j∧Hid (Tx.wend Tx.inl s j=Tx.wend Tx.inl s k))
       case atStart=>exact ⟨k,hk,Nat.le_refl _,rfl,rfl,Nat.le_refl _,rfl⟩
       case round=>
        obtain ⟨j,hj,hgj,rfl,rfl,hkj,HW⟩:=hrel
        by_cases hjt:j<s.size
        ·cases n10:((s[j].toNat:Int) !=10)
         ·have HO:=hdn (Tx.wend_out Tx.inl s j hjt (by unfold Tx.inl;simpa using n10))
          go_wp2_with fail
          go_roundg (g0-1)
          case rel=>
           have e1:=HG.out
           have e2:=HW.out
           have e3:=HO.out
           rw[e3] at e2
           exact ⟨j,hj,by omega,rfl,rfl,hdn (by rw[e2];exact HE.out.trans HR.out)⟩
          case measure=>
           have e1:=HG.out
           have e2:=HW.out
           have e3:=HO.out
           omega
         ·have HO:=hdn (Tx.wend_in Tx.inl s j hjt (by unfold Tx.inl;simpa using n10))
          go_wp2_with fail
          go_roundg (gk-1)
          case rel=>exact ⟨j+1,by omega,by omega,by go_num,rfl,by omega,HO.out.trans HW.out⟩
          case measure=>omega
        ·have HO:=hdn (Tx.wend_end Tx.inl s j (by omega))
         go_wp2_with fail
         go_roundg (g0-1)
         case rel=>
          have e1:=HG.out
          have e2:=HW.out
          have e3:=HO.out
          rw[e3] at e2
          exact ⟨j,hj,by omega,rfl,rfl,hdn (by rw[e2];exact HE.out.trans HR.out)⟩
         case measure=>
          have e1:=HG.out
          have e2:=HW.out
          have e3:=HO.out
          omega
     ·have HE:=hdn (Tx.skp_stop s k hlt hb (by rintro ⟨_,a,_⟩;exact h6 a))
      clear hb
      go_wp2_with fail
      go_ret
      exact ⟨lret_int (by rw[←HR.out,HE.out]),rfl⟩
    ·have n5:=ne_of _ _ _ h5
     have HE:=hdn (Tx.skp_stop s k hlt hb (by rintro ⟨a,_⟩;rw[a] at h5;simp at h5))
     clear hb
     go_wp2_with fail
     go_ret
     exact ⟨lret_int (by rw[←HR.out,HE.out]),rfl⟩
  ·have HE:=hdn (Tx.skp_end s k (by omega))
   go_wp2_with fail
   go_ret
   exact ⟨lret_int (by rw[←HR.out,HE.out]),rfl⟩
end Go.Proofs.YtcehbcnloiooaaaGreatDoor
namespace Go.Proofs.YtcehbcnloiooaaaGreatDoor
open Go.RowKit
theorem right_any (kd:Int) (s:ByteArray) (a b:Nat) (w:World) (hab:a≤b) (hb:b≤s.size):
  Calls Tryz.prog 126 #[.int .i64 kd,.string s,.int .i64 a,.int .i64 b] w fun e w'=>
   e= .returned (.tuple #[.agg #[.int .i64 kd,.int .i64 a,.string (s.extract a b),.int .i64 0],.int .i64 b,.int .i64 0])∧Below w.heap.size w w':=by
 go_enter Tryz.func126,Tryz.ntmps126
 go_wp2
 exact bodyPost_ret (v:= .tuple #[.agg #[.int .i64 kd,.int .i64 a,.string (s.extract a b),.int .i64 0],.int .i64 b,.int .i64 0]) (by simp[results,Tryz.results126,go_sem]) rfl ⟨rfl,(Below.refl _ _).alloc (Nat.le_refl _) _⟩
theorem wrong_any (a:Int) (er:Int) (w:World):
  Calls Tryz.prog 151 #[.int .i64 a,.int .i64 er] w fun e w'=>
   e= .returned (.tuple #[.agg #[.int .i64 0,.int .i64 a,.string ByteArray.empty,.int .i64 0],.int .i64 a,.int .i64 er])∧Below w.heap.size w w':=by
 go_enter Tryz.func151,Tryz.ntmps151
 go_wp2
 exact bodyPost_ret (v:= .tuple #[.agg #[.int .i64 0,.int .i64 a,.string ByteArray.empty,.int .i64 0],.int .i64 a,.int .i64 er]) (by simp[results,Tryz.results151,go_sem];rfl) rfl ⟨rfl,(Below.refl _ _).alloc (Nat.le_refl _) _⟩
theorem bcell {W w1:World} (hb:Below W.heap.size W w1):(∀b o,b<W.heap.size→w1.cell? ⟨b,o,none⟩=W.cell? ⟨b,o,none⟩)∧(∀b o,b<W.heap.size→w1.frozen? ⟨b,o,none⟩=W.frozen? ⟨b,o,none⟩):=
 ⟨fun b o h=>hb.cell (p:=⟨b,o,none⟩) h,fun b o h=>hb.frozen (p:=⟨b,o,none⟩) h⟩
theorem below4 {w w1:World} {o:Obj} (hb:Below (w.alloc o).heap.size (w.alloc o) w1) (x0 x1 x2 x3:Value):
  Below w.heap.size w ((((w1.setCell ⟨w.heap.size,0,none⟩ x0).setCell ⟨w.heap.size,1,none⟩ x1).setCell ⟨w.heap.size,2,none⟩ x2).setCell ⟨w.heap.size,3,none⟩ x3):=
 (((((((Below.refl _ _).alloc (Nat.le_refl _) _).trans (hb.mono (by simp))).setCell (Nat.le_refl _) _).setCell (Nat.le_refl _) _).setCell (Nat.le_refl _) _).setCell (Nat.le_refl _) _)
theorem Gl.alloc {w:World} (h:Gl w) (o:Obj):Gl (w.alloc o):=h.below ((Below.refl w.heap.size w).alloc (Nat.le_refl _) o) h.two
theorem word_any (s:ByteArray) (i:Nat) (w:World) (hs:s.size≤5000000) (hi:i≤s.size) (hg:Gl w):
  Calls Tryz.prog 128 #[.string s,.int .i64 i] w fun e w'=>
   e= .returned (.tuple #[.agg #[.int .i64 (Tx.wordA s i).sg.kind,.int .i64 (Tx.wordA s i).sg.pos,.string (Tx.wordA s i).sg.text,.int .i64 (Tx.wordA s i).sg.num],.int .i64 (Tx.wordA s i).stop,.int .i64 (Tx.wordA s i).err])∧Below w.heap.size w w':=by
 have hge:=Tx.wend_ge Tx.wrd s i
 have hle:=Tx.wend_le Tx.wrd s i hi
 by_cases h16:16<Tx.wend Tx.wrd s i-i
 ·rw[show Tx.wordA s i=Tx.An.bad i 3 by unfold Tx.wordA;rw[if_pos h16]]
  unfold Tx.An.bad
  go_enter Tryz.func128,Tryz.ntmps128
  go_wp2_with fail
  refine (wordEnd_any _ _ _ hs hi).mono ?_;rintro e w' ⟨rfl,rfl⟩
  go_wp2_with fail
  refine (wrong_any _ _ _).mono ?_;rintro e w1 ⟨rfl,hb⟩
  obtain ⟨hc,hf⟩:=bcell hb
  have hz:w.heap.size<w1.heap.size:=by have:=hb.size;simp at this;omega
  have HB:=hdn hb
  clear hb
  go_wp2_with fail
  exact bodyPost_ret (v:= .tuple #[.agg #[.int .i64 0,.int .i64 (i:Nat),.string ByteArray.empty,.int .i64 0],.int .i64 (i:Nat),.int .i64 3]) (by simp[results,Tryz.results128,go_sem,hc]) rfl ⟨rfl,below4 HB.out _ _ _ _⟩
 ·have h16': ¬(Tx.wend Tx.wrd s i:Int)-i>16:=by omega
  clear h16
  have H16:=hdn h16'
  cases hk:Tx.isKey (s.extract i (Tx.wend Tx.wrd s i))
  ·rw[show Tx.wordA s i=Tx.An.good s 1 i (Tx.wend Tx.wrd s i) 0 by unfold Tx.wordA;rw[if_neg (by omega),hk];rfl]
   unfold Tx.An.good
   go_enter Tryz.func128,Tryz.ntmps128
   go_wp2_with fail
   refine (wordEnd_any _ _ _ hs hi).mono ?_;rintro e w' ⟨rfl,rfl⟩
   go_wp2_with fail
   refine (isKeyLex_any _ _ (hg.alloc _)).mono ?_;rintro e w' ⟨rfl,rfl⟩
   go_wp2_with fail
   refine (right_any _ _ _ _ _ hge hle).mono ?_;rintro e w1 ⟨rfl,hb⟩
   obtain ⟨hc,hf⟩:=bcell hb
   have hz:w.heap.size<w1.heap.size:=by have:=hb.size;simp at this;omega
   have HB:=hdn hb
   clear hb
   go_wp2_with fail
   exact bodyPost_ret (v:= .tuple #[.agg #[.int .i64 1,.int .i64 (i:Nat),.string (s.extract i (Tx.wend Tx.wrd s i)),.int .i64 0],.int .i64 (Tx.wend Tx.wrd s i:Nat),.int .i64 0]) (by simp[results,Tryz.results128,go_sem,hc]) rfl ⟨rfl,below4 HB.out _ _ _ _⟩
  ·rw[show Tx.wordA s i=Tx.An.good s 3 i (Tx.wend Tx.wrd s i) 0 by unfold Tx.wordA;rw[if_neg (by omega),hk];rfl]
   unfold Tx.An.good
   go_enter Tryz.func128,Tryz.ntmps128
   go_wp2_with fail
   refine (wordEnd_any _ _ _ hs hi).mono ?_;rintro e w' ⟨rfl,rfl⟩
   go_wp2_with fail
   refine (isKeyLex_any _ _ (hg.alloc _)).mono ?_;rintro e w' ⟨rfl,rfl⟩
   go_wp2_with fail
   refine (right_any _ _ _ _ _ hge hle).mono ?_;rintro e w1 ⟨rfl,hb⟩
   obtain ⟨hc,hf⟩:=bcell hb
   have hz:w.heap.size<w1.heap.size:=by have:=hb.size;simp at this;omega
   have HB:=hdn hb
   clear hb
   go_wp2_with fail
   exact bodyPost_ret (v:= .tuple #[.agg #[.int .i64 3,.int .i64 (i:Nat),.string (s.extract i (Tx.wend Tx.wrd s i)),.int .i64 0],.int .i64 (Tx.wend Tx.wrd s i:Nat),.int .i64 0]) (by simp[results,Tryz.results128,go_sem,hc]) rfl ⟨rfl,below4 HB.out _ _ _ _⟩
end Go.Proofs.YtcehbcnloiooaaaGreatDoor
namespace Go.Proofs.YtcehbcnloiooaaaGreatDoor
open Go.RowKit
theorem run_take (p:Int→Bool): ∀l:List UInt8,∀b∈l.take (Tx.run p l),p (b.toNat:Int)=true
 | [],b,h=>by simp at h
 |a::l,b,h=>by
  by_cases ha:p (a.toNat:Int)=true
  ·simp only[Tx.run,ha,if_true,List.take_succ_cons,List.mem_cons] at h
   rcases h with rfl |h
   ·exact ha
   ·exact run_take p l b h
  ·simp only[Tx.run,ha,Bool.false_eq_true,if_false,List.take_zero,List.not_mem_nil] at h
theorem wend_part (p:Int→Bool) (s:ByteArray) (i:Nat):(s.extract i (Tx.wend p s i)).data.toList=(s.data.toList.drop i).take (Tx.run p (s.data.toList.drop i)):=by
 rw[part_list];unfold Tx.wend;rw[show i+Tx.run p (s.data.toList.drop i)-i=Tx.run p (s.data.toList.drop i) by omega]
theorem digs_part (s:ByteArray) (i:Nat):digs (s.extract i (Tx.wend Tx.dgt s i)).data.toList:=by
 rw[wend_part];exact run_take Tx.dgt _
theorem part_size (s:ByteArray) (a b:Nat) (hb:b≤s.size):(s.extract a b).size=b-a:=by
 rw[ByteArray.size_extract];omega
theorem numValue_any (s:ByteArray) (i:Nat) (w:World) (hi:i≤s.size) (h9: ¬9<Tx.wend Tx.dgt s i-i):
  Calls Tryz.prog 153 #[.string (s.extract i (Tx.wend Tx.dgt s i))] w fun e w'=>e= .returned (.int .i64 (Tx.val (s.extract i (Tx.wend Tx.dgt s i)).data.toList))∧w=w':=
 lvalue_any _ _ (digs_part s i) (by rw[part_size _ _ _ (Tx.wend_le _ s i hi)];omega)
theorem number_any (s:ByteArray) (i:Nat) (w:World) (hs:s.size≤5000000) (hi:i≤s.size):
  Calls Tryz.prog 130 #[.string s,.int .i64 i] w fun e w'=>
   e= .returned (.tuple #[.agg #[.int .i64 (Tx.numA s i).sg.kind,.int .i64 (Tx.numA s i).sg.pos,.string (Tx.numA s i).sg.text,.int .i64 (Tx.numA s i).sg.num],.int .i64 (Tx.numA s i).stop,.int .i64 (Tx.numA s i).err])∧Below w.heap.size w w':=by
 have hge:=Tx.wend_ge Tx.dgt s i
 have hle:=Tx.wend_le Tx.dgt s i hi
 by_cases h9:9<Tx.wend Tx.dgt s i-i
 ·rw[show Tx.numA s i=Tx.An.bad i 3 by unfold Tx.numA;rw[if_pos h9]]
  unfold Tx.An.bad
  go_enter Tryz.func130,Tryz.ntmps130
  go_wp2_with fail
  refine (digitsEnd_any _ _ _ hs hi).mono ?_;rintro e w' ⟨rfl,rfl⟩
  go_wp2_with fail
  refine (wrong_any _ _ _).mono ?_;rintro e w1 ⟨rfl,hb⟩
  obtain ⟨hc,hf⟩:=bcell hb
  have hz:w.heap.size<w1.heap.size:=by have:=hb.size;simp at this;omega
  have HB:=hdn hb
  clear hb
  go_wp2_with fail
  exact bodyPost_ret (v:= .tuple #[.agg #[.int .i64 0,.int .i64 (i:Nat),.string ByteArray.empty,.int .i64 0],.int .i64 (i:Nat),.int .i64 3]) (by simp[results,Tryz.results130,go_sem,hc]) rfl ⟨rfl,below4 HB.out _ _ _ _⟩
 ·have H9:=hdn h9
  have h9': ¬(Tx.wend Tx.dgt s i:Int)-i>9:=by omega
  rw[show Tx.numA s i=Tx.An.good s 2 i (Tx.wend Tx.dgt s i) (Tx.val (s.extract i (Tx.wend Tx.dgt s i)).data.toList) by unfold Tx.numA;rw[if_neg h9]]
  unfold Tx.An.good
  clear h9
  generalize hv:Tx.val (s.extract i (Tx.wend Tx.dgt s i)).data.toList=v
  have hval: ∀w:World,Calls Tryz.prog 153 #[.string (s.extract i (Tx.wend Tx.dgt s i))] w fun e w'=>e= .returned (.int .i64 v)∧w=w':=by
   intro w;rw[←hv];exact numValue_any s i w hi H9.out
  clear hv
  have HV:=hdn hval
  clear hval
  go_enter Tryz.func130,Tryz.ntmps130
  go_wp2_with fail
  refine (digitsEnd_any _ _ _ hs hi).mono ?_;rintro e w' ⟨rfl,rfl⟩
  go_wp2_with fail
  refine (right_any _ _ _ _ _ hge hle).mono ?_;rintro e w1 ⟨rfl,hb⟩
  obtain ⟨hc,hf⟩:=bcell hb
  have hz:w.heap.size<w1.heap.size:=by have:=hb.size;simp at this;omega
  have HB:=hdn hb
  clear hb
  go_wp2_with fail
  refine (HV.out _).mono ?_;rintro e w' ⟨rfl,rfl⟩
  go_wp2_with fail
  exact bodyPost_ret (v:= .tuple #[.agg #[.int .i64 2,.int .i64 (i:Nat),.string (s.extract i (Tx.wend Tx.dgt s i)),.int .i64 v],.int .i64 (Tx.wend Tx.dgt s i:Nat),.int .i64 0]) (by simp[results,Tryz.results130,go_sem,hc,hz]) rfl ⟨rfl,(below4 HB.out _ _ _ _).alloc (by simp;omega) _⟩
end Go.Proofs.YtcehbcnloiooaaaGreatDoor
namespace Go.Proofs.YtcehbcnloiooaaaGreatDoor
open Go.RowKit
theorem prAt_list (k:Nat):(Tx.prAt k).data.toList=Tx.pw.getD k []:=by unfold Tx.prAt;simp
theorem prAt_size (k:Nat) (hk:k<4):(Tx.prAt k).size=2:=by
 match k,hk with
 |0,_=>rfl
 |1,_=>rfl
 |2,_=>rfl
 |3,_=>rfl
theorem preB_pair (s:ByteArray) (i k:Nat) (a b:UInt8) (h:Tx.pw.getD k []= [a,b]):preB s i (Tx.prAt k)=true↔∃h:i+1<s.size,s[i]=a∧s[i+1]=b:=by
 unfold preB;rw[prAt_list,h];exact pre2 s i a b
theorem u8_of (x:UInt8) (n:Nat) (hn:n<256) (h:(x.toNat:Int)=n):x=UInt8.ofNat n:=by
 apply UInt8.toNat_inj.1;simp;omega
theorem pairs_two (s:ByteArray) (i:Nat):(∃k,k<4∧preB s i (Tx.prAt k)=true)↔∃h:i+1<s.size,Tx.two s[i].toNat s[i+1].toNat=true:=by
 constructor
 ·rintro ⟨k,hk,h⟩
  rcases (show k=0∨k=1∨k=2∨k=3 by omega) with rfl |rfl |rfl |rfl
  ·obtain ⟨h1,a,b⟩:=(preB_pair s i 0 45 62 rfl).1 h;exact ⟨h1,by rw[a,b];rfl⟩
  ·obtain ⟨h1,a,b⟩:=(preB_pair s i 1 61 61 rfl).1 h;exact ⟨h1,by rw[a,b];rfl⟩
  ·obtain ⟨h1,a,b⟩:=(preB_pair s i 2 33 61 rfl).1 h;exact ⟨h1,by rw[a,b];rfl⟩
  ·obtain ⟨h1,a,b⟩:=(preB_pair s i 3 62 61 rfl).1 h;exact ⟨h1,by rw[a,b];rfl⟩
 ·rintro ⟨h1,h⟩
  unfold Tx.two at h
  rw[decide_eq_true_iff] at h
  rcases h with ⟨a,b⟩|⟨a,b⟩|⟨a,b⟩|⟨a,b⟩
  ·exact ⟨0,by omega,(preB_pair s i 0 45 62 rfl).2 ⟨h1,u8_of _ 45 (by omega) a,u8_of _ 62 (by omega) b⟩⟩
  ·exact ⟨1,by omega,(preB_pair s i 1 61 61 rfl).2 ⟨h1,u8_of _ 61 (by omega) a,u8_of _ 61 (by omega) b⟩⟩
  ·exact ⟨2,by omega,(preB_pair s i 2 33 61 rfl).2 ⟨h1,u8_of _ 33 (by omega) a,u8_of _ 61 (by omega) b⟩⟩
  ·exact ⟨3,by omega,(preB_pair s i 3 62 61 rfl).2 ⟨h1,u8_of _ 62 (by omega) a,u8_of _ 61 (by omega) b⟩⟩
theorem pair_hit (s:ByteArray) (i k:Nat) (hk:k<4) (h:preB s i (Tx.prAt k)=true):Tx.mrk s i=2∧i+2≤s.size:=by
 obtain ⟨h1,h2⟩:=(pairs_two s i).1 ⟨k,hk,h⟩
 exact ⟨Tx.mrk_two s i h1 h2,by omega⟩
theorem pair_miss (s:ByteArray) (i:Nat) (hi:i<s.size) (h: ∀k,k<4→preB s i (Tx.prAt k)=false):Tx.mrk s i=if Tx.one s[i].toNat then 1 else 0:=by
 apply Tx.mrk_one s i hi
 intro h1
 rw[Bool.eq_false_iff]
 intro h2
 obtain ⟨k,hk,h3⟩:=(pairs_two s i).2 ⟨h1,h2⟩
 rw[h k hk] at h3
 cases h3
def singles:ByteArray:=⟨#[123,125,40,41,59,44,42,61,60,43,45,63]⟩
theorem singles_all: ∀n:Fin 256,decide (Lib.indexByte singles.data.toList (UInt8.ofNat n.val)<0)= !Tx.one (n.val:Int):=by decide+kernel
theorem singles_at (x:UInt8):decide (Lib.indexByte singles.data.toList (x.toNat:Int).toNat.toUInt8<0)= !Tx.one (x.toNat:Int):=by
 have h:=singles_all ⟨x.toNat,x.toNat_lt⟩
 have e:(x.toNat:Int).toNat.toUInt8=UInt8.ofNat x.toNat:=rfl
 rw[e];exact h
def singleI (c:Int):Int:=Lib.indexByte singles.data.toList c.toNat.toUInt8
theorem singles_any (c:Int) (w:World):
  Calls Tryz.prog 154 #[.string singles,.int .u8 c] w fun e w'=>e= .returned (.int .i64 (singleI c))∧w=w':=indexByte_any _ _ w
theorem pairs_index: ∀k:Nat,k<4→∀w:World,(Instr.index 223 (.agg #[.string (Tx.prAt 0),.string (Tx.prAt 1),.string (Tx.prAt 2),.string (Tx.prAt 3)]) (.int .i64 (k:Int))).run Tryz.prog w= .ok (.string (Tx.prAt k)) w:=by
 have x0: ∀w:World,(Instr.index 223 (.agg #[.string (Tx.prAt 0),.string (Tx.prAt 1),.string (Tx.prAt 2),.string (Tx.prAt 3)]) (.int .i64 ((0:Nat):Int))).run Tryz.prog w= .ok (.string (Tx.prAt 0)) w:=fun _=>by kernel_rfl
 have x1: ∀w:World,(Instr.index 223 (.agg #[.string (Tx.prAt 0),.string (Tx.prAt 1),.string (Tx.prAt 2),.string (Tx.prAt 3)]) (.int .i64 ((1:Nat):Int))).run Tryz.prog w= .ok (.string (Tx.prAt 1)) w:=fun _=>by kernel_rfl
 have x2: ∀w:World,(Instr.index 223 (.agg #[.string (Tx.prAt 0),.string (Tx.prAt 1),.string (Tx.prAt 2),.string (Tx.prAt 3)]) (.int .i64 ((2:Nat):Int))).run Tryz.prog w= .ok (.string (Tx.prAt 2)) w:=fun _=>by kernel_rfl
 have x3: ∀w:World,(Instr.index 223 (.agg #[.string (Tx.prAt 0),.string (Tx.prAt 1),.string (Tx.prAt 2),.string (Tx.prAt 3)]) (.int .i64 ((3:Nat):Int))).run Tryz.prog w= .ok (.string (Tx.prAt 3)) w:=fun _=>by kernel_rfl
 intro k hk w
 rcases (show k=0∨k=1∨k=2∨k=3 by omega) with rfl |rfl |rfl |rfl
 ·exact x0 w
 ·exact x1 w
 ·exact x2 w
 ·exact x3 w
theorem mark_any (s:ByteArray) (i:Nat) (w:World) (hs:s.size≤5000000) (hi:i<s.size) (hg:Gl w):
  Calls Tryz.prog 131 #[.string s,.int .i64 i] w fun e w'=>
   e= .returned (.tuple #[.agg #[.int .i64 (Tx.markA s i).sg.kind,.int .i64 (Tx.markA s i).sg.pos,.string (Tx.markA s i).sg.text,.int .i64 (Tx.markA s i).sg.num],.int .i64 (Tx.markA s i).stop,.int .i64 (Tx.markA s i).err])∧Below w.heap.size w w':=by
 have c0:=hg.pair 0 (by decide)
 have c1:=hg.pair 1 (by decide)
 have c2:=hg.pair 2 (by decide)
 have c3:=hg.pair 3 (by decide)
 have h1:0<w.heap.size:=Nat.lt_of_lt_of_le (by decide) hg.two
 generalize ha:Tx.markA s i=an
 have HA:=hdn ha
 clear ha
 go_enter Tryz.func131,Tryz.ntmps131
 go_wp2
 clear c0 c1 c2 c3
 go_loop [10] (fun v=> ∃k:Nat,k≤4∧v= .int .i64 k∧Hid (∀j,j<k→preB s i (Tx.prAt j)=false)) (fun v=>4-(intOf v).toNat)
 case atStart=>exact ⟨0,Nat.zero_le _,rfl,hdn (fun j hj=>absurd hj (by omega))⟩
 case round=>
  obtain ⟨k,hk,rfl,HR⟩:=hrel
  by_cases hlt:k<4
  ·have hx:=pairs_index k hlt
   cases hp:preB s i (Tx.prAt k)
   ·have HP:=hdn hp
    go_wp2_with (go_at_call 149;refine (prefixFrom_any _ _ _ _).mono ?_;rintro e w' ⟨rfl,rfl⟩)
    go_round
    case rel=>exact ⟨k+1,by omega,by go_num,hdn (fun j hj=>by
     rcases Nat.lt_or_ge j k with h |h
     ·exact HR.out j h
     ·obtain rfl:j=k:=by omega
      exact HP.out)⟩
    case measure=>simp[intOf];omega
   ·obtain ⟨hm,h2⟩:=pair_hit s i k hlt hp
    have he:an=Tx.An.good s 4 i (i+2) 0:=by rw[←HA.out];unfold Tx.markA;rw[hm];rfl
    replace he:=hdn he
    clear hm
    have hz2:=prAt_size k hlt
    go_wp2_with (first |(go_at_call 149;refine (prefixFrom_any _ _ _ _).mono ?_;rintro e w' ⟨rfl,rfl⟩)|(go_at_call 126;refine (right_any 4 s i (i+2) _ (by omega) h2).mono ?_;rintro e w1 ⟨rfl,hb⟩;obtain ⟨hc,hf⟩:=bcell hb;have hz:w.heap.size<w1.heap.size:=(by have:=hb.size;simp at this;omega);have HB:=hdn hb;clear hb))
    replace he:=he.out
    exact bodyPost_ret (v:= .tuple #[.agg #[.int .i64 4,.int .i64 (i:Nat),.string (s.extract i (i+2)),.int .i64 0],.int .i64 (i+2:Nat),.int .i64 0]) (by simp[results,Tryz.results131,go_sem,hc]) rfl ⟨by rw[he];rfl,below4 HB.out _ _ _ _⟩
  ·have hm:=pair_miss s i hi (fun j hj=>HR.out j (by omega))
   have hq:=singles_at s[i]
   cases ho:Tx.one s[i].toNat
   ·rw[ho] at hm hq
    have he:an=Tx.An.bad i 4:=by rw[←HA.out];unfold Tx.markA;rw[hm];rfl
    replace he:=hdn he
    have hq1:singleI (s[i].toNat:Int)<0:=of_decide_eq_true hq
    clear hm hq ho
    go_wp2_with (first |(go_at_call 154;refine (singles_any _ _).mono ?_;rintro e w' ⟨rfl,rfl⟩)|(go_at_call 151;refine (wrong_any _ _ _).mono ?_;rintro e w1 ⟨rfl,hb⟩;obtain ⟨hc,hf⟩:=bcell hb;have hz:w.heap.size<w1.heap.size:=(by have:=hb.size;simp at this;omega);have HB:=hdn hb;clear hb))
    replace he:=he.out
    exact bodyPost_ret (v:= .tuple #[.agg #[.int .i64 0,.int .i64 (i:Nat),.string ByteArray.empty,.int .i64 0],.int .i64 (i:Nat),.int .i64 4]) (by simp[results,Tryz.results131,go_sem,hc]) rfl ⟨by rw[he];rfl,below4 HB.out _ _ _ _⟩
   ·rw[ho] at hm hq
    have he:an=Tx.An.good s 4 i (i+1) 0:=by rw[←HA.out];unfold Tx.markA;rw[hm];rfl
    replace he:=hdn he
    have hq1: ¬singleI (s[i].toNat:Int)<0:=of_decide_eq_false hq
    clear hm hq ho
    go_wp2_with (first |(go_at_call 154;refine (singles_any _ _).mono ?_;rintro e w' ⟨rfl,rfl⟩)|(go_at_call 126;refine (right_any 4 s i (i+1) _ (by omega) (by omega)).mono ?_;rintro e w1 ⟨rfl,hb⟩;obtain ⟨hc,hf⟩:=bcell hb;have hz:w.heap.size<w1.heap.size:=(by have:=hb.size;simp at this;omega);have HB:=hdn hb;clear hb))
    replace he:=he.out
    exact bodyPost_ret (v:= .tuple #[.agg #[.int .i64 4,.int .i64 (i:Nat),.string (s.extract i (i+1)),.int .i64 0],.int .i64 (i+1:Nat),.int .i64 0]) (by simp[results,Tryz.results131,go_sem,hc]) rfl ⟨by rw[he];rfl,below4 HB.out _ _ _ _⟩
end Go.Proofs.YtcehbcnloiooaaaGreatDoor
namespace Go.Proofs.YtcehbcnloiooaaaGreatDoor
open Go.RowKit
def sgL:List Int:= [123,125,40,41,59,44,42,61,60,43,45,63]
def sgAt (k:Nat):Int:=sgL.getD k 0
theorem one_hit (c:Int) (k:Nat) (hk:k<12) (h:(sgAt k==c)=true):Tx.one c=true:=by
 rw[beq_iff_eq] at h
 subst h
 rcases (show k=0∨k=1∨k=2∨k=3∨k=4∨k=5∨k=6∨k=7∨k=8∨k=9∨k=10∨k=11 by omega) with rfl |rfl |rfl |rfl |rfl |rfl |rfl |rfl |rfl |rfl |rfl |rfl<;>rfl
theorem one_miss (c:Int) (h: ∀k,k<12→(sgAt k==c)=false):Tx.one c=false:=by
 have h': ∀k,k<12→sgAt k≠c:=fun k hk e=>by have:=h k hk;rw[e] at this;simp at this
 have a0:=h' 0 (by decide);have a1:=h' 1 (by decide);have a2:=h' 2 (by decide);have a3:=h' 3 (by decide)
 have a4:=h' 4 (by decide);have a5:=h' 5 (by decide);have a6:=h' 6 (by decide);have a7:=h' 7 (by decide)
 have a8:=h' 8 (by decide);have a9:=h' 9 (by decide);have a10:=h' 10 (by decide);have a11:=h' 11 (by decide)
 simp only[sgAt,sgL,List.getD_cons_zero,List.getD_cons_succ] at a0 a1 a2 a3 a4 a5 a6 a7 a8 a9 a10 a11
 unfold Tx.one
 rw[decide_eq_false_iff_not]
 omega
theorem sg_index: ∀k:Nat,k<12→∀w:World,(Instr.index 9 (.string ⟨#[123,125,40,41,59,44,42,61,60,43,45,63]⟩) (.int .i64 (k:Int))).run Tryz.prog w= .ok (.int .u8 (sgAt k)) w:=by
 have x0: ∀w:World,(Instr.index 9 (.string ⟨#[123,125,40,41,59,44,42,61,60,43,45,63]⟩) (.int .i64 ((0:Nat):Int))).run Tryz.prog w= .ok (.int .u8 (sgAt 0)) w:=fun _=>by kernel_rfl
 have x1: ∀w:World,(Instr.index 9 (.string ⟨#[123,125,40,41,59,44,42,61,60,43,45,63]⟩) (.int .i64 ((1:Nat):Int))).run Tryz.prog w= .ok (.int .u8 (sgAt 1)) w:=fun _=>by kernel_rfl
 have x2: ∀w:World,(Instr.index 9 (.string ⟨#[123,125,40,41,59,44,42,61,60,43,45,63]⟩) (.int .i64 ((2:Nat):Int))).run Tryz.prog w= .ok (.int .u8 (sgAt 2)) w:=fun _=>by kernel_rfl
 have x3: ∀w:World,(Instr.index 9 (.string ⟨#[123,125,40,41,59,44,42,61,60,43,45,63]⟩) (.int .i64 ((3:Nat):Int))).run Tryz.prog w= .ok (.int .u8 (sgAt 3)) w:=fun _=>by kernel_rfl
 have x4: ∀w:World,(Instr.index 9 (.string ⟨#[123,125,40,41,59,44,42,61,60,43,45,63]⟩) (.int .i64 ((4:Nat):Int))).run Tryz.prog w= .ok (.int .u8 (sgAt 4)) w:=fun _=>by kernel_rfl
 have x5: ∀w:World,(Instr.index 9 (.string ⟨#[123,125,40,41,59,44,42,61,60,43,45,63]⟩) (.int .i64 ((5:Nat):Int))).run Tryz.prog w= .ok (.int .u8 (sgAt 5)) w:=fun _=>by kernel_rfl
 have x6: ∀w:World,(Instr.index 9 (.string ⟨#[123,125,40,41,59,44,42,61,60,43,45,63]⟩) (.int .i64 ((6:Nat):Int))).run Tryz.prog w= .ok (.int .u8 (sgAt 6)) w:=fun _=>by kernel_rfl
 have x7: ∀w:World,(Instr.index 9 (.string ⟨#[123,125,40,41,59,44,42,61,60,43,45,63]⟩) (.int .i64 ((7:Nat):Int))).run Tryz.prog w= .ok (.int .u8 (sgAt 7)) w:=fun _=>by kernel_rfl
 have x8: ∀w:World,(Instr.index 9 (.string ⟨#[123,125,40,41,59,44,42,61,60,43,45,63]⟩) (.int .i64 ((8:Nat):Int))).run Tryz.prog w= .ok (.int .u8 (sgAt 8)) w:=fun _=>by kernel_rfl
 have x9: ∀w:World,(Instr.index 9 (.string ⟨#[123,125,40,41,59,44,42,61,60,43,45,63]⟩) (.int .i64 ((9:Nat):Int))).run Tryz.prog w= .ok (.int .u8 (sgAt 9)) w:=fun _=>by kernel_rfl
 have x10: ∀w:World,(Instr.index 9 (.string ⟨#[123,125,40,41,59,44,42,61,60,43,45,63]⟩) (.int .i64 ((10:Nat):Int))).run Tryz.prog w= .ok (.int .u8 (sgAt 10)) w:=fun _=>by kernel_rfl
 have x11: ∀w:World,(Instr.index 9 (.string ⟨#[123,125,40,41,59,44,42,61,60,43,45,63]⟩) (.int .i64 ((11:Nat):Int))).run Tryz.prog w= .ok (.int .u8 (sgAt 11)) w:=fun _=>by kernel_rfl
 intro k hk w
 rcases (show k=0∨k=1∨k=2∨k=3∨k=4∨k=5∨k=6∨k=7∨k=8∨k=9∨k=10∨k=11 by omega) with rfl |rfl |rfl |rfl |rfl |rfl |rfl |rfl |rfl |rfl |rfl |rfl
 ·exact x0 w
 ·exact x1 w
 ·exact x2 w
 ·exact x3 w
 ·exact x4 w
 ·exact x5 w
 ·exact x6 w
 ·exact x7 w
 ·exact x8 w
 ·exact x9 w
 ·exact x10 w
 ·exact x11 w
theorem two_bytes (s:ByteArray) (i:Nat) (h:i+1<s.size):(s.extract i (i+2)).toList= [s[i],s[i+1]]:=by
 rw[Lib.extract_toList,Tx.drop_at s i (by omega),Tx.drop_at s (i+1) h]
 rw[show i+2-i=2 by omega];rfl
theorem bytes_is (s:ByteArray) (i:Nat) (h:i+1<s.size) (a b:UInt8):((s.extract i (i+2)).toList== [a,b])=decide ((s[i].toNat:Int)=a.toNat∧(s[i+1].toNat:Int)=b.toNat):=by
 rw[two_bytes s i h,Bool.eq_iff_iff,beq_iff_eq,decide_eq_true_iff]
 simp only[List.cons.injEq,and_true]
 constructor
 ·rintro ⟨e1,e2⟩;rw[e1,e2];exact ⟨rfl,rfl⟩
 ·rintro ⟨e1,e2⟩;exact ⟨UInt8.toNat_inj.1 (by omega),UInt8.toNat_inj.1 (by omega)⟩
theorem two_case (s:ByteArray) (i:Nat) (h:i+1<s.size):
  (Tx.two s[i].toNat s[i+1].toNat=true∧(((s.extract i (i+2)).toList== [45,62])=true∨(((s.extract i (i+2)).toList== [45,62])=false∧((s.extract i (i+2)).toList== [61,61])=true)∨
   (((s.extract i (i+2)).toList== [45,62])=false∧((s.extract i (i+2)).toList== [61,61])=false∧((s.extract i (i+2)).toList== [33,61])=true)∨
   (((s.extract i (i+2)).toList== [45,62])=false∧((s.extract i (i+2)).toList== [61,61])=false∧((s.extract i (i+2)).toList== [33,61])=false∧((s.extract i (i+2)).toList== [62,61])=true)))∨
  (Tx.two s[i].toNat s[i+1].toNat=false∧((s.extract i (i+2)).toList== [45,62])=false∧((s.extract i (i+2)).toList== [61,61])=false∧((s.extract i (i+2)).toList== [33,61])=false∧((s.extract i (i+2)).toList== [62,61])=false):=by
 rw[bytes_is s i h 45 62,bytes_is s i h 61 61,bytes_is s i h 33 61,bytes_is s i h 62 61]
 unfold Tx.two
 simp only[decide_eq_true_iff,decide_eq_false_iff_not,show (45:UInt8).toNat=45 from rfl,show (62:UInt8).toNat=62 from rfl,show (61:UInt8).toNat=61 from rfl,show (33:UInt8).toNat=33 from rfl]
 omega
theorem refMark_any (s:ByteArray) (i:Nat) (w:World) (hs:s.size≤5000000) (hi:i<s.size):
  Calls Tryz.prog 107 #[.string s,.int .i64 i] w fun e w'=>e= .returned (.int .i64 (Tx.mrk s i))∧∃m,w'=w.drewN m:=by
 generalize hmm:Tx.mrk s i=mm
 have HMM:=hdn hmm
 clear hmm
 by_cases h1:i+1<s.size
 ·rcases two_case s i h1 with ⟨h2,hq⟩|⟨h2,q1,q2,q3,q4⟩
  ·have HM:=hdn (Tx.mrk_two s i h1 h2)
   clear h2
   rcases hq with q1 |⟨q1,q2⟩|⟨q1,q2,q3⟩|⟨q1,q2,q3,q4⟩
   all_goals
    go_enter Tryz.func107,Tryz.ntmps107
    go_wp2_with fail
    go_ret
    exact ⟨lret_int (by rw[←HMM.out,HM.out];rfl),0,rfl⟩
  ·have HM:=hdn (Tx.mrk_one s i hi (fun _=>h2))
   clear h2
   go_enter Tryz.func107,Tryz.ntmps107
   go_wp2_with fail
   clear q1 q2 q3 q4
   go_loopw [7] (fun v wr=> ∃k:Nat,k≤12∧v= .int .i64 k∧(∃m,wr=w.drewN m)∧Hid (∀j,j<k→(sgAt j==(s[i].toNat:Int))=false)) (fun v _=>12-(Lib.intOf v).toNat)
   case atStart=>exact ⟨0,Nat.zero_le _,rfl,⟨0,rfl⟩,hdn (fun j hj=>absurd hj (by omega))⟩
   case round=>
    obtain ⟨k,hk,rfl,⟨m,rfl⟩,HR⟩:=hrel
    by_cases hlt:k<12
    ·have hx:=sg_index k hlt
     cases he:(sgAt k==(s[i].toNat:Int))
     ·have HE:=hdn he
      go_wp2_with fail
      go_quiet (fail)
      go_wp2_with fail
      go_roundw
      case rel=>exact ⟨k+1,by omega,by go_num,⟨_,rfl⟩,hdn (fun j hj=>by
       rcases Nat.lt_or_ge j k with h |h
       ·exact HR.out j h
       ·obtain rfl:j=k:=by omega
        exact HE.out)⟩
      case measure=>simp[Lib.intOf];omega
     ·have HE:=hdn he
      go_wp2_with fail
      go_quiet (fail)
      go_wp2_with fail
      go_ret
      exact ⟨lret_int (by rw[←HMM.out,HM.out,one_hit _ k hlt HE.out];rfl),_,World.drewN_drewN _ _ _⟩
    ·go_wp2_with fail
     go_ret
     exact ⟨lret_int (by rw[←HMM.out,HM.out,one_miss _ (fun j hj=>HR.out j (by omega))];rfl),_,rfl⟩
 ·have HM:=hdn (Tx.mrk_one s i hi (fun h=>absurd h h1))
  go_enter Tryz.func107,Tryz.ntmps107
  go_wp2_with fail
  go_loopw [7] (fun v wr=> ∃k:Nat,k≤12∧v= .int .i64 k∧(∃m,wr=w.drewN m)∧Hid (∀j,j<k→(sgAt j==(s[i].toNat:Int))=false)) (fun v _=>12-(Lib.intOf v).toNat)
  case atStart=>exact ⟨0,Nat.zero_le _,rfl,⟨0,rfl⟩,hdn (fun j hj=>absurd hj (by omega))⟩
  case round=>
   obtain ⟨k,hk,rfl,⟨m,rfl⟩,HR⟩:=hrel
   by_cases hlt:k<12
   ·have hx:=sg_index k hlt
    cases he:(sgAt k==(s[i].toNat:Int))
    ·have HE:=hdn he
     go_wp2_with fail
     go_quiet (fail)
     go_wp2_with fail
     go_roundw
     case rel=>exact ⟨k+1,by omega,by go_num,⟨_,rfl⟩,hdn (fun j hj=>by
      rcases Nat.lt_or_ge j k with h |h
      ·exact HR.out j h
      ·obtain rfl:j=k:=by omega
       exact HE.out)⟩
     case measure=>simp[Lib.intOf];omega
    ·have HE:=hdn he
     go_wp2_with fail
     go_quiet (fail)
     go_wp2_with fail
     go_ret
     exact ⟨lret_int (by rw[←HMM.out,HM.out,one_hit _ k hlt HE.out];rfl),_,World.drewN_drewN _ _ _⟩
   ·go_wp2_with fail
    go_ret
    exact ⟨lret_int (by rw[←HMM.out,HM.out,one_miss _ (fun j hj=>HR.out j (by omega))];rfl),_,rfl⟩
end Go.Proofs.YtcehbcnloiooaaaGreatDoor
namespace Go.Proofs.YtcehbcnloiooaaaGreatDoor
open Go.RowKit
theorem Tx.empty_of (s:ByteArray) (h:s.size=0):s=ByteArray.empty:=ByteArray.size_eq_zero_iff.1 h
def held (s:ByteArray) (i:Int):Nat:=if i<0 then 0 else if s.size<i then s.size else i.toNat
theorem held_le (s:ByteArray) (i:Int):held s i≤s.size:=by unfold held;split;omega;split<;>omega
theorem held_of (s:ByteArray) (k:Nat) (h:k≤s.size):held s k=k:=by unfold held;rw[if_neg (by omega),if_neg (by omega)];rfl
theorem min_max (s:ByteArray) (i:Int):min (max i 0) (s.size:Int)=(held s i:Nat):=by unfold held;split;omega;split<;>omega
theorem max_min (s:ByteArray) (i:Int):max 0 (min i (s.size:Int))=(held s i:Nat):=by unfold held;split;omega;split<;>omega
theorem skipHeld_any (s:ByteArray) (i:Int) (w:World) (hs:s.size≤5000000):
  Calls Tryz.prog 125 #[.string s,.int .i64 (min (max i 0) (s.size:Int))] w fun e w'=>e= .returned (.int .i64 (Tx.skp s (held s i)))∧w=w':=by
 rw[min_max];exact skip_any s _ w hs (held_le s i)
theorem blankHeld_any (s:ByteArray) (i:Int) (w:World) (hs:s.size≤5000000):
  Calls Tryz.prog 106 #[.string s,.int .i64 (max 0 (min i (s.size:Int)))] w fun e w'=>e= .returned (.int .i64 (Tx.skp s (held s i)))∧w=w':=by
 rw[max_min];exact blank_any s _ w hs (held_le s i)
theorem cut_none (s:ByteArray) (k:Nat):s.extract k k=ByteArray.empty:=by
 apply Tx.empty_of;rw[ByteArray.size_extract];omega
theorem tok_end (s:ByteArray) (k:Nat) (h: ¬k<s.size):Tx.tok s k=Tx.An.bad k 0:=by unfold Tx.tok;rw[dif_neg h]
theorem tok_word (s:ByteArray) (k:Nat) (h:k<s.size) (hl:Tx.ltr (s[k].toNat:Int)=true):Tx.tok s k=Tx.wordA s k:=by unfold Tx.tok;rw[dif_pos h,hl];rfl
theorem tok_num (s:ByteArray) (k:Nat) (h:k<s.size) (hl:Tx.ltr (s[k].toNat:Int)=false) (hd:Tx.dgt (s[k].toNat:Int)=true):Tx.tok s k=Tx.numA s k:=by unfold Tx.tok;rw[dif_pos h,hl,hd];rfl
theorem tok_mark (s:ByteArray) (k:Nat) (h:k<s.size) (hl:Tx.ltr (s[k].toNat:Int)=false) (hd:Tx.dgt (s[k].toNat:Int)=false):Tx.tok s k=Tx.markA s k:=by unfold Tx.tok;rw[dif_pos h,hl,hd];rfl
theorem next_any (s:ByteArray) (i:Int) (w:World) (hs:s.size≤5000000) (hg:Gl w):
  Calls Tryz.prog 94 #[.string s,.int .i64 i] w fun e w'=>
   e= .returned (.tuple #[.agg #[.int .i64 (Tx.nx s (held s i)).sg.kind,.int .i64 (Tx.nx s (held s i)).sg.pos,.string (Tx.nx s (held s i)).sg.text,.int .i64 (Tx.nx s (held s i)).sg.num],.int .i64 (Tx.nx s (held s i)).stop,.int .i64 (Tx.nx s (held s i)).err])∧Below w.heap.size w w':=by
 have hn:Tx.nx s (held s i)=Tx.tok s (Tx.skp s (held s i)):=rfl
 rw[hn]
 clear hn
 have hle:=Tx.skp_le s (held s i) (held_le s i)
 have hskip:=fun w=>skipHeld_any s i w hs
 generalize Tx.skp s (held s i)=k at hle hskip ⊢
 have HS:=hdn hskip
 clear hskip
 by_cases hlt:k<s.size
 ·have hz:((k:Int)==(s.size:Int))=false:=by rw[Bool.eq_false_iff];intro e;rw[beq_iff_eq] at e;omega
  cases hl:Tx.ltr (s[k].toNat:Int)
  ·cases hd:Tx.dgt (s[k].toNat:Int)
   ·rw[tok_mark s k hlt hl hd]
    go_enter Tryz.func94,Tryz.ntmps94
    go_wp2_with (first |(go_at_call 125;refine (HS.out _).mono ?_;rintro e w' ⟨rfl,rfl⟩)|(go_at_call 127;refine (isLetter_any _ _).mono ?_;rintro e w' ⟨rfl,rfl⟩)|(go_at_call 129;refine (isDigit_any _ _).mono ?_;rintro e w' ⟨rfl,rfl⟩)|(go_at_call 131;refine (mark_any s k _ hs hlt (hg.alloc _)).mono ?_;rintro e w1 ⟨rfl,hb⟩;obtain ⟨hc,hf⟩:=bcell hb;have hz:w.heap.size<w1.heap.size:=(by have:=hb.size;simp at this;omega);have HB:=hdn hb;clear hb))
    exact bodyPost_ret (v:= .tuple #[.agg #[.int .i64 (Tx.markA s k).sg.kind,.int .i64 (Tx.markA s k).sg.pos,.string (Tx.markA s k).sg.text,.int .i64 (Tx.markA s k).sg.num],.int .i64 (Tx.markA s k).stop,.int .i64 (Tx.markA s k).err]) (by simp[results,Tryz.results94,go_sem,hc]) rfl ⟨rfl,below4 HB.out _ _ _ _⟩
   ·rw[tok_num s k hlt hl hd]
    go_enter Tryz.func94,Tryz.ntmps94
    go_wp2_with (first |(go_at_call 125;refine (HS.out _).mono ?_;rintro e w' ⟨rfl,rfl⟩)|(go_at_call 127;refine (isLetter_any _ _).mono ?_;rintro e w' ⟨rfl,rfl⟩)|(go_at_call 129;refine (isDigit_any _ _).mono ?_;rintro e w' ⟨rfl,rfl⟩)|(go_at_call 130;refine (number_any s k _ hs hle).mono ?_;rintro e w1 ⟨rfl,hb⟩;obtain ⟨hc,hf⟩:=bcell hb;have hz:w.heap.size<w1.heap.size:=(by have:=hb.size;simp at this;omega);have HB:=hdn hb;clear hb))
    exact bodyPost_ret (v:= .tuple #[.agg #[.int .i64 (Tx.numA s k).sg.kind,.int .i64 (Tx.numA s k).sg.pos,.string (Tx.numA s k).sg.text,.int .i64 (Tx.numA s k).sg.num],.int .i64 (Tx.numA s k).stop,.int .i64 (Tx.numA s k).err]) (by simp[results,Tryz.results94,go_sem,hc]) rfl ⟨rfl,below4 HB.out _ _ _ _⟩
  ·rw[tok_word s k hlt hl]
   go_enter Tryz.func94,Tryz.ntmps94
   go_wp2_with (first |(go_at_call 125;refine (HS.out _).mono ?_;rintro e w' ⟨rfl,rfl⟩)|(go_at_call 127;refine (isLetter_any _ _).mono ?_;rintro e w' ⟨rfl,rfl⟩)|(go_at_call 128;refine (word_any s k _ hs hle (hg.alloc _)).mono ?_;rintro e w1 ⟨rfl,hb⟩;obtain ⟨hc,hf⟩:=bcell hb;have hz:w.heap.size<w1.heap.size:=(by have:=hb.size;simp at this;omega);have HB:=hdn hb;clear hb))
   exact bodyPost_ret (v:= .tuple #[.agg #[.int .i64 (Tx.wordA s k).sg.kind,.int .i64 (Tx.wordA s k).sg.pos,.string (Tx.wordA s k).sg.text,.int .i64 (Tx.wordA s k).sg.num],.int .i64 (Tx.wordA s k).stop,.int .i64 (Tx.wordA s k).err]) (by simp[results,Tryz.results94,go_sem,hc]) rfl ⟨rfl,below4 HB.out _ _ _ _⟩
 ·rw[tok_end s k hlt]
  unfold Tx.An.bad
  obtain rfl:k=s.size:=by omega
  have he:=hdn (cut_none s s.size)
  clear hlt hle
  go_enter Tryz.func94,Tryz.ntmps94
  go_wp2_with (first |(go_at_call 125;refine (HS.out _).mono ?_;rintro e w' ⟨rfl,rfl⟩)|(go_at_call 126;refine (right_any 0 s s.size s.size _ (Nat.le_refl _) (Nat.le_refl _)).mono ?_;rintro e w1 ⟨rfl,hb⟩;obtain ⟨hc,hf⟩:=bcell hb;have hz:w.heap.size<w1.heap.size:=(by have:=hb.size;simp at this;omega);have HB:=hdn hb;clear hb))
  exact bodyPost_ret (v:= .tuple #[.agg #[.int .i64 0,.int .i64 (s.size:Nat),.string (s.extract s.size s.size),.int .i64 0],.int .i64 (s.size:Nat),.int .i64 0]) (by simp[results,Tryz.results94,go_sem,hc]) rfl ⟨by rw[he.out],below4 HB.out _ _ _ _⟩
end Go.Proofs.YtcehbcnloiooaaaGreatDoor
namespace Go.Proofs.YtcehbcnloiooaaaGreatDoor
open Go.RowKit
theorem below_two (w:World) (o1 o2:Obj) (m:Nat):Below w.heap.size w (((w.alloc o1).alloc o2).drewN m):=by
 have h:=((Below.refl w.heap.size w).alloc (Nat.le_refl _) o1).alloc (by simp) o2
 exact ⟨h.os,h.tape,h.output,h.size,h.block⟩
def Blk (w:World) (g:Nat) (t:TypeId) (cs:Array Value):Prop:=w.heap[g]? =some (.cells cs t (0,0))
section
variable {w w':World} {g:Nat} {t:TypeId} {cs:Array Value}
theorem Blk.lt (h:Blk w g t cs):g<w.heap.size:=by
 rcases Nat.lt_or_ge g w.heap.size with hlt |hge
 ·exact hlt
 ·unfold Blk at h;rw[Array.getElem?_eq_none hge] at h;cases h
theorem Blk.cell (h:Blk w g t cs) (i:Nat):w.cell? ⟨g,i,none⟩=cs[i]? :=cell_of_row w g i cs t (0,0) h
theorem Blk.frozen (h:Blk w g t cs) (i:Nat):w.frozen? ⟨g,i,none⟩=false:=by
 unfold Blk at h
 simp[World.frozen?,h]
theorem Blk.new (w:World) (t:TypeId) (cs:Array Value):Blk (w.alloc (.cells cs t)) w.heap.size t cs:=heap_alloc_new w _
theorem Blk.drewN (h:Blk w g t cs) (n:Nat):Blk (w.drewN n) g t cs:=h
theorem Blk.alloc (h:Blk w g t cs) (o:Obj):Blk (w.alloc o) g t cs:=(Below.heap_alloc w o g h.lt).trans h
theorem Blk.set_ (h:Blk w g t cs) (i:Nat) (u:Value):Blk (w.setCell ⟨g,i,none⟩ u) g t (cs.setIfInBounds i u):=by
 unfold Blk at h ⊢
 simp[World.setCell,Array.getElem?_modify,h]
theorem Blk.far (h:Blk w g t cs) {p:Addr} (hp:g≠p.block) (u:Value):Blk (w.setCell p u) g t cs:=(Below.heap_setCell w p u g hp).trans h
theorem Blk.below {B:Nat} (h:Blk w g t cs) (hb:Below B w w') (hg:g<B):Blk w' g t cs:=(hb.block g hg).trans h
end
theorem below_call {w w1:World} {o1 o2:Obj} (hb:Below ((w.alloc o1).alloc o2).heap.size ((w.alloc o1).alloc o2) w1):Below w.heap.size w w1:=
 (((Below.refl _ _).alloc (Nat.le_refl _) _).alloc (by simp) _).trans (hb.mono (by simp;omega))
theorem wend_all (p:Int→Bool) (s:ByteArray) (i q:Nat) (hi:i≤q) (hq:q<Tx.wend p s i) (h:q<s.size):p (s[q].toNat:Int)=true:=by
 apply run_take p (s.data.toList.drop i)
 rw[List.mem_take_iff_getElem]
 unfold Tx.wend at hq
 refine ⟨q-i, ?_, ?_⟩
 ·rw[List.length_drop,Tx.len_eq];omega
 ·rw[List.getElem_drop]
  simp only[show i+(q-i)=q by omega]
  rfl
def valTo (s:ByteArray) (k q:Nat):Int:=Tx.val ((s.data.toList.drop k).take (q-k))
theorem valTo_start (s:ByteArray) (k:Nat):valTo s k k=0:=by unfold valTo;rw[Nat.sub_self];rfl
theorem valTo_step (s:ByteArray) (k q:Nat) (hk:k≤q) (h:q<s.size):valTo s k (q+1)=valTo s k q*10+(s[q].toNat-48):=by
 unfold valTo
 rw[show q+1-k=(q-k)+1 by omega,List.take_succ_eq_append_getElem (by rw[List.length_drop,Tx.len_eq];omega)]
 unfold Tx.val
 rw[List.foldl_append,List.getElem_drop]
 simp only[List.foldl_cons,List.foldl_nil,show k+(q-k)=q by omega]
 rw[Int.mul_comm]
 rfl
theorem valTo_end (s:ByteArray) (k j:Nat):valTo s k j=Tx.val (s.extract k j).data.toList:=by unfold valTo;rw[part_list]
theorem valTo_bd (s:ByteArray) (k j q:Nat) (hw:Tx.wend Tx.dgt s k=j) (hj:j≤s.size) (h9:j-k≤9) (hk:k≤q) (hq:q≤j):0≤valTo s k q∧valTo s k q<1000000000:=by
 have h:=val_small (s.extract k j) (by rw[←hw];exact digs_part s k) (by rw[part_size _ _ _ hj];omega) (q-k) (by rw[part_size _ _ _ hj];omega)
 rw[part_list,List.take_take,Nat.min_eq_left (by omega)] at h
 exact h
theorem refNext_any (s:ByteArray) (i:Int) (w:World) (hs:s.size≤5000000):
  Calls Tryz.prog 77 #[.string s,.int .i64 i] w fun e w'=>
   e= .returned (.tuple #[.agg #[.int .i64 (Tx.nx s (held s i)).sg.kind,.int .i64 (Tx.nx s (held s i)).sg.pos,.string (Tx.nx s (held s i)).sg.text,.int .i64 (Tx.nx s (held s i)).sg.num],.int .i64 (Tx.nx s (held s i)).stop,.int .i64 (Tx.nx s (held s i)).err])∧Below w.heap.size w w':=by
 have hn:Tx.nx s (held s i)=Tx.tok s (Tx.skp s (held s i)):=rfl
 rw[hn]
 clear hn
 have hle:=Tx.skp_le s (held s i) (held_le s i)
 have hskip:=fun w=>blankHeld_any s i w hs
 generalize Tx.skp s (held s i)=k at hle hskip ⊢
 have HS:=hdn hskip
 clear hskip
 by_cases hlt:k<s.size
 ·have hz:((k:Int)==(s.size:Int))=false:=by rw[Bool.eq_false_iff];intro e;rw[beq_iff_eq] at e;omega
  cases hl:Tx.ltr (s[k].toNat:Int)
  ·cases hd:Tx.dgt (s[k].toNat:Int)
   ·rw[tok_mark s k hlt hl hd]
    generalize han:Tx.markA s k=an
    have HAN:=hdn han
    clear han
    have hml:=Tx.mrk_le s k hlt
    by_cases h0:Tx.mrk s k=0
    ·have HE:Hid (an=Tx.An.bad k 4):=hdn (by rw[←HAN.out];unfold Tx.markA;rw[if_pos h0])
     have hz0:((Tx.mrk s k:Int)==0)=true:=by rw[h0];rfl
     clear h0
     go_enter Tryz.func77,Tryz.ntmps77
     go_wp2_with (first |(go_at_call 106;refine (HS.out _).mono ?_;rintro e w' ⟨rfl,rfl⟩)|(go_at_call 95;refine (letter_any _ _).mono ?_;rintro e w' ⟨rfl,rfl⟩)|(go_at_call 97;refine (digit_any _ _).mono ?_;rintro e w' ⟨rfl,rfl⟩)|(go_at_call 107;refine (refMark_any s k _ hs hlt).mono ?_;rintro e w' ⟨rfl,m,rfl⟩))
     replace HE:=HE.out
     exact bodyPost_ret (v:= .tuple #[.agg #[.int .i64 0,.int .i64 (k:Nat),.string ByteArray.empty,.int .i64 0],.int .i64 (k:Nat),.int .i64 4]) (by simp[results,Tryz.results77,go_sem];rfl) rfl ⟨by rw[HE];rfl,((((below_two _ _ _ _).setCell (Nat.le_refl _) _).setCell (Nat.le_refl _) _).setCell (Nat.le_refl _) _).setCell (Nat.le_refl _) _⟩
    ·have HE:Hid (an=Tx.An.good s 4 k (k+Tx.mrk s k) 0):=hdn (by rw[←HAN.out];unfold Tx.markA;rw[if_neg h0])
     have hz0:((Tx.mrk s k:Int)==0)=false:=by rw[Bool.eq_false_iff];intro e;rw[beq_iff_eq] at e;exact h0 (by omega)
     clear h0
     go_enter Tryz.func77,Tryz.ntmps77
     go_wp2_with (first |(go_at_call 106;refine (HS.out _).mono ?_;rintro e w' ⟨rfl,rfl⟩)|(go_at_call 95;refine (letter_any _ _).mono ?_;rintro e w' ⟨rfl,rfl⟩)|(go_at_call 97;refine (digit_any _ _).mono ?_;rintro e w' ⟨rfl,rfl⟩)|(go_at_call 107;refine (refMark_any s k _ hs hlt).mono ?_;rintro e w' ⟨rfl,m,rfl⟩))
     replace HE:=HE.out
     exact bodyPost_ret (v:= .tuple #[.agg #[.int .i64 4,.int .i64 (k:Nat),.string (s.extract k (k+Tx.mrk s k)),.int .i64 0],.int .i64 ((k:Nat)+(Tx.mrk s k:Nat)),.int .i64 0]) (by simp[results,Tryz.results77,go_sem]) rfl ⟨by rw[HE];rfl,((((((below_two _ _ _ _).setCell (Nat.le_succ _) _).setCell (Nat.le_succ _) _).setCell (Nat.le_refl _) _).setCell (Nat.le_refl _) _).setCell (Nat.le_refl _) _).setCell (Nat.le_refl _) _⟩
   ·rw[tok_num s k hlt hl hd]
    generalize han:Tx.numA s k=an
    have HAN:=hdn han
    clear han
    go_enter Tryz.func77,Tryz.ntmps77
    go_wp2_with (first |(go_at_call 106;refine (HS.out _).mono ?_;rintro e w' ⟨rfl,rfl⟩)|(go_at_call 95;refine (letter_any _ _).mono ?_;rintro e w' ⟨rfl,rfl⟩)|(go_at_call 97;refine (digit_any _ _).mono ?_;rintro e w' ⟨rfl,rfl⟩))
    clear hl hd hz
    go_loop [8] (fun v=> ∃j:Nat,k≤j∧j≤s.size∧v= .int .i64 j∧Hid (Tx.wend Tx.dgt s j=Tx.wend Tx.dgt s k)) (fun v=>s.size-(intOf v).toNat)
    case atStart=>exact ⟨k,Nat.le_refl _,hle,rfl,rfl⟩
    case round=>
     obtain ⟨j,hkj,hj,rfl,HR⟩:=hrel
     by_cases hin: ∃h:j<s.size,Tx.dgt (s[j].toNat:Int)=true
     ·obtain ⟨hjt,hd⟩:=hin
      have HO:=hdn (Tx.wend_in Tx.dgt s j hjt hd)
      go_wp2_with (go_at_call 97;refine (digit_any _ _).mono ?_;rintro e w' ⟨rfl,rfl⟩)
      go_round
      case rel=>exact ⟨j+1,by omega,by omega,by go_num,HO.out.trans HR.out⟩
      case measure=>simp[intOf];omega
     ·have HW:Hid (Tx.wend Tx.dgt s k=j):=hdn (by
       rw[←HR.out]
       by_cases hjt:j<s.size
       ·exact Tx.wend_out Tx.dgt s j hjt (by rw[Bool.eq_false_iff];intro e;exact hin ⟨hjt,e⟩)
       ·exact Tx.wend_end Tx.dgt s j (by omega))
      have hcase:(∃h:j<s.size,Tx.dgt (s[j].toNat:Int)=false)∨¬j<s.size:=by
       by_cases hjt:j<s.size
       ·exact .inl ⟨hjt,by rw[Bool.eq_false_iff];intro e;exact hin ⟨hjt,e⟩⟩
       ·exact .inr hjt
      clear hin HR
      by_cases h9:9<j-k
      ·have HE:Hid (an=Tx.An.bad k 3):=hdn (by rw[←HAN.out];unfold Tx.numA;rw[HW.out,if_pos h9])
       rcases hcase with ⟨hjt,hd⟩|hjt
       all_goals
        go_wp2_with (go_at_call 97;refine (digit_any _ _).mono ?_;rintro e w' ⟨rfl,rfl⟩)
        replace HE:=HE.out
        exact bodyPost_ret (v:= .tuple #[.agg #[.int .i64 0,.int .i64 (k:Nat),.string ByteArray.empty,.int .i64 0],.int .i64 (k:Nat),.int .i64 3]) (by simp[results,Tryz.results77,go_sem];rfl) rfl ⟨by rw[HE];rfl,((Below.refl _ _).alloc (Nat.le_refl _) _).alloc (by simp) _⟩
      ·have HE:Hid (an=Tx.An.good s 2 k j (Tx.val (s.extract k j).data.toList)):=hdn (by rw[←HAN.out];unfold Tx.numA;rw[HW.out,if_neg h9])
       rcases hcase with ⟨hjt,hd⟩|hjt
       all_goals
        go_wp2_with (go_at_call 97;refine (digit_any _ _).mono ?_;rintro e w' ⟨rfl,rfl⟩)
        try clear hd
        go_loopw [9] (fun v wr=> ∃q:Nat,k≤q∧q≤j∧v= .int .i64 q∧Hid (Below w.heap.size w wr)∧Hid (Blk wr w.heap.size 83 #[.int .i64 0,.int .i64 0,.string ByteArray.empty,.int .i64 0])∧Hid (Blk wr (w.heap.size+1) 83 #[.int .i64 2,.int .i64 k,.string (s.extract k j),.int .i64 (valTo s k q)])) (fun v _=>j-(Lib.intOf v).toNat)
        case atStart=>
         refine ⟨k,Nat.le_refl _,hkj,rfl,hdn (((Below.refl _ _).alloc (Nat.le_refl _) _).alloc (by simp) _),hdn ((Blk.new _ _ _).alloc _),hdn ?_⟩
         rw[valTo_start]
         have h:=Blk.new (w.alloc (.cells #[.int .i64 0,.int .i64 0,.string ByteArray.empty,.int .i64 0] 83)) 83 #[.int .i64 2,.int .i64 k,.string (s.extract k j),.int .i64 0]
         rw[World.size_alloc] at h
         exact h
        case round=>
         obtain ⟨q,hkq,hqj,rfl,HB,HB1,HB2⟩:=hrel
         have hbd:=valTo_bd s k j q HW.out hj (by omega) hkq hqj
         have hv0:=hbd.1
         have hv1:=hbd.2
         clear hbd
         have hsz:=HB2.out.lt
         by_cases hqt:q<j
         ·have hdg:=wend_all Tx.dgt s k q hkq (by rw[HW.out];exact hqt) (by omega)
          have hqs:q<s.size:=by omega
          have HV:=hdn (valTo_step s k q hkq hqs)
          have hd0:48≤s[q].toNat:=by unfold Tx.dgt at hdg;simp at hdg;omega
          have hd1:s[q].toNat≤57:=by unfold Tx.dgt at hdg;simp at hdg;omega
          clear hdg
          have hc3:wr.cell? ⟨w.heap.size+1,3,none⟩=some (.int .i64 (valTo s k q)):=HB2.out.cell 3
          have hf3:wr.frozen? ⟨w.heap.size+1,3,none⟩=false:=HB2.out.frozen 3
          go_wp2_with fail
          go_region
          go_wp2_with fail
          go_roundw
          case rel=>
           refine ⟨q+1,by omega,by omega,by go_num,hdn ((HB.out.setCell (Nat.le_succ _) _).drew),hdn ?_,hdn ?_⟩
           ·exact HB1.out.far (p:=⟨w.heap.size+1,3,none⟩) (Nat.ne_of_lt (Nat.lt_succ_self _)) _
           ·rw[HV.out];exact HB2.out.set_ 3 _
          case measure=>simp[Lib.intOf];omega
         ·obtain rfl:q=j:=by omega
          have HQ:=hdn (valTo_end s k q)
          have hc0:wr.cell? ⟨w.heap.size+1,0,none⟩=some (.int .i64 2):=HB2.out.cell 0
          have hc1:wr.cell? ⟨w.heap.size+1,1,none⟩=some (.int .i64 k):=HB2.out.cell 1
          have hc2:wr.cell? ⟨w.heap.size+1,2,none⟩=some (.string (s.extract k q)):=HB2.out.cell 2
          have hc3:wr.cell? ⟨w.heap.size+1,3,none⟩=some (.int .i64 (valTo s k q)):=HB2.out.cell 3
          have ha0:wr.cell? ⟨w.heap.size,0,none⟩=some (.int .i64 0):=HB1.out.cell 0
          have ha1:wr.cell? ⟨w.heap.size,1,none⟩=some (.int .i64 0):=HB1.out.cell 1
          have ha2:wr.cell? ⟨w.heap.size,2,none⟩=some (.string ByteArray.empty):=HB1.out.cell 2
          have ha3:wr.cell? ⟨w.heap.size,3,none⟩=some (.int .i64 0):=HB1.out.cell 3
          have hf: ∀o,wr.frozen? ⟨w.heap.size,o,none⟩=false:=HB1.out.frozen
          go_wp2_with fail
          replace HE:=HE.out
          rw[←HQ.out] at HE
          exact bodyPost_ret (v:= .tuple #[.agg #[.int .i64 2,.int .i64 (k:Nat),.string (s.extract k q),.int .i64 (valTo s k q)],.int .i64 (q:Nat),.int .i64 0]) (by simp[results,Tryz.results77,go_sem,ha0,ha1,ha2,ha3]) rfl ⟨by rw[HE];rfl,(((HB.out.setCell (Nat.le_refl _) _).setCell (Nat.le_refl _) _).setCell (Nat.le_refl _) _).setCell (Nat.le_refl _) _⟩
  ·rw[tok_word s k hlt hl]
   generalize han:Tx.wordA s k=an
   have HAN:=hdn han
   clear han
   go_enter Tryz.func77,Tryz.ntmps77
   go_wp2_with (first |(go_at_call 106;refine (HS.out _).mono ?_;rintro e w' ⟨rfl,rfl⟩)|(go_at_call 95;refine (letter_any _ _).mono ?_;rintro e w' ⟨rfl,rfl⟩))
   clear hl hz
   go_loop [8] (fun v=> ∃j:Nat,k≤j∧j≤s.size∧v= .int .i64 j∧Hid (Tx.wend Tx.wrd s j=Tx.wend Tx.wrd s k)) (fun v=>s.size-(intOf v).toNat)
   case atStart=>exact ⟨k,Nat.le_refl _,hle,rfl,rfl⟩
   case round=>
    obtain ⟨j,hkj,hj,rfl,HR⟩:=hrel
    by_cases hin: ∃h:j<s.size,Tx.wrd (s[j].toNat:Int)=true
    ·obtain ⟨hjt,hw⟩:=hin
     have HO:=hdn (Tx.wend_in Tx.wrd s j hjt hw)
     have hw2:Tx.ltr (s[j].toNat:Int)=true∨(Tx.ltr (s[j].toNat:Int)=false∧Tx.dgt (s[j].toNat:Int)=true):=by
      unfold Tx.wrd at hw
      cases h1:Tx.ltr (s[j].toNat:Int)
      ·rw[h1] at hw;exact .inr ⟨rfl,by simpa using hw⟩
      ·exact .inl rfl
     clear hw
     rcases hw2 with h1 |⟨h1,h2⟩
     all_goals
      go_wp2_with (first |(go_at_call 95;refine (letter_any _ _).mono ?_;rintro e w' ⟨rfl,rfl⟩)|(go_at_call 97;refine (digit_any _ _).mono ?_;rintro e w' ⟨rfl,rfl⟩))
      go_round
      case rel=>exact ⟨j+1,by omega,by omega,by go_num,HO.out.trans HR.out⟩
      case measure=>simp[intOf];omega
    ·have HW:Hid (Tx.wend Tx.wrd s k=j):=hdn (by
      rw[←HR.out]
      by_cases hjt:j<s.size
      ·exact Tx.wend_out Tx.wrd s j hjt (by rw[Bool.eq_false_iff];intro e;exact hin ⟨hjt,e⟩)
      ·exact Tx.wend_end Tx.wrd s j (by omega))
     have hcase:(∃h:j<s.size,Tx.ltr (s[j].toNat:Int)=false∧Tx.dgt (s[j].toNat:Int)=false)∨¬j<s.size:=by
      by_cases hjt:j<s.size
      ·have hw:Tx.wrd (s[j].toNat:Int)=false:=by rw[Bool.eq_false_iff];intro e;exact hin ⟨hjt,e⟩
       unfold Tx.wrd at hw
       rw[Bool.or_eq_false_iff] at hw
       exact .inl ⟨hjt,hw⟩
      ·exact .inr hjt
     clear hin HR
     by_cases h16:16<j-k
     ·have HE:Hid (an=Tx.An.bad k 3):=hdn (by rw[←HAN.out];unfold Tx.wordA;rw[HW.out,if_pos h16])
      rcases hcase with ⟨hjt,h1,h2⟩|hjt
      all_goals
       go_wp2_with (first |(go_at_call 95;refine (letter_any _ _).mono ?_;rintro e w' ⟨rfl,rfl⟩)|(go_at_call 97;refine (digit_any _ _).mono ?_;rintro e w' ⟨rfl,rfl⟩))
       replace HE:=HE.out
       exact bodyPost_ret (v:= .tuple #[.agg #[.int .i64 0,.int .i64 (k:Nat),.string ByteArray.empty,.int .i64 0],.int .i64 (k:Nat),.int .i64 3]) (by simp[results,Tryz.results77,go_sem];rfl) rfl ⟨by rw[HE];rfl,((Below.refl _ _).alloc (Nat.le_refl _) _).alloc (by simp) _⟩
     ·cases hk:Tx.isKey (s.extract k j)
      ·have HE:Hid (an=Tx.An.good s 1 k j 0):=hdn (by rw[←HAN.out];unfold Tx.wordA;rw[HW.out,if_neg h16,hk];rfl)
       rcases hcase with ⟨hjt,h1,h2⟩|hjt
       all_goals
        go_wp2_with (first |(go_at_call 95;refine (letter_any _ _).mono ?_;rintro e w' ⟨rfl,rfl⟩)|(go_at_call 97;refine (digit_any _ _).mono ?_;rintro e w' ⟨rfl,rfl⟩)|(go_at_call 96;refine (isKeyRef_any _ _).mono ?_;rintro e w1 ⟨rfl,hb⟩;obtain ⟨hc,hf⟩:=bcell hb;have hz1:w.heap.size+1<w1.heap.size:=(by have:=hb.size;simp at this;omega);have HB:=hdn hb;clear hb))
        have hB1:Blk w1 w.heap.size 83 #[.int .i64 0,.int .i64 0,.string ByteArray.empty,.int .i64 0]:=((Blk.new _ _ _).alloc _).below HB.out (by simp;omega)
        have ha0:w1.cell? ⟨w.heap.size,0,none⟩=some (.int .i64 0):=hB1.cell 0
        have ha1:w1.cell? ⟨w.heap.size,1,none⟩=some (.int .i64 0):=hB1.cell 1
        have ha2:w1.cell? ⟨w.heap.size,2,none⟩=some (.string ByteArray.empty):=hB1.cell 2
        have ha3:w1.cell? ⟨w.heap.size,3,none⟩=some (.int .i64 0):=hB1.cell 3
        replace HE:=HE.out
        exact bodyPost_ret (v:= .tuple #[.agg #[.int .i64 1,.int .i64 (k:Nat),.string (s.extract k j),.int .i64 0],.int .i64 (j:Nat),.int .i64 0]) (by simp[results,Tryz.results77,go_sem,ha0,ha1,ha2,ha3]) rfl ⟨by rw[HE];rfl,((((below_call HB.out).setCell (Nat.le_refl _) _).setCell (Nat.le_refl _) _).setCell (Nat.le_refl _) _).setCell (Nat.le_refl _) _⟩
      ·have HE:Hid (an=Tx.An.good s 3 k j 0):=hdn (by rw[←HAN.out];unfold Tx.wordA;rw[HW.out,if_neg h16,hk];rfl)
       rcases hcase with ⟨hjt,h1,h2⟩|hjt
       all_goals
        go_wp2_with (first |(go_at_call 95;refine (letter_any _ _).mono ?_;rintro e w' ⟨rfl,rfl⟩)|(go_at_call 97;refine (digit_any _ _).mono ?_;rintro e w' ⟨rfl,rfl⟩)|(go_at_call 96;refine (isKeyRef_any _ _).mono ?_;rintro e w1 ⟨rfl,hb⟩;obtain ⟨hc,hf⟩:=bcell hb;have hz1:w.heap.size+1<w1.heap.size:=(by have:=hb.size;simp at this;omega);have HB:=hdn hb;clear hb))
        have hB1:Blk w1 w.heap.size 83 #[.int .i64 0,.int .i64 0,.string ByteArray.empty,.int .i64 0]:=((Blk.new _ _ _).alloc _).below HB.out (by simp;omega)
        have ha0:w1.cell? ⟨w.heap.size,0,none⟩=some (.int .i64 0):=hB1.cell 0
        have ha1:w1.cell? ⟨w.heap.size,1,none⟩=some (.int .i64 0):=hB1.cell 1
        have ha2:w1.cell? ⟨w.heap.size,2,none⟩=some (.string ByteArray.empty):=hB1.cell 2
        have ha3:w1.cell? ⟨w.heap.size,3,none⟩=some (.int .i64 0):=hB1.cell 3
        replace HE:=HE.out
        exact bodyPost_ret (v:= .tuple #[.agg #[.int .i64 3,.int .i64 (k:Nat),.string (s.extract k j),.int .i64 0],.int .i64 (j:Nat),.int .i64 0]) (by simp[results,Tryz.results77,go_sem,ha0,ha1,ha2,ha3]) rfl ⟨by rw[HE];rfl,(((((below_call HB.out).setCell (Nat.le_succ _) _).setCell (Nat.le_refl _) _).setCell (Nat.le_refl _) _).setCell (Nat.le_refl _) _).setCell (Nat.le_refl _) _⟩
 ·rw[tok_end s k hlt]
  unfold Tx.An.bad
  obtain rfl:k=s.size:=by omega
  clear hlt hle
  go_enter Tryz.func77,Tryz.ntmps77
  go_wp2_with (go_at_call 106;refine (HS.out _).mono ?_;rintro e w' ⟨rfl,rfl⟩)
  exact bodyPost_ret (v:= .tuple #[.agg #[.int .i64 0,.int .i64 (s.size:Nat),.string ByteArray.empty,.int .i64 0],.int .i64 (s.size:Nat),.int .i64 0]) (by simp[results,Tryz.results77,go_sem];rfl) rfl ⟨rfl,((Below.refl _ _).alloc (Nat.le_refl _) _).alloc (by simp) _⟩
end Go.Proofs.YtcehbcnloiooaaaGreatDoor
namespace Go.Proofs.YtcehbcnloiooaaaGreatDoor
namespace Tx
theorem wend_more (p:Int→Bool) (s:ByteArray) (k:Nat) (h:k<s.size) (hp:p (s[k].toNat:Int)=true):k+1≤wend p s k:=by
 rw[←wend_in p s k h hp];exact wend_ge p s (k+1)
theorem tok_stop_le (s:ByteArray) (k:Nat) (hk:k≤s.size):(tok s k).stop≤s.size:=by
 unfold tok
 split
 ·rename_i h
  split
  ·unfold wordA;split
   ·exact hk
   ·exact wend_le wrd s k hk
  ·split
   ·unfold numA;split
    ·exact hk
    ·exact wend_le dgt s k hk
   ·unfold markA;split
    ·exact hk
    ·exact mrk_le s k h
 ·exact hk
theorem tok_adv (s:ByteArray) (k:Nat) (he:(tok s k).err=0) (hn:(tok s k).sg.kind≠0):k<(tok s k).stop:=by
 unfold tok at he hn ⊢
 split at hn
 ·rename_i h
  rw[dif_pos h] at he ⊢
  split at hn
  ·rename_i hl
   rw[if_pos hl] at he ⊢
   unfold wordA at he ⊢
   split at he
   ·exact absurd (show (3:Int)=0 from he) (by decide)
   ·rename_i h16
    rw[if_neg h16]
    exact wend_more wrd s k h (by unfold wrd;rw[hl];rfl)
  ·rename_i hl
   rw[if_neg hl] at he ⊢
   split at hn
   ·rename_i hd
    rw[if_pos hd] at he ⊢
    unfold numA at he ⊢
    split at he
    ·exact absurd (show (3:Int)=0 from he) (by decide)
    ·rename_i h9
     rw[if_neg h9]
     exact wend_more dgt s k h hd
   ·rename_i hd
    rw[if_neg hd] at he ⊢
    unfold markA at he ⊢
    split at he
    ·exact absurd (show (4:Int)=0 from he) (by decide)
    ·rename_i hm
     rw[if_neg hm]
     show k<k+mrk s k
     omega
 ·exact absurd rfl hn
theorem nx_stop_le (s:ByteArray) (i:Nat) (hi:i≤s.size):(nx s i).stop≤s.size:=tok_stop_le s _ (skp_le s i hi)
theorem nx_adv (s:ByteArray) (i:Nat) (he:(nx s i).err=0) (hn:(nx s i).sg.kind≠0):i<(nx s i).stop:=
 Nat.lt_of_le_of_lt (skp_ge s i) (tok_adv s _ he hn)
def go:Nat→ByteArray→Nat→List Sg→List Sg×Nat×Int
 |0,_,_,acc=>(acc,0,0)
 |f+1,s,i,acc=>if (nx s i).err=0 then (if (nx s i).sg.kind=0 then (acc++ [(nx s i).sg],0,0) else go f s (nx s i).stop (acc++ [(nx s i).sg])) else ([],(nx s i).stop,(nx s i).err)
def alls (s:ByteArray):List Sg×Nat×Int:=if 65536<s.size then ([],0,3) else go (s.size+1) s 0 []
def cells (g:Sg):List Value:= [.int .i64 g.kind,.int .i64 g.pos,.string g.text,.int .i64 g.num]
theorem cells_snoc (l:List Sg) (a:Sg):(l++ [a]).flatMap cells=l.flatMap cells++cells a:=by
 rw[List.flatMap_append];simp
theorem cells_at (l:List Sg): ∀(k:Nat) (hk:k<l.length) (j:Nat),j<4→(l.flatMap cells)[k*4+j]? =(cells l[k])[j]? :=by
 induction l with
 |nil=>intro k hk;simp at hk
 |cons a l ih=>
  intro k hk j hj
  rw[List.flatMap_cons]
  have h4:(cells a).length=4:=rfl
  match k with
  |0=>rw[List.getElem?_append_left (by omega)];simp
  |k+1=>
   rw[List.getElem?_append_right (by omega),h4,show (k+1)*4+j-4=k*4+j by omega,ih k (by simpa using hk) j hj]
   simp
end Tx
end Go.Proofs.YtcehbcnloiooaaaGreatDoor
namespace Go.Proofs.YtcehbcnloiooaaaGreatDoor
open Go.RowKit
def AllPost (T:TypeId) (s:ByteArray) (w:World) (e:Ending) (w':World):Prop:=
 ∃v,e= .returned (.tuple #[v,.int .i64 (Tx.alls s).2.1,.int .i64 (Tx.alls s).2.2])∧w'.ownsRow w.heap.size T 4 v (Tx.alls s).1.length ((Tx.alls s).1.flatMap Tx.cells)∧Below w.heap.size w w'
theorem info33:(Tryz.prog.info? 83).map (fun i=>(i.zero,i.size,i.bytes))=some (some (.agg #[.int .i64 0,.int .i64 0,.string ByteArray.empty,.int .i64 0]),4,40):=by kernel_rfl
theorem own_below {w w':World} {B:Nat} {e:TypeId} {k:Nat} {v:Value} {n:Nat} {xs:List Value} (h:w.ownsRow B e k v n xs) (hb:Below w.heap.size w w'):w'.ownsRow B e k v n xs:=
 h.kept (w':=w') (row:=none) ⟨hb.os,hb.tape,hb.output,hb.size,fun i hi _=>hb.block i hi⟩ (by cases v.ownBlock<;>simp)
theorem sign_new (w:World) (o:Obj) (a:Tx.Sg) (T:TypeId): ∀j u,(Tx.cells a)[j]? =some u→
  ((w.alloc o).alloc (.cells #[.int .i64 a.kind,.int .i64 a.pos,.string a.text,.int .i64 a.num] T)).cell? ((⟨w.heap.size+1,0,none⟩:Addr).add j)=some u:=by
 intro j u hj
 have h:=Blk.new (w.alloc o) T #[.int .i64 a.kind,.int .i64 a.pos,.string a.text,.int .i64 a.num]
 rw[World.size_alloc] at h
 rw[show (⟨w.heap.size+1,0,none⟩:Addr).add j=⟨w.heap.size+1,j,none⟩ by simp[Addr.add];intro h;exact h.symm,h.cell j]
 rw[←hj];simp[Tx.cells]
theorem sign_one (a:Tx.Sg): ∀u∈Tx.cells a,u.oneCell'=true:=by
 intro u hu
 simp only[Tx.cells,List.mem_cons,List.not_mem_nil,or_false] at hu
 rcases hu with rfl |rfl |rfl |rfl<;>rfl
theorem sign_kept {w w3:World} {v:Value} {a:Tx.Sg} {T:TypeId} {o:Obj} (h:((w.alloc (.cells #[.int .i64 a.kind,.int .i64 a.pos,.string a.text,.int .i64 a.num] T)).alloc o).grownBy w3 v.ownBlock) (hn: ∀k,v.ownBlock=some k→k<w.heap.size):
  w3.cell? ⟨w.heap.size,0,none⟩=some (.int .i64 a.kind):=by
 have hB:=(Blk.new w T #[.int .i64 a.kind,.int .i64 a.pos,.string a.text,.int .i64 a.num]).alloc o
 have h3:Blk w3 w.heap.size T #[.int .i64 a.kind,.int .i64 a.pos,.string a.text,.int .i64 a.num]:=
  (h.block w.heap.size (by simp;omega) (fun e=>by have:=hn _ e.symm;omega)).trans hB
 exact h3.cell 0
theorem refAll_any (s:ByteArray) (w:World) (hs:s.size≤5000000):
  Calls Tryz.prog 53 #[.string s] w (AllPost 83 s w):=by
 by_cases hl:65536<s.size
 ·have HE:Hid (Tx.alls s=([],0,3)):=hdn (by unfold Tx.alls;rw[if_pos hl])
  go_enter Tryz.func53,Tryz.ntmps53
  go_wp2_with fail
  refine bodyPost_ret (results_tmp3 rfl _ _ _) rfl ⟨.slice none 0 0, ?_, ?_,Below.refl _ _⟩
  ·rw[HE.out];rfl
  ·rw[HE.out];exact World.ownsRow_nil _ _ _ _
 ·obtain ⟨i0,hi0,hz0,hz1,hz2⟩:=info_parts info33
  have HI:=hdn hi0;have HZ0:=hdn hz0;have HZ1:=hdn hz1;have HZ2:=hdn hz2
  clear hi0 hz0 hz1 hz2
  have HA:Hid (Tx.alls s=Tx.go (s.size+1) s 0 []):=hdn (by unfold Tx.alls;rw[if_neg hl])
  go_enter Tryz.func53,Tryz.ntmps53
  go_wp2_with fail
  clear hl
  go_loopw [5,6] (fun v i wr=> ∃(at_ f:Nat) (acc:List Tx.Sg),i= .int .i64 at_∧at_≤s.size∧s.size<at_+f∧Hid (acc.length≤at_)∧Hid (Tx.go (s.size+1) s 0 []=Tx.go f s at_ acc)∧Hid (wr.ownsRow w.heap.size 83 4 v acc.length (acc.flatMap Tx.cells))∧Hid (Below w.heap.size w wr)) (fun _ i _=>s.size-(Lib.intOf i).toNat)
  case atStart=>exact ⟨0,s.size+1,[],rfl,Nat.zero_le _,by omega,hdn (Nat.le_refl _),hdn rfl,hdn (World.ownsRow_nil _ _ _ _),hdn (Below.refl _ _)⟩
  case round=>
   obtain ⟨at_,f,acc,rfl,hat,hf,HL,HR,HO,HB⟩:=hrel
   have hnx:=refNext_any s at_ wr hs
   have HST:=hdn (Tx.nx_stop_le s at_ hat)
   have HAD:=hdn (Tx.nx_adv s at_)
   have HGO:Hid (Tx.go f s at_ acc=if (Tx.nx s at_).err=0 then (if (Tx.nx s at_).sg.kind=0 then (acc++ [(Tx.nx s at_).sg],0,0) else Tx.go (f-1) s (Tx.nx s at_).stop (acc++ [(Tx.nx s at_).sg])) else ([],(Tx.nx s at_).stop,(Tx.nx s at_).err)):=hdn (by
    obtain ⟨f,rfl⟩: ∃g,f=g+1:=⟨f-1,by omega⟩
    rfl)
   rw[held_of s at_ hat] at hnx
   generalize Tx.nx s at_=a at hnx HST HAD HGO
   have HN:=hdn hnx
   clear hnx
   go_wp2_with fail
   refine (HN.out).mono ?_;rintro e w1 ⟨rfl,hb⟩
   have HB1:=hdn hb
   clear hb
   have hz:w.heap.size≤w1.heap.size:=Nat.le_trans HB.out.size HB1.out.size
   by_cases he:a.err=0
   ·have he':(a.err !=0)=false:=by rw[he];rfl
    have HE:=hdn he
    clear he
    have HO1:=hdn (own_below HO.out HB1.out)
    have HNE:Hid (∀k,u5.ownBlock=some k→k<w1.heap.size):=hdn (fun k hk=>Nat.lt_of_lt_of_le (HO.out.lt k hk).2 HB1.out.size)
    cases hk0:(a.sg.kind==0)
    ·have hkne:a.sg.kind≠0:=by intro e;rw[e] at hk0;cases hk0
     have hadv:=HAD.out HE.out hkne
     have hstl:=HST.out
     clear hkne
     go_wp2_with (at_builtin;refine wpList_append_own _ rfl (.tmp 24) (.tmp 26) 79 rfl w.heap.size 83 i0 (.agg #[.int .i64 0,.int .i64 0,.string ByteArray.empty,.int .i64 0]) 4 40 Tryz.underlying79 HI.out HZ0.out HZ1.out HZ2.out rfl (by decide) _ acc.length (acc.flatMap Tx.cells) rfl ((HO1.out.alloc _).alloc _) ⟨w1.heap.size+1,0,none⟩ 1 1 (Tx.cells a.sg) rfl rfl (sign_new _ _ _ _) (sign_one _) (by have:=HL.out;unfold maxLen;omega) (by have:=HL.out;omega) (by simp;omega) ?_;intro v' w3 hown' hgrow3 hnil3;have HO3:=hdn hown';have hcc:w3.cell? ⟨w1.heap.size,0,none⟩=some (.int .i64 a.sg.kind):=sign_kept hgrow3 HNE.out;have HB3:Hid (Below w.heap.size w w3):=hdn ((((HB.out.trans (HB1.out.mono HB.out.size)).alloc hz _).alloc (by simp;omega) _).grown hgrow3 (by simp;omega) (fun q hq=>(HO.out.lt q hq).1));clear hown' hgrow3 hnil3)
     have HCC:=hdn hcc
     go_roundw
     case rel=>
      refine ⟨a.stop,f-1,acc++ [a.sg],rfl,hstl,by omega,hdn (by have:=HL.out;simp;omega),hdn ?_,hdn ?_,hdn ?_⟩
      ·rw[HR.out,HGO.out,if_pos HE.out,if_neg (by intro e;rw[e] at hk0;cases hk0)]
      ·rw[Tx.cells_snoc,List.length_append];exact HO3.out
      ·exact HB3.out
     case measure=>simp[Lib.intOf];omega
    ·go_wp2_with (at_builtin;refine wpList_append_own _ rfl (.tmp 24) (.tmp 26) 79 rfl w.heap.size 83 i0 (.agg #[.int .i64 0,.int .i64 0,.string ByteArray.empty,.int .i64 0]) 4 40 Tryz.underlying79 HI.out HZ0.out HZ1.out HZ2.out rfl (by decide) _ acc.length (acc.flatMap Tx.cells) rfl ((HO1.out.alloc _).alloc _) ⟨w1.heap.size+1,0,none⟩ 1 1 (Tx.cells a.sg) rfl rfl (sign_new _ _ _ _) (sign_one _) (by have:=HL.out;unfold maxLen;omega) (by have:=HL.out;omega) (by simp;omega) ?_;intro v' w3 hown' hgrow3 hnil3;have HO3:=hdn hown';have hcc:w3.cell? ⟨w1.heap.size,0,none⟩=some (.int .i64 a.sg.kind):=sign_kept hgrow3 HNE.out;have HB3:Hid (Below w.heap.size w w3):=hdn ((((HB.out.trans (HB1.out.mono HB.out.size)).alloc hz _).alloc (by simp;omega) _).grown hgrow3 (by simp;omega) (fun q hq=>(HO.out.lt q hq).1));clear hown' hgrow3 hnil3)
     refine bodyPost_ret (results_tmp3 rfl _ _ _) rfl ⟨v', ?_, ?_,HB3.out⟩
     ·rw[HA.out,HR.out,HGO.out,if_pos HE.out,if_pos (by rw[beq_iff_eq] at hk0;exact hk0)];rfl
     ·rw[HA.out,HR.out,HGO.out,if_pos HE.out,if_pos (by rw[beq_iff_eq] at hk0;exact hk0)]
      show World.ownsRow _ _ _ _ _ (acc++ [a.sg]).length ((acc++ [a.sg]).flatMap Tx.cells)
      rw[Tx.cells_snoc,List.length_append];exact HO3.out
   ·have he':(a.err !=0)=true:=by rw[bne_iff_ne];exact he
    have HE:=hdn he
    clear he
    go_wp2_with fail
    refine bodyPost_ret (results_tmp3 rfl _ _ _) rfl ⟨.slice none 0 0, ?_, ?_, ?_⟩
    ·rw[HA.out,HR.out,HGO.out,if_neg HE.out];rfl
    ·rw[HA.out,HR.out,HGO.out,if_neg HE.out];exact World.ownsRow_nil _ _ _ _
    ·exact (HB.out.trans (HB1.out.mono HB.out.size)).alloc (Nat.le_trans HB.out.size HB1.out.size) _
end Go.Proofs.YtcehbcnloiooaaaGreatDoor
namespace Go.Proofs.YtcehbcnloiooaaaGreatDoor
open Go.RowKit Go.Sort
def Sl.er {α:Type} (f:α→α) (s:Sl α):Sl α:=⟨none,0,s.l.map f⟩
def Hp.er (x:Hp):Hp:=⟨x.name,0⟩
def Pth.er (x:Pth):Pth:=⟨x.name,0,x.hops.er Hp.er⟩
def Tm.er (x:Tm):Tm:=⟨x.name,x.n,0⟩
def Vl.er (x:Vl):Vl:=⟨x.kind,0,x.path.er,x.type,x.left.er,x.right.er⟩
def Cd.er (x:Cd):Cd:=⟨x.kind,0,x.left.er,x.right.er⟩
def Hd.er (x:Hd):Hd:=⟨x.kind,0,x.place.er,x.value.er,x.cond.er,x.name,x.args.er Vl.er,x.both⟩
def SL.er:SL→SL
 |.nil=> .nil
 |.cons h _ _ t _ _ e r=> .cons h.er none 0 t.er none 0 e.er r.er
def Dc.er (x:Dc):Dc:=⟨x.type,x.name,0⟩
def Sr.er (x:Sr):Sr:=⟨x.name,0,x.fields.er Dc.er⟩
def Pc.er (x:Pc):Pc:=⟨x.name,0,0,x.params.er Dc.er,x.locals_.er Dc.er,none,0,x.body.er⟩
def Pg.er (x:Pg):Pg:=⟨x.structs.er Sr.er,x.globals.er Dc.er,x.procs.er Pc.er⟩
theorem sameL_er {α:Type} {f:α→α→Bool} {g:α→α} (h: ∀a b,f a b=f (g a) (g b)): ∀(l m:List α),sameL f l m=sameL f (l.map g) (m.map g)
 | [],[]=>rfl
 |a::l,b::m=>by simp only[sameL,List.map_cons];rw[h a b,sameL_er h l m]
 | [],_::_=>rfl
 |_::_,[]=>rfl
theorem sameHp_er (a b:Hp):sameHp a b=sameHp a.er b.er:=rfl
theorem samePth_er (a b:Pth):samePth a b=samePth a.er b.er:=by
 simp only[samePth,Pth.er,Sl.er];rw[sameL_er sameHp_er]
theorem sameTm_er (a b:Tm):sameTm a b=sameTm a.er b.er:=rfl
theorem sameVl_er (a b:Vl):sameVl a b=sameVl a.er b.er:=by
 simp only[sameVl,Vl.er];rw[samePth_er,sameTm_er a.left,sameTm_er a.right]
theorem sameCd_er (a b:Cd):sameCd a b=sameCd a.er b.er:=by
 simp only[sameCd,Cd.er];rw[sameVl_er a.left,sameVl_er a.right]
theorem sameHd_er (a b:Hd):sameHd a b=sameHd a.er b.er:=by
 simp only[sameHd,Hd.er,Sl.er];rw[samePth_er,sameVl_er a.value,sameCd_er,sameL_er sameVl_er]
theorem sameSL_er: ∀(a b:SL),sameSL a b=sameSL a.er b.er
 |.nil,.nil=>rfl
 |.cons h tp tc t ep ec e r,.cons h' tp' tc' t' ep' ec' e' r'=>by
  simp only[sameSL,SL.er];rw[sameHd_er,sameSL_er t t',sameSL_er e e',sameSL_er r r']
 |.nil,.cons _ _ _ _ _ _ _ _=>rfl
 |.cons _ _ _ _ _ _ _ _,.nil=>rfl
theorem sameHp_refl (a:Hp):sameHp a a=true:=by simp[sameHp]
theorem samePth_refl (a:Pth):samePth a a=true:=by simp[samePth,sameL_refl _ (fun x _=>sameHp_refl x)]
theorem sameTm_refl (a:Tm):sameTm a a=true:=by simp[sameTm]
theorem sameVl_refl (a:Vl):sameVl a a=true:=by simp[sameVl,samePth_refl,sameTm_refl]
theorem sameCd_refl (a:Cd):sameCd a a=true:=by simp[sameCd,sameVl_refl]
theorem sameHd_refl (a:Hd):sameHd a a=true:=by simp[sameHd,samePth_refl,sameVl_refl,sameCd_refl,sameL_refl _ (fun x _=>sameVl_refl x)]
theorem sameSL_refl: ∀(a:SL),sameSL a a=true
 |.nil=>rfl
 |.cons h tp tc t ep ec e r=>by simp only[sameSL];rw[sameHd_refl,sameSL_refl t,sameSL_refl e,sameSL_refl r];rfl
def SL.of:List It→SL
 | []=> .nil
 |x::l=> .cons x.h x.tp x.tc x.t x.ep x.ec x.e (SL.of l)
def It.er (x:It):It:=⟨x.h.er,none,0,x.t.er,none,0,x.e.er⟩
def mask (S:Nat→Bool) (w:World):World:= {w with heap:=w.heap.mapIdx fun i o=>if S i then .cells #[] 0 else o}
def Ext (w w':World):Prop:= ∀b o v,w.cell? ⟨b,o,none⟩=some v→w'.cell? ⟨b,o,none⟩=some v
theorem Ext.refl (w:World):Ext w w:=fun _ _ _ h=>h
theorem Ext.trans {a b c:World} (h:Ext a b) (k:Ext b c):Ext a c:=fun _ _ _ x=>k _ _ _ (h _ _ _ x)
theorem mask_cell {S:Nat→Bool} {w:World} {b o:Nat}:(mask S w).cell? ⟨b,o,none⟩=if S b then none else w.cell? ⟨b,o,none⟩:=by
 unfold mask World.cell?
 simp only[Array.getElem?_mapIdx]
 cases hb:w.heap[b]? with
 |none=>simp
 |some ob=>
  simp only[Option.map_some]
  by_cases hs:S b=true
  ·simp[hs]
  ·simp[hs]
theorem Ext.mask (S:Nat→Bool) (w:World):Ext (mask S w) w:=fun b o v h=>by
 rw[mask_cell] at h
 split at h
 ·cases h
 ·exact h
theorem Ext.of_mask {S T:Nat→Bool} {w w':World} (h: ∀b,S b=false→b<w.heap.size→T b=false∧w'.heap[b]? =w.heap[b]?):Ext (YtcehbcnloiooaaaGreatDoor.mask S w) (YtcehbcnloiooaaaGreatDoor.mask T w'):=fun b o v hc=>by
 rw[mask_cell] at hc ⊢
 split at hc
 ·cases hc
 ·rename_i hs
  have hs':S b=false:=by simpa using hs
  have hlt:=World.block_lt_of_cell? w _ hc
  obtain ⟨h1,h2⟩:=h b hs' hlt
  rw[if_neg (by simp[h1])]
  exact (World.cell?_of_block (w:=w) h2).trans hc
theorem rangeAt_ext {w w':World} (h:Ext w w') {b o:Nat} {cs:List Value} (hr:w.rangeAt b o cs):w'.rangeAt b o cs:=fun j v hv=>h _ _ _ (hr j v hv)
theorem slLies_ext {α:Type} {w w':World} {size bytes:Nat} {cells:α→List Value} {R R':α→Prop} {s:Sl α} (h:Ext w w') (hs:slLies w size bytes cells R s) (hR: ∀x,R x→R' x):slLies w' size bytes cells R' s:=by
 obtain ⟨hl,hs⟩:=hs
 refine ⟨hl, ?_⟩
 rcases hs with hs |⟨b,o,hp,hx⟩
 ·exact .inl hs
 ·exact .inr ⟨b,o,hp,fun k x hk=>⟨rangeAt_ext h (hx k x hk).1,hR x (hx k x hk).2⟩⟩
theorem hopsLie_ext {w w':World} (h:Ext w w') {s:Sl Hp} (hs:hopsLie w s):hopsLie w' s:=slLies_ext h hs (fun _ h=>h)
theorem vlLies_ext {w w':World} (h:Ext w w') {v:Vl} (hs:vlLies w v):vlLies w' v:=hopsLie_ext h hs
theorem argsLie_ext {w w':World} (h:Ext w w') {s:Sl Vl} (hs:argsLie w s):argsLie w' s:=slLies_ext h hs (fun _ hv=>vlLies_ext h hv)
theorem hdLies_ext {w w':World} (h:Ext w w') {x:Hd} (H:hdLies w x):hdLies w' x:=
 ⟨hopsLie_ext h H.1,vlLies_ext h H.2.1,vlLies_ext h H.2.2.1,vlLies_ext h H.2.2.2.1,argsLie_ext h H.2.2.2.2.1,H.2.2.2.2.2⟩
theorem lies_ext {w w':World} (hx:Ext w w'): ∀(l:SL) (b o:Nat),lies w l b o→lies w' l b o
 |.nil,_,_,_=>trivial
 |.cons h tp tc t ep ec e r,b,o,H=>by
  obtain ⟨h1,h2,⟨l3,h3⟩,⟨l4,h4⟩,h5⟩:=H
  refine ⟨rangeAt_ext hx h1,hdLies_ext hx h2,⟨l3, ?_⟩,⟨l4, ?_⟩,lies_ext hx r b _ h5⟩
  ·rcases h3 with h |⟨b',o',hp,h⟩
   ·exact .inl h
   ·exact .inr ⟨b',o',hp,lies_ext hx t b' o' h⟩
  ·rcases h4 with h |⟨b',o',hp,h⟩
   ·exact .inl h
   ·exact .inr ⟨b',o',hp,lies_ext hx e b' o' h⟩
theorem sLies_ext {w w':World} (hx:Ext w w') {p:Option Addr} {l:SL} (h:sLies w p l):sLies w' p l:=by
 obtain ⟨hl,h⟩:=h
 refine ⟨hl, ?_⟩
 rcases h with h |⟨b,o,hp,h⟩
 ·exact .inl h
 ·exact .inr ⟨b,o,hp,lies_ext hx l b o h⟩
theorem itLies_ext {w w':World} (hx:Ext w w') {x:It} (h:itLies w x):itLies w' x:=⟨hdLies_ext hx h.1,sLies_ext hx h.2.1,sLies_ext hx h.2.2⟩
theorem declsLie_ext {w w':World} (h:Ext w w') {s:Sl Dc} (hs:declsLie w s):declsLie w' s:=slLies_ext h hs (fun _ h=>h)
theorem srsLie_ext {w w':World} (h:Ext w w') {s:Sl Sr} (hs:srsLie w s):srsLie w' s:=slLies_ext h hs (fun _ hv=>declsLie_ext h hv)
theorem pcLies_ext {w w':World} (h:Ext w w') {x:Pc} (hs:pcLies w x):pcLies w' x:=⟨declsLie_ext h hs.1,declsLie_ext h hs.2.1,sLies_ext h hs.2.2⟩
theorem pcsLie_ext {w w':World} (h:Ext w w') {s:Sl Pc} (hs:pcsLie w s):pcsLie w' s:=slLies_ext h hs (fun _ hv=>pcLies_ext h hv)
theorem pgLies_ext {w w':World} (h:Ext w w') {p:Pg} (hs:pgLies w p):pgLies w' p:=⟨srsLie_ext h hs.1,declsLie_ext h hs.2.1,pcsLie_ext h hs.2.2⟩
def fresh (B:Nat) (w:World):World:=mask (fun b=>decide (b<B)) w
def hole (r:Option Nat) (w:World):World:=mask (fun b=>decide (some b=r)) w
theorem fresh_hole {B g:Nat} (h:g<B) (w:World):Ext (fresh B w) (hole (some g) w):=Ext.of_mask (fun b hb _=>by
 simp only[decide_eq_false_iff_not] at hb ⊢
 exact ⟨by intro e;injection e with e;omega,trivial⟩)
theorem fresh_mono {B B':Nat} (h:B'≤B) (w:World):Ext (fresh B w) (fresh B' w):=Ext.of_mask (fun b hb _=>by
 simp only[decide_eq_false_iff_not] at hb ⊢
 exact ⟨by omega,trivial⟩)
theorem fresh_below {B:Nat} {w w':World} (h:Below w.heap.size w w'):Ext (fresh B w) (fresh B w'):=Ext.of_mask (fun b hb hlt=>⟨hb,h.block b hlt⟩)
end Go.Proofs.YtcehbcnloiooaaaGreatDoor
namespace Go.Proofs.YtcehbcnloiooaaaGreatDoor
open Go.RowKit Go.Sort
theorem below_drew {B:Nat} {w w':World} (h:Below B w w'):Below B w w'.drew:=below_drewN_ h 1
def Bk (w:World) (g:Nat) (t:TypeId) (cs:Array Value):Prop:=w.heap[g]? =some (.cells cs t (0,0))
theorem Bk.set_ {w:World} {g:Nat} {t:TypeId} {cs:Array Value} (h:Bk w g t cs) (i:Nat) (u:Value):Bk (w.setCell ⟨g,i,none⟩ u) g t (cs.setIfInBounds i u):=by
 unfold Bk at h ⊢
 simp[World.setCell,Array.getElem?_modify,h]
theorem Bk.far {w:World} {g:Nat} {t:TypeId} {cs:Array Value} (h:Bk w g t cs) {p:Addr} (hp:g≠p.block) (u:Value):Bk (w.setCell p u) g t cs:=(Below.heap_setCell w p u g hp).trans h
theorem Bk.cell {w:World} {g:Nat} {t:TypeId} {cs:Array Value} (h:Bk w g t cs) (i:Nat):w.cell? ⟨g,i,none⟩=cs[i]? :=cell_of_row w g i cs t (0,0) h
theorem grownBy_setC (w:World) (a:Addr) (v:Value):w.grownBy (w.setCell a v) (some a.block):=
 ⟨rfl,rfl,rfl,by simp[World.setCell],fun i _ hne=>Below.heap_setCell w a v i (fun e=>hne (by rw[e]))⟩
theorem Bk.frozen {w:World} {g:Nat} {t:TypeId} {cs:Array Value} (h:Bk w g t cs) (i:Nat):w.frozen? ⟨g,i,none⟩=false:=frozen_of_row w g i cs t h
theorem Bk.below {B:Nat} {w w':World} {g:Nat} {t:TypeId} {cs:Array Value} (h:Bk w g t cs) (hb:Below B w w') (hg:g<B):Bk w' g t cs:=(hb.block g hg).trans h
end Go.Proofs.YtcehbcnloiooaaaGreatDoor
namespace Go.Proofs.YtcehbcnloiooaaaGreatDoor
open Go.RowKit Go.Sort
structure Good (l:List Tx.Sg):Prop where
 fin: ∀k x,l[k]? =some x→(x.kind=0↔k+1=l.length)
 none: ∀k x,l[k]? =some x→k+1=l.length→x.text=ByteArray.empty
 len:l.length≤6000000
theorem field79_0 (k:Int) (b c d:Value) (w:World):(Instr.field 178 (.agg #[.int .i64 k,b,c,d]) 0).run Tryz.prog w= .ok (.int .i64 k) w:=by kernel_rfl
theorem field79_1 (k:Int) (a c d:Value) (w:World):(Instr.field 178 (.agg #[a,.int .i64 k,c,d]) 1).run Tryz.prog w= .ok (.int .i64 k) w:=by kernel_rfl
theorem field79_2 (s:ByteArray) (a b d:Value) (w:World):(Instr.field 178 (.agg #[a,b,.string s,d]) 2).run Tryz.prog w= .ok (.string s) w:=by kernel_rfl
theorem field79_3 (k:Int) (a b c:Value) (w:World):(Instr.field 178 (.agg #[a,b,c,.int .i64 k]) 3).run Tryz.prog w= .ok (.int .i64 k) w:=by kernel_rfl
attribute [local go_sem] field79_0 field79_1 field79_2 field79_3
end Go.Proofs.YtcehbcnloiooaaaGreatDoor
namespace Go.Proofs.YtcehbcnloiooaaaGreatDoor
open Go.RowKit Go.Sort
attribute [local go_sem] field79_0 field79_1 field79_2 field79_3
theorem Good.more {l:List Tx.Sg} (hg:Good l) {i:Nat} {x:Tx.Sg} (hx:l[i]? =some x) (hk:x.kind≠0):i+1<l.length:=by
 have hi:=(List.getElem?_eq_some_iff.1 hx).1
 have: ¬i+1=l.length:=fun e=>hk ((hg.fin i x hx).2 e)
 omega
theorem Good.kind {l:List Tx.Sg} (hg:Good l) {i:Nat} {x:Tx.Sg} {s:ByteArray} (hx:l[i]? =some x) (ht:(x.text.toList==s.toList)=true) (hs:s.toList.length≠0):x.kind≠0:=fun h0=>by
 have h1:=(hg.fin i x hx).1 h0
 have h2:=hg.none i x hx h1
 rw[h2,beq_iff_eq] at ht
 rw[←ht] at hs
 exact hs (by rw[Lib.toList_data];rfl)
theorem grownBy_tr {a b c:World} {r:Option Nat} (h:a.grownBy b r) (k:b.grownBy c r):a.grownBy c r:=
 ⟨k.os.trans h.os,k.tape.trans h.tape,k.output.trans h.output,Nat.le_trans h.size k.size,fun i hi hne=>(k.block i (Nat.lt_of_lt_of_le hi h.size) hne).trans (h.block i hi hne)⟩
end Go.Proofs.YtcehbcnloiooaaaGreatDoor
namespace Go.Proofs.YtcehbcnloiooaaaGreatDoor
open Go.RowKit Go.Sort
attribute [local go_sem] field79_0 field79_1 field79_2 field79_3
theorem grownBy_of {a b:World} (h:Below a.heap.size a b) (r:Option Nat):a.grownBy b r:=⟨h.os,h.tape,h.output,h.size,fun i hi _=>h.block i hi⟩
theorem below_grown {a b c:World} {r:Option Nat} (h:Below a.heap.size a b) (k:b.grownBy c r):a.grownBy c r:=grownBy_tr (grownBy_of h r) k
section
variable {pb sb cap:Nat} {l:List Tx.Sg} {i:Nat} {o b:Int}
end
end Go.Proofs.YtcehbcnloiooaaaGreatDoor
namespace Go.Proofs.YtcehbcnloiooaaaGreatDoor
open Go.RowKit Go.Sort
namespace Pr
structure Tk where
 kind:Int
 text:ByteArray
 num:Int
def tk (x:Tx.Sg):Tk:=⟨x.kind,x.text,x.num⟩
structure St where
 i:Nat
 o:Int
 b:Int
def St.go (u:St):St:=⟨u.i+1,u.o,u.b⟩
abbrev Res (α:Type):=Except (Int×Nat) (α×St)
def th {α β:Type} (r:Res α) (f:α→St→Res β):Res β:=
 match r with
 |.error e=> .error e
 |.ok (x,u)=>f x u
def noTm:Tm:=⟨ByteArray.empty,0,0⟩
def noPth:Pth:=⟨ByteArray.empty,0,⟨none,0,[]⟩⟩
def noVl:Vl:=⟨0,0,noPth,ByteArray.empty,noTm,noTm⟩
def noCd:Cd:=⟨0,0,noVl,noVl⟩
def noHd:Hd:=⟨0,0,noPth,noVl,noCd,ByteArray.empty,⟨none,0,[]⟩,false⟩
section
variable (t:List Tk)
def sg (i:Nat):Tk:=t.getD i ⟨0,ByteArray.empty,0⟩
def is (i:Nat) (s:ByteArray):Bool:=(sg t i).text.toList==s.toList
def must (s:ByteArray) (u:St):Res Tk:=if is t u.i s then .ok (sg t u.i,u.go) else .error (5,u.i)
def name (u:St):Res Tk:=if (sg t u.i).kind=1 then .ok (sg t u.i,u.go) else .error (5,u.i)
def hops:Nat→List Hp→St→Res (List Hp)
 |0,acc,u=>if is t u.i ⟨#[45,62]⟩ then .error (11,u.i) else .ok (acc,u)
 |n+1,acc,u=>if is t u.i ⟨#[45,62]⟩ then (th (name t u.go) fun x u=>hops n (acc++ [⟨x.text,0⟩]) u) else .ok (acc,u)
def path (u:St):Res Pth:=
 th (name t u) fun x u=>
 th (hops t 8 [] u) fun l u=>
 .ok (⟨x.text,0,⟨none,0,l⟩⟩,u)
def term (u:St):Res Tm:=
 if (sg t u.i).kind=2 then .ok (⟨ByteArray.empty,(sg t u.i).num,0⟩,u.go)
 else
  th (name t u) fun x u=>
  .ok (⟨x.text,0,0⟩,u)
def side (u:St):Res Vl:=
 if is t u.i ⟨#[110,117,108,108]⟩ then .ok (noVl,u.go)
 else if (sg t u.i).kind=2 then
  th (term t u) fun x u=>
  .ok ({noVl with kind:=4,left:=x},u)
 else
  th (path t u) fun x u=>
  .ok ({noVl with kind:=1,path:=x},u)
def sums (u:St):Bool:=((sg t u.i).kind==1 ||(sg t u.i).kind==2) && (is t (u.i+1) ⟨#[43]⟩||is t (u.i+1) ⟨#[45]⟩)
def sum (u:St):Res Vl:=
 th (term t u) fun x u=>
 th (term t u.go) fun y v=>
 .ok ({noVl with kind:=if is t u.i ⟨#[45]⟩ then 6 else 5,left:=x,right:=y},v)
def value (u:St):Res Vl:=
 if is t u.i ⟨#[110,101,119]⟩ then
  th (name t u.go) fun x u=>
  .ok ({noVl with kind:=2,type:=x.text},u)
 else if is t u.i ⟨#[105,110,112,117,116]⟩ then .ok ({noVl with kind:=3},u.go)
 else if sums t u then sum t u else side t u
def relation (u:St):Res Int:=
 if is t u.i ⟨#[61,61]⟩ then .ok (1,u.go)
 else if is t u.i ⟨#[33,61]⟩ then .ok (2,u.go)
 else if is t u.i ⟨#[60]⟩ then .ok (3,u.go)
 else
  th (must t ⟨#[62,61]⟩ u) fun _ u=>
  .ok (4,u)
def cond (u:St):Res Cd:=
 if is t u.i ⟨#[63]⟩ then .ok (noCd,u.go)
 else
  th (side t u) fun x u=>
  th (relation t u) fun k u=>
  th (side t u) fun y u=>
  .ok (⟨k,0,x,y⟩,u)
def held (u:St):Res Cd:=
 th (must t ⟨#[40]⟩ u) fun _ u=>
 th (cond t u) fun c u=>
 th (must t ⟨#[41]⟩ u) fun _ u=>
 .ok (c,u)
def more {α:Type} (item:St→Res α):Nat→List α→St→Res (List α)
 |0,_,_=> .error (0,0)
 |n+1,acc,u=>
  if is t u.i ⟨#[44]⟩ then (th (item u.go) fun x u=>more item n (acc++ [x]) u)
  else
   th (must t ⟨#[41]⟩ u) fun _ u=>
   .ok (acc,u)
def listed {α:Type} (item:St→Res α) (u:St):Res (List α):=
 th (must t ⟨#[40]⟩ u) fun _ u=>
 if is t u.i ⟨#[41]⟩ then .ok ([],u.go)
 else
  th (item u) fun x u=>
  more t item (t.length+1) [x] u
def pointer (u:St):Res Dc:=
 th (name t u) fun x u=>
 th (must t ⟨#[42]⟩ u) fun _ u=>
 th (name t u) fun y u=>
 .ok (⟨x.text,y.text,0⟩,u)
def variable_ (u:St):Res Dc:=
 if is t u.i ⟨#[105,110,116]⟩ then
  th (name t u.go) fun x u=>
  .ok (⟨ByteArray.empty,x.text,0⟩,u)
 else pointer t u
def decl (u:St):Res Dc:=
 th (variable_ t u) fun d u=>
 th (must t ⟨#[59]⟩ u) fun _ u=>
 .ok (d,u)
def declares (u:St):Bool:=is t u.i ⟨#[105,110,116]⟩||((sg t u.i).kind==1 && is t (u.i+1) ⟨#[42]⟩)
def begins (u:St):Bool:=
 is t u.i ⟨#[59]⟩||is t u.i ⟨#[123]⟩||is t u.i ⟨#[102,114,101,101]⟩||is t u.i ⟨#[105,102]⟩||is t u.i ⟨#[119,104,105,108,101]⟩||(sg t u.i).kind==1
def mustHold (u:St):Res Unit:=if is t u.i ⟨#[123]⟩ && u.o==20 then .error (6,u.i) else .ok ((),u)
def count (u:St):Res Unit:=
 th (mustHold t u) fun _ u=>
 if u.b=400 then .error (11,u.i) else .ok ((),⟨u.i,u.o,u.b+1⟩)
def block (rec:St→Res SL) (u:St):Res SL:=
 th (mustHold t u) fun _ u=>
 th (must t ⟨#[123]⟩ u) fun _ u=>
 th (rec ⟨u.i,u.o+1,u.b⟩) fun l u=>
 th (must t ⟨#[125]⟩ u) fun _ u=>
 .ok (l,⟨u.i,u.o-1,u.b⟩)
def free (u:St):Res Hd:=
 th (must t ⟨#[102,114,101,101]⟩ u) fun _ u=>
 th (must t ⟨#[40]⟩ u) fun _ u=>
 th (path t u) fun x u=>
 th (must t ⟨#[41]⟩ u) fun _ u=>
 th (must t ⟨#[59]⟩ u) fun _ u=>
 .ok ({noHd with kind:=2,place:=x},u)
def branch (rec:St→Res SL) (u:St):Res (Hd×SL×SL):=
 th (must t ⟨#[105,102]⟩ u) fun _ u=>
 th (held t u) fun c u=>
 th (block t rec u) fun a u=>
 if is t u.i ⟨#[101,108,115,101]⟩ then
  th (block t rec u.go) fun e u=>
  .ok (({noHd with kind:=4,cond:=c,both:=true},a,e),u)
 else .ok (({noHd with kind:=4,cond:=c},a,.nil),u)
def loop (rec:St→Res SL) (u:St):Res (Hd×SL×SL):=
 th (must t ⟨#[119,104,105,108,101]⟩ u) fun _ u=>
 th (held t u) fun c u=>
 th (block t rec u) fun a u=>
 .ok (({noHd with kind:=5,cond:=c},a,.nil),u)
def named (u:St):Res Hd:=
 if is t (u.i+1) ⟨#[40]⟩ then
  th (name t u) fun x u=>
  th (listed t (side t) u) fun l u=>
  th (must t ⟨#[59]⟩ u) fun _ u=>
  .ok ({noHd with kind:=3,name:=x.text,args:=⟨none,0,l⟩},u)
 else
  th (path t u) fun x u=>
  th (must t ⟨#[61]⟩ u) fun _ u=>
  th (value t u) fun v u=>
  th (must t ⟨#[59]⟩ u) fun _ u=>
  .ok ({noHd with kind:=1,place:=x,value:=v},u)
def stmt (rec:St→Res SL) (u:St):Res (Hd×SL×SL):=
 th (count t u) fun _ u=>
 if is t u.i ⟨#[59]⟩ then .ok ((noHd,.nil,.nil),u.go)
 else if is t u.i ⟨#[123]⟩ then
  th (block t rec u) fun l u=>
  .ok (({noHd with kind:=6},l,.nil),u)
 else if is t u.i ⟨#[102,114,101,101]⟩ then
  th (free t u) fun h u=>
  .ok ((h,.nil,.nil),u)
 else if is t u.i ⟨#[105,102]⟩ then branch t rec u
 else if is t u.i ⟨#[119,104,105,108,101]⟩ then loop t rec u
 else
  th (named t u) fun h u=>
  .ok ((h,.nil,.nil),u)
def stmts:Nat→St→Res SL
 |0,_=> .error (0,0)
 |n+1,u=>
  if begins t u then
   th (stmt t (stmts n) u) fun (h,a,e) u=>
   th (stmts n u) fun r u=>
   .ok (.cons h none 0 a none 0 e r,u)
  else .ok (.nil,u)
def fields:Nat→List Dc→St→Res (List Dc)
 |0,_,_=> .error (0,0)
 |n+1,acc,u=>
  if is t u.i ⟨#[125]⟩ then .ok (acc,u.go)
  else
   th (pointer t u) fun d u=>
   th (must t ⟨#[59]⟩ u) fun _ u=>
   fields n (acc++ [d]) u
def structure_ (u:St):Res Sr:=
 th (must t ⟨#[115,116,114,117,99,116]⟩ u) fun _ u=>
 th (name t u) fun x u=>
 th (must t ⟨#[123]⟩ u) fun _ u=>
 th (fields t (t.length+1) [] u) fun l u=>
 .ok (⟨x.text,0,⟨none,0,l⟩⟩,u)
def locals:Nat→List Dc→St→Res (List Dc)
 |0,_,_=> .error (0,0)
 |n+1,acc,u=>if declares t u then (th (decl t u) fun d u=>locals n (acc++ [d]) u) else .ok (acc,u)
def proc (u:St):Res Pc:=
 th (must t ⟨#[118,111,105,100]⟩ u) fun _ u=>
 th (name t u) fun x u=>
 th (listed t (variable_ t) u) fun ps u=>
 th (must t ⟨#[123]⟩ u) fun _ u=>
 th (locals t (t.length+1) [] u) fun ls u=>
 th (stmts t (t.length+1) u) fun body u=>
 th (must t ⟨#[125]⟩ u) fun _ u=>
 .ok (⟨x.text,0,0,⟨none,0,ps⟩,⟨none,0,ls⟩,none,0,body⟩,u)
def program:Nat→List Sr→List Dc→List Pc→St→Res Pg
 |0,_,_,_,_=> .error (0,0)
 |n+1,ss,gs,ps,u=>
  if (sg t u.i).kind=0 then .ok (⟨⟨none,0,ss⟩,⟨none,0,gs⟩,⟨none,0,ps⟩⟩,u)
  else if is t u.i ⟨#[115,116,114,117,99,116]⟩ then (th (structure_ t u) fun x u=>program n (ss++ [x]) gs ps u)
  else if is t u.i ⟨#[118,111,105,100]⟩ then (th (proc t u) fun x u=>program n ss gs (ps++ [x]) u)
  else (th (decl t u) fun x u=>program n ss (gs++ [x]) ps u)
def whole {α:Type} (read:St→Res α):Except (Int×Nat) α:=
 match read ⟨0,0,0⟩ with
 |.error e=> .error e
 |.ok (x,u)=>if (sg t u.i).kind=0 then .ok x else .error (5,u.i)
end
theorem sg_tk {l:List Tx.Sg} {i:Nat} {x:Tx.Sg} (h:l[i]? =some x):sg (l.map tk) i=tk x:=by
 unfold sg;rw[List.getD_eq_getElem?_getD,List.getElem?_map,h];rfl
end Pr
end Go.Proofs.YtcehbcnloiooaaaGreatDoor
namespace Go.Proofs.YtcehbcnloiooaaaGreatDoor
open Go.RowKit Go.Sort
attribute [local go_sem] field79_0 field79_1 field79_2 field79_3
section
variable {pb sb cap:Nat} {l:List Tx.Sg} {i:Nat} {o b:Int}
theorem term_result {w2:World} {n:ByteArray} {k p:Int} {R:Nat} {s:ByteArray} {a c:Int} (hk:Bk w2 R 56 #[.string s,.int .i64 a,.int .i64 c]):
  Bk (((w2.setCell ⟨R,0,none⟩ (.string n)).setCell ⟨R,1,none⟩ (.int .i64 k)).setCell ⟨R,2,none⟩ (.int .i64 p)) R 56 #[.string n,.int .i64 k,.int .i64 p]∧
  w2.grownBy (((w2.setCell ⟨R,0,none⟩ (.string n)).setCell ⟨R,1,none⟩ (.int .i64 k)).setCell ⟨R,2,none⟩ (.int .i64 p)) (some R):=
 ⟨((hk.set_ 0 _).set_ 1 _).set_ 2 _,grownBy_tr (grownBy_tr (grownBy_setC _ ⟨R,0,none⟩ _) (grownBy_setC _ ⟨R,1,none⟩ _)) (grownBy_setC _ ⟨R,2,none⟩ _)⟩
theorem grownBy_mine {w w2 w4:World} {pb:Nat} (h2:w.grownBy w2 (some pb)) (h3:w2.grownBy w4 (some w.heap.size)):w.grownBy w4 (some pb):=
 ⟨h3.os.trans h2.os,h3.tape.trans h2.tape,h3.output.trans h2.output,Nat.le_trans h2.size h3.size,fun k hk hne=>
  (h3.block k (Nat.lt_of_lt_of_le hk h2.size) (by intro e;injection e with e;omega)).trans (h2.block k hk hne)⟩
theorem grownBy_below {a b c:World} {r:Option Nat} (h:a.grownBy b r) (k:Below b.heap.size b c):a.grownBy c r:=grownBy_tr h (grownBy_of k r)
theorem grownBy_above {a b c:World} {r:Option Nat} (h:Below a.heap.size a b) (k:b.grownBy c r):a.grownBy c r:=below_grown h k
end
end Go.Proofs.YtcehbcnloiooaaaGreatDoor
namespace Go.Proofs.YtcehbcnloiooaaaGreatDoor
open Go.RowKit Go.Sort
attribute [local go_sem] field79_0 field79_1 field79_2 field79_3
section
variable {pb sb cap:Nat} {l:List Tx.Sg}
end
end Go.Proofs.YtcehbcnloiooaaaGreatDoor
namespace Go.Proofs.YtcehbcnloiooaaaGreatDoor
open Go.RowKit Go.Sort
attribute [local go_sem] field79_0 field79_1 field79_2 field79_3
section
variable {pb sb cap:Nat} {l:List Tx.Sg}
end
end Go.Proofs.YtcehbcnloiooaaaGreatDoor
namespace Go.Proofs.YtcehbcnloiooaaaGreatDoor
open Go.RowKit Go.Sort
attribute [local go_sem] field79_0 field79_1 field79_2 field79_3
section
variable {pb sb cap:Nat} {l:List Tx.Sg}
theorem Bk.kept {w w':World} {b t:Nat} {cs:Array Value} {r:Nat} (h:Bk w b t cs) (hg:w.grownBy w' (some r)) (hne:b≠r):Bk w' b t cs:=
 (hg.block b (Array.getElem?_eq_some_iff.1 h).1 (by intro e;injection e with e;exact hne e)).trans h
theorem Bk.lt {w:World} {b t:Nat} {cs:Array Value} (h:Bk w b t cs):b<w.heap.size:=(Array.getElem?_eq_some_iff.1 h).1
end
end Go.Proofs.YtcehbcnloiooaaaGreatDoor
namespace Go.Proofs.YtcehbcnloiooaaaGreatDoor
open Go.RowKit Go.Sort
attribute [local go_sem] field79_0 field79_1 field79_2 field79_3
section
variable {pb sb cap:Nat} {l:List Tx.Sg}
end
end Go.Proofs.YtcehbcnloiooaaaGreatDoor
namespace Go.Proofs.YtcehbcnloiooaaaGreatDoor
open Go.RowKit Go.Sort
attribute [local go_sem] field79_0 field79_1 field79_2 field79_3
section
variable {pb sb cap:Nat} {l:List Tx.Sg}
end
end Go.Proofs.YtcehbcnloiooaaaGreatDoor
namespace Go.Proofs.YtcehbcnloiooaaaGreatDoor
open Go.RowKit Go.Sort
theorem flat_at {α:Type} (f:α→List Value) (n:Nat) (hf: ∀x,(f x).length=n): ∀(l:List α) (k:Nat) (x:α),l[k]? =some x→∀(j:Nat) (v:Value),(f x)[j]? =some v→(l.flatMap f)[k*n+j]? =some v
 |a::l,0,x,hx,j,v,hv=>by
  simp only[List.getElem?_cons_zero,Option.some.injEq] at hx
  subst hx
  rw[List.flatMap_cons,Nat.zero_mul,Nat.zero_add,List.getElem?_append_left (List.getElem?_eq_some_iff.1 hv).1];exact hv
 |a::l,k+1,x,hx,j,v,hv=>by
  rw[List.getElem?_cons_succ] at hx
  rw[List.flatMap_cons,List.getElem?_append_right (by rw[hf];rw[Nat.add_mul];omega),hf,show (k+1)*n+j-n=k*n+j by rw[Nat.add_mul];omega]
  exact flat_at f n hf l k x hx j v hv
 | [],k,x,hx,_,_,_=>by simp at hx
theorem flat_len {α:Type} (f:α→List Value) (n:Nat) (hf: ∀x,(f x).length=n): ∀(l:List α),(l.flatMap f).length=l.length*n
 | []=>by simp
 |a::l=>by rw[List.flatMap_cons,List.length_append,hf,flat_len f n hf l,List.length_cons,Nat.add_mul];omega
theorem own_lies {α:Type} {w:World} {B:Nat} {e:TypeId} {n:Nat} {v:Value} {l:List α} {f:α→List Value} (hf: ∀x,(f x).length=n) (h:w.ownsRow B e n v l.length (l.flatMap f)):
  ∃(p:Option Addr) (c:Nat),v= .slice p l.length c∧(l= []∨∃b o,p=some ⟨b,o,none⟩∧B≤b∧v.ownBlock=some b∧∀k x,l[k]? =some x→(fresh B w).rangeAt b (o+k*n) (f x)):=by
 rcases h.2 with ⟨rfl,h0⟩|⟨g,cap,cur,rfl,hg,hr⟩
 ·have hl:l= []:=List.length_eq_zero_iff.1 h0
  subst hl
  exact ⟨_,_,rfl,.inl rfl⟩
 ·refine ⟨_,_,rfl,.inr ⟨g,0,rfl,hg,rfl,fun k x hx j u hu=> ?_⟩⟩
  have hat:=flat_at f n hf l k x hx j u hu
  have hlt:=(List.getElem?_eq_some_iff.1 hat).1
  rw[flat_len f n hf] at hlt
  unfold fresh
  rw[mask_cell,if_neg (by simp;omega),Nat.zero_add,h.cellAt _ hlt]
  exact hat
def rest (B:Nat) (r:Option Nat) (w:World):World:=mask (fun b=>decide (b<B)||decide (some b=r)) w
theorem rest_below {B:Nat} {r:Option Nat} {w w':World} (h:Below w.heap.size w w'):Ext (rest B r w) (rest B r w'):=Ext.of_mask fun b hb hlt=>⟨hb,h.block b hlt⟩
theorem rest_fresh {B:Nat} {r:Option Nat} {w:World}:Ext (rest B r w) (fresh B w):=Ext.of_mask fun b hb _=>by
 simp only[Bool.or_eq_false_iff,decide_eq_false_iff_not] at hb ⊢
 exact ⟨hb.1,trivial⟩
theorem rest_grown {B g:Nat} {v:Value} {w w':World} (h:w.grownBy w' v.ownBlock) (hat:v.ownBlock=some g∨g=w.heap.size):Ext (rest B v.ownBlock w) (rest B (some g) w'):=Ext.of_mask fun b hb hlt=>by
 simp only[Bool.or_eq_false_iff,decide_eq_false_iff_not] at hb ⊢
 refine ⟨⟨hb.1, ?_⟩,h.block b hlt hb.2⟩
 rcases hat with hat |hat
 ·rw[←hat];exact hb.2
 ·intro e;injection e with e;omega
theorem rest_par {B g:Nat} {r:Option Nat} {w w':World} (h:w.grownBy w' (some g)) (hg:g<B):Ext (rest B r w) (rest B r w'):=Ext.of_mask fun b hb hlt=>by
 simp only[Bool.or_eq_false_iff,decide_eq_false_iff_not] at hb ⊢
 exact ⟨hb,h.block b hlt (by intro e;injection e with e;omega)⟩
theorem fresh_par {B g:Nat} {w w':World} (h:w.grownBy w' (some g)) (hg:g<B):Ext (fresh B w) (fresh B w'):=Ext.of_mask fun b hb hlt=>by
 simp only[decide_eq_false_iff_not] at hb ⊢
 exact ⟨hb,h.block b hlt (by intro e;injection e with e;omega)⟩
theorem fresh_rest {B B':Nat} {r:Option Nat} {w:World} (hB:B'≤B) (hr: ∀g,r=some g→g<B):Ext (fresh B w) (rest B' r w):=Ext.of_mask fun b hb _=>by
 simp only[decide_eq_false_iff_not,Bool.or_eq_false_iff] at hb ⊢
 exact ⟨⟨by omega,by intro e;have:=hr b e.symm;omega⟩,trivial⟩
theorem own_par {w w':World} {B g:Nat} {e:TypeId} {k n:Nat} {v:Value} {xs:List Value} (h:w.ownsRow B e k v n xs) (hg:w.grownBy w' (some g)) (hB:g<B):w'.ownsRow B e k v n xs:=
 h.kept hg (by
  cases hv:v.ownBlock with
  |none=>exact .inl rfl
  |some b=>right;intro e;injection e with e;have:=(h.lt b hv).1;omega)
theorem own_keep {w w':World} {B:Nat} {e:TypeId} {k n:Nat} {v:Value} {xs:List Value} (h:w.ownsRow B e k v n xs) (hb:Below w.heap.size w w'):w'.ownsRow B e k v n xs:=
 h.kept (grownBy_of hb none) (by
  cases hv:v.ownBlock with
  |none=>exact .inl rfl
  |some b=>right;intro e;cases e)
structure Kd (α:Type) where
 T:TypeId
 size:Nat
 bytes:Nat
 cells:α→List Value
 er:α→α
 R:World→α→Prop
 len: ∀x,(cells x).length=size
 one: ∀x,(cells x).toArray.all (·.oneCell')=true
 ext: ∀ {w w':World} (x:α),Ext w w'→R w x→R w' x
namespace Kd
variable {α:Type} (K:Kd α)
def Ly (w:World) (p:Option Addr) (l:List α):Prop:=
 l.length*K.bytes≤140737488351232∧(l= []∨∃b o,p=some ⟨b,o,none⟩∧∀k x,l[k]? =some x→w.rangeAt b (o+k*K.size) (K.cells x)∧K.R w x)
def Val (B:Nat) (w:World) (v:Value) (a:α):Prop:= ∃y,v= .agg (K.cells y).toArray∧K.er y=a∧K.R (fresh B w) y
def Gr (B:Nat) (xs:List α) (v:Value) (w:World):Prop:=
 ∃ys:List α,ys.map K.er=xs∧w.ownsRow B K.T K.size v xs.length (ys.flatMap K.cells)∧∀y∈ys,K.R (rest B v.ownBlock w) y
theorem Gr.nil {B:Nat} {v:Value} {w:World} (h:w.ownsRow B K.T K.size v 0 []):K.Gr B [] v w:=⟨[],rfl,h,by simp⟩
theorem Gr.below {K:Kd α} {B:Nat} {xs:List α} {v:Value} {w w':World} (h:K.Gr B xs v w) (hb:Below w.heap.size w w'):K.Gr B xs v w':=by
 obtain ⟨ys,h1,h2,h3⟩:=h
 exact ⟨ys,h1,own_keep h2 hb,fun y hy=>K.ext y (rest_below hb) (h3 y hy)⟩
theorem Gr.par {K:Kd α} {B g:Nat} {xs:List α} {v:Value} {w w':World} (h:K.Gr B xs v w) (hg:w.grownBy w' (some g)) (hB:g<B):K.Gr B xs v w':=by
 obtain ⟨ys,h1,h2,h3⟩:=h
 exact ⟨ys,h1,own_par h2 hg hB,fun y hy=>K.ext y (rest_par hg hB) (h3 y hy)⟩
theorem add {B g cap:Nat} {xs:List α} {ys:List α} {v:Value} {w w1:World} {y:α} (h1:ys.map K.er=xs) (h3: ∀y∈ys,K.R (rest B v.ownBlock w) y)
  (hg:w.grownBy w1 v.ownBlock) (hat:v.ownBlock=some g∨g=w.heap.size)
  (ho:w1.ownsRow B K.T K.size (.slice (some ⟨g,0,none⟩) (xs.length+1) cap) (xs.length+1) (ys.flatMap K.cells++K.cells y))
  (hR:K.R (rest B v.ownBlock w) y):K.Gr B (xs++ [K.er y]) (.slice (some ⟨g,0,none⟩) (xs.length+1) cap) w1:=by
 refine ⟨ys++ [y],by rw[List.map_append,h1];rfl, ?_, ?_⟩
 ·rw[List.flatMap_append,List.flatMap_singleton,List.length_append,List.length_singleton];exact ho
 ·intro z hz
  rcases List.mem_append.1 hz with hz |hz
  ·exact K.ext z (rest_grown hg hat) (h3 z hz)
  ·rw[List.mem_singleton.1 hz];exact K.ext y (rest_grown hg hat) hR
theorem fin {B:Nat} {xs:List α} {v:Value} {w:World} (hl:xs.length*K.bytes≤140737488351232) (h:K.Gr B xs v w):
  ∃s:Sl α,v= .slice s.p s.l.length s.cap∧s.l.map K.er=xs∧K.Ly (fresh B w) s.p s.l:=by
 obtain ⟨ys,h1,h2,h3⟩:=h
 subst h1
 rw[List.length_map] at h2 hl
 obtain ⟨p,c,rfl,hp⟩:=own_lies K.len h2
 refine ⟨⟨p,c,ys⟩,rfl,rfl,hl, ?_⟩
 rcases hp with hp |⟨b,o,rfl,hB,_,hx⟩
 ·exact .inl hp
 ·exact .inr ⟨b,o,rfl,fun k x hk=>⟨hx k x hk,K.ext x rest_fresh (h3 x (List.mem_of_getElem? hk))⟩⟩
theorem Val.par {K:Kd α} {B g:Nat} {v:Value} {a:α} {w w':World} (h:K.Val B w v a) (hg:w.grownBy w' (some g)) (hB:g<B):K.Val B w' v a:=by
 obtain ⟨y,h1,h2,h3⟩:=h
 exact ⟨y,h1,h2,K.ext y (fresh_par hg hB) h3⟩
end Kd
theorem Bk.setRow {w:World} {R:Nat} {t:TypeId} {old:Array Value} (h:Bk w R t old) (cs:Array Value):Bk (w.setRow R cs) R t cs∧w.grownBy (w.setRow R cs) (some R):=by
 refine ⟨?_,⟨rfl,rfl,rfl,by simp[World.setRow],fun i _ hne=> ?_⟩⟩
 ·unfold Bk at h ⊢
  simp[World.setRow,Array.getElem?_modify,h]
 ·have hne': ¬R=i:=fun e=>hne (by rw[e])
  simp[World.setRow,Array.getElem?_modify,hne']
theorem wpList_store_bk {P:Program} {ops:Array Oper} {rest:List Oper} {op:Oper} {a:Act} {w:World} {Q:Exit→Act→World→Prop} (hgd:op.guard=none) (ty:TypeId) (x y:Operand) (ho:op.op= .store ty x y)
  (R:Nat) (t:TypeId) (old cs:Array Value) (hx:a.eval x= .pointer (some ⟨R,0,none⟩)) (hy:a.eval y= .agg cs) (hk:Bk w R t old) (hi:(P.info? ty).map (·.size)=some cs.size) (hc:old.size=cs.size) (h1:cs.all (·.oneCell')=true)
  (h: ∀w',Bk w' R t cs→w.grownBy w' (some R)→wpList P ops Q rest (a.put op.dst undef) w'):wpList P ops Q (op::rest) a w:=
 wpList_plain hgd fun _ hK=>by
  unfold Oper.wp execOp
  simp only[ho,hx,hy,Instr.storeAt,Instr.sureAddr,Sem.run_bind,Sem.run_pure,Result.andThen_ok,run_storeVar_row w R t ty old cs hk hi hc h1]
  exact hK _ _ (h _ (hk.setRow cs).1 (hk.setRow cs).2)
theorem Bk.range {w:World} {g:Nat} {t:TypeId} {cs:Array Value} (h:Bk w g t cs):w.rangeAt g 0 cs.toList:=fun j v hv=>by
 rw[Nat.zero_add,h.cell];simpa using hv
theorem Bk.grown {w w':World} {b t:Nat} {cs:Array Value} {r:Option Nat} (h:Bk w b t cs) (hg:w.grownBy w' r) (h1: ∀q,r=some q→q≠b):Bk w' b t cs:=
 (hg.block b h.lt (fun e=>h1 _ e.symm rfl)).trans h
theorem grownBy_up {a b c:World} {pb:Nat} {r:Option Nat} (h:a.grownBy b (some pb)) (k:b.grownBy c r) (h1: ∀q,r=some q→a.heap.size≤q):a.grownBy c (some pb):=
 ⟨k.os.trans h.os,k.tape.trans h.tape,k.output.trans h.output,Nat.le_trans h.size k.size,fun i hi hne=>
  (k.block i (Nat.lt_of_lt_of_le hi h.size) (fun e=>by have:=h1 i e.symm;omega)).trans (h.block i hi hne)⟩
def kDc:Kd Dc:=⟨65,3,40,Dc.cells,Dc.er,fun _ _=>True,fun _=>rfl,fun _=>by simp[Value.oneCell'],fun _ _ _=>trivial⟩
def kSr:Kd Sr:=⟨67,3,48,Sr.cells,Sr.er,fun w x=>declsLie w x.fields,fun _=>rfl,fun _=>by simp[Value.oneCell'],fun _ h k=>declsLie_ext h k⟩
def kPc:Kd Pc:=⟨37,6,104,Pc.cells,Pc.er,pcLies,fun _=>rfl,fun _=>by simp[Value.oneCell'],fun _ h k=>pcLies_ext h k⟩
def kVl:Kd Vl:=⟨58,12,144,Vl.cells,Vl.er,vlLies,fun _=>rfl,fun _=>by simp[Value.oneCell'],fun _ h k=>vlLies_ext h k⟩
def kIt:Kd It:=⟨63,48,608,It.cells,It.er,itLies,fun _=>rfl,fun _=>scells_one _ _ _ _ _ _ _,fun _ h k=>itLies_ext h k⟩
def kPth:Kd Pth:=⟨40,3,40,Pth.cells,Pth.er,fun w x=>hopsLie w x.hops,fun _=>rfl,fun _=>by simp[Value.oneCell'],fun _ h k=>hopsLie_ext h k⟩
def kCd:Kd Cd:=⟨60,26,304,Cd.cells,Cd.er,fun w x=>vlLies w x.left∧vlLies w x.right,fun _=>rfl,fun _=>by simp[Value.oneCell'],fun _ h k=>⟨vlLies_ext h k.1,vlLies_ext h k.2⟩⟩
end Go.Proofs.YtcehbcnloiooaaaGreatDoor
