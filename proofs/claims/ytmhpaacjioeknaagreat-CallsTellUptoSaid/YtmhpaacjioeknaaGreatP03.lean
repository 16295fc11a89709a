/-
  The walk of 'the sign that comes next': the document's. Plain: all signs of a text. The walks of 'all signs', of both. Plain: blocks known whole; what turns in a block. The parser's own memory: its signs, the sign that comes next, the braces that are open, the statements that have begun; what its ca
-/
import Derived.Test.YtmhpaacjioeknaaGreatP02
import Derived.Laws.AppendOwnNone
import Derived.Maps.AppendAt
import Derived.OwnWalk
import Derived.Laws.Tables
import Derived.RegionTactic
import Derived.WalkLawsBesides
import Derived.Deep.DeepCutAuto
import Derived.BigQuiet
import Derived.Deep.AppendLies
import Derived.Deep.WholeRow
import Derived.Deep.RegionLaw
import Derived.Deep.LoopGhost
import Derived.Great.BuildSlice
import Derived.IntWalk
import Derived.Lib.SmallJoins
set_option maxHeartbeats 6400000
set_option maxRecDepth 100000
namespace Go.Proofs.YtmhpaacjioeknaaGreat
open Go.RowKit
theorem below_two (w : World) (o1 o2 : Obj) (m : Nat) : Below w.heap.size w (((w.alloc o1).alloc o2).drewN m) := by
 have h := ((Below.refl w.heap.size w).alloc (Nat.le_refl _) o1).alloc (by simp) o2
 exact ⟨h.os, h.tape, h.output, h.size, h.block⟩
def Blk (w : World) (g : Nat) (t : TypeId) (cs : Array Value) : Prop := w.heap[g]? = some (.cells cs t (0, 0))
section
variable {w w' : World} {g : Nat} {t : TypeId} {cs : Array Value}
theorem Blk.lt (h : Blk w g t cs) : g < w.heap.size := by
 rcases Nat.lt_or_ge g w.heap.size with hlt | hge
 ·exact hlt
 ·unfold Blk at h; rw [Array.getElem?_eq_none hge] at h; cases h
theorem Blk.cell (h : Blk w g t cs) (i : Nat) : w.cell? ⟨g, i, none⟩ = cs[i]? := cell_of_row w g i cs t (0, 0) h
theorem Blk.frozen (h : Blk w g t cs) (i : Nat) : w.frozen? ⟨g, i, none⟩ = false := by
 unfold Blk at h
 simp [World.frozen?, h]
theorem Blk.new (w : World) (t : TypeId) (cs : Array Value) : Blk (w.alloc (.cells cs t)) w.heap.size t cs := heap_alloc_new w _
theorem Blk.drewN (h : Blk w g t cs) (n : Nat) : Blk (w.drewN n) g t cs := h
theorem Blk.alloc (h : Blk w g t cs) (o : Obj) : Blk (w.alloc o) g t cs := (Below.heap_alloc w o g h.lt).trans h
theorem Blk.set_ (h : Blk w g t cs) (i : Nat) (u : Value) : Blk (w.setCell ⟨g, i, none⟩ u) g t (cs.setIfInBounds i u) := by
 unfold Blk at h ⊢
 simp [World.setCell, Array.getElem?_modify, h]
theorem Blk.far (h : Blk w g t cs) {p : Addr} (hp : g ≠ p.block) (u : Value) : Blk (w.setCell p u) g t cs := (Below.heap_setCell w p u g hp).trans h
theorem Blk.below {B : Nat} (h : Blk w g t cs) (hb : Below B w w') (hg : g < B) : Blk w' g t cs := (hb.block g hg).trans h
end
theorem below_call {w w1 : World} {o1 o2 : Obj} (hb : Below ((w.alloc o1).alloc o2).heap.size ((w.alloc o1).alloc o2) w1) : Below w.heap.size w w1 :=
 (((Below.refl _ _).alloc (Nat.le_refl _) _).alloc (by simp) _).trans (hb.mono (by simp; omega))
theorem wend_all (p : Int → Bool) (s : ByteArray) (i q : Nat) (hi : i ≤ q) (hq : q < Tx.wend p s i) (h : q < s.size) : p (s[q].toNat : Int) = true := by
 apply run_take p (s.data.toList.drop i)
 rw [List.mem_take_iff_getElem]
 unfold Tx.wend at hq
 refine ⟨q - i, ?_, ?_⟩
 ·rw [List.length_drop, Tx.len_eq]; omega
 ·rw [List.getElem_drop]
  simp only [show i + (q - i) = q by omega]
  rfl
/-- What the digits from k up to q say. -/
def valTo (s : ByteArray) (k q : Nat) : Int := Tx.val ((s.data.toList.drop k).take (q - k))
theorem valTo_start (s : ByteArray) (k : Nat) : valTo s k k = 0 := by unfold valTo; rw [Nat.sub_self]; rfl
theorem valTo_step (s : ByteArray) (k q : Nat) (hk : k ≤ q) (h : q < s.size) : valTo s k (q + 1) = valTo s k q * 10 + (s[q].toNat - 48) := by
 unfold valTo
 rw [show q + 1 - k = (q - k) + 1 by omega, List.take_succ_eq_append_getElem (by rw [List.length_drop, Tx.len_eq]; omega)]
 unfold Tx.val
 rw [List.foldl_append, List.getElem_drop]
 simp only [List.foldl_cons, List.foldl_nil, show k + (q - k) = q by omega]
 rw [Int.mul_comm]
 rfl
theorem valTo_end (s : ByteArray) (k j : Nat) : valTo s k j = Tx.val (s.extract k j).data.toList := by unfold valTo; rw [part_list]
theorem valTo_bd (s : ByteArray) (k j q : Nat) (hw : Tx.wend Tx.dgt s k = j) (hj : j ≤ s.size) (h9 : j - k ≤ 9) (hk : k ≤ q) (hq : q ≤ j) : 0 ≤ valTo s k q ∧ valTo s k q < 1000000000 := by
 have h := val_small (s.extract k j) (by rw [← hw]; exact digs_part s k) (by rw [part_size _ _ _ hj]; omega) (q - k) (by rw [part_size _ _ _ hj]; omega)
 rw [part_list, List.take_take, Nat.min_eq_left (by omega)] at h
 exact h
theorem refNext_any (s : ByteArray) (i : Int) (w : World) (hs : s.size ≤ 5000000) :
  Calls Tryz.prog 57 #[.string s, .int .i64 i] w fun e w' =>
   e = .returned (.tuple #[.agg #[.int .i64 (Tx.nx s (held s i)).sg.kind, .int .i64 (Tx.nx s (held s i)).sg.pos, .string (Tx.nx s (held s i)).sg.text, .int .i64 (Tx.nx s (held s i)).sg.num], .int .i64 (Tx.nx s (held s i)).stop, .int .i64 (Tx.nx s (held s i)).err]) ∧ Below w.heap.size w w' := by
 have hn : Tx.nx s (held s i) = Tx.tok s (Tx.skp s (held s i)) := rfl
 rw [hn]
 clear hn
 have hle := Tx.skp_le s (held s i) (held_le s i)
 have hskip := fun w => blankHeld_any s i w hs
 generalize Tx.skp s (held s i) = k at hle hskip ⊢
 have HS := hdn hskip
 clear hskip
 by_cases hlt : k < s.size
 ·have hz : ((k : Int) == (s.size : Int)) = false := by rw [Bool.eq_false_iff]; intro e; rw [beq_iff_eq] at e; omega
  cases hl : Tx.ltr (s[k].toNat : Int)
  ·cases hd : Tx.dgt (s[k].toNat : Int)
   ·rw [tok_mark s k hlt hl hd]
    generalize han : Tx.markA s k = an
    have HAN := hdn han
    clear han
    have hml := Tx.mrk_le s k hlt
    by_cases h0 : Tx.mrk s k = 0
    ·have HE : Hid (an = Tx.An.bad k 4) := hdn (by rw [← HAN.out]; unfold Tx.markA; rw [if_pos h0])
     have hz0 : ((Tx.mrk s k : Int) == 0) = true := by rw [h0]; rfl
     clear h0
     go_enter Tryz.func57, Tryz.ntmps57
     go_wp2_with (first | (go_at_call 77; refine (HS.out _).mono ?_; rintro e w' ⟨rfl, rfl⟩) | (go_at_call 78; refine (letter_any _ _).mono ?_; rintro e w' ⟨rfl, rfl⟩) | (go_at_call 79; refine (digit_any _ _).mono ?_; rintro e w' ⟨rfl, rfl⟩) | (go_at_call 81; refine (refMark_any s k _ hs hlt).mono ?_; rintro e w' ⟨rfl, m, rfl⟩))
     replace HE := HE.out
     exact bodyPost_ret (v := .tuple #[.agg #[.int .i64 0, .int .i64 (k : Nat), .string ByteArray.empty, .int .i64 0], .int .i64 (k : Nat), .int .i64 4]) (by simp [results, Tryz.results57, go_sem]; rfl) rfl ⟨by rw [HE]; rfl, ((((below_two _ _ _ _).setCell (Nat.le_refl _) _).setCell (Nat.le_refl _) _).setCell (Nat.le_refl _) _).setCell (Nat.le_refl _) _⟩
    ·have HE : Hid (an = Tx.An.good s 4 k (k + Tx.mrk s k) 0) := hdn (by rw [← HAN.out]; unfold Tx.markA; rw [if_neg h0])
     have hz0 : ((Tx.mrk s k : Int) == 0) = false := by rw [Bool.eq_false_iff]; intro e; rw [beq_iff_eq] at e; exact h0 (by omega)
     clear h0
     go_enter Tryz.func57, Tryz.ntmps57
     go_wp2_with (first | (go_at_call 77; refine (HS.out _).mono ?_; rintro e w' ⟨rfl, rfl⟩) | (go_at_call 78; refine (letter_any _ _).mono ?_; rintro e w' ⟨rfl, rfl⟩) | (go_at_call 79; refine (digit_any _ _).mono ?_; rintro e w' ⟨rfl, rfl⟩) | (go_at_call 81; refine (refMark_any s k _ hs hlt).mono ?_; rintro e w' ⟨rfl, m, rfl⟩))
     replace HE := HE.out
     exact bodyPost_ret (v := .tuple #[.agg #[.int .i64 4, .int .i64 (k : Nat), .string (s.extract k (k + Tx.mrk s k)), .int .i64 0], .int .i64 ((k : Nat) + (Tx.mrk s k : Nat)), .int .i64 0]) (by simp [results, Tryz.results57, go_sem]) rfl ⟨by rw [HE]; rfl, ((((((below_two _ _ _ _).setCell (Nat.le_succ _) _).setCell (Nat.le_succ _) _).setCell (Nat.le_refl _) _).setCell (Nat.le_refl _) _).setCell (Nat.le_refl _) _).setCell (Nat.le_refl _) _⟩
   ·rw [tok_num s k hlt hl hd]
    generalize han : Tx.numA s k = an
    have HAN := hdn han
    clear han
    go_enter Tryz.func57, Tryz.ntmps57
    go_wp2_with (first | (go_at_call 77; refine (HS.out _).mono ?_; rintro e w' ⟨rfl, rfl⟩) | (go_at_call 78; refine (letter_any _ _).mono ?_; rintro e w' ⟨rfl, rfl⟩) | (go_at_call 79; refine (digit_any _ _).mono ?_; rintro e w' ⟨rfl, rfl⟩))
    clear hl hd hz
    go_loop [8] (fun v => ∃ j : Nat, k ≤ j ∧ j ≤ s.size ∧ v = .int .i64 j ∧ Hid (Tx.wend Tx.dgt s j = Tx.wend Tx.dgt s k)) (fun v => s.size - (intOf v).toNat)
    case atStart => exact ⟨k, Nat.le_refl _, hle, rfl, rfl⟩
    case round =>
     obtain ⟨j, hkj, hj, rfl, HR⟩ := hrel
     by_cases hin : ∃ h : j < s.size, Tx.dgt (s[j].toNat : Int) = true
     ·obtain ⟨hjt, hd⟩ := hin
      have HO := hdn (Tx.wend_in Tx.dgt s j hjt hd)
      go_wp2_with (go_at_call 79; refine (digit_any _ _).mono ?_; rintro e w' ⟨rfl, rfl⟩)
      go_round
      case rel => exact ⟨j + 1, by omega, by omega, by go_num, HO.out.trans HR.out⟩
      case measure => simp [intOf]; omega
     ·have HW : Hid (Tx.wend Tx.dgt s k = j) := hdn (by
       rw [← HR.out]
       by_cases hjt : j < s.size
       ·exact Tx.wend_out Tx.dgt s j hjt (by rw [Bool.eq_false_iff]; intro e; exact hin ⟨hjt, e⟩)
       ·exact Tx.wend_end Tx.dgt s j (by omega))
      have hcase : (∃ h : j < s.size, Tx.dgt (s[j].toNat : Int) = false) ∨ ¬ j < s.size := by
       by_cases hjt : j < s.size
       ·exact .inl ⟨hjt, by rw [Bool.eq_false_iff]; intro e; exact hin ⟨hjt, e⟩⟩
       ·exact .inr hjt
      clear hin HR
      by_cases h9 : 9 < j - k
      ·have HE : Hid (an = Tx.An.bad k 3) := hdn (by rw [← HAN.out]; unfold Tx.numA; rw [HW.out, if_pos h9])
       rcases hcase with ⟨hjt, hd⟩ | hjt
       all_goals
        go_wp2_with (go_at_call 79; refine (digit_any _ _).mono ?_; rintro e w' ⟨rfl, rfl⟩)
        replace HE := HE.out
        exact bodyPost_ret (v := .tuple #[.agg #[.int .i64 0, .int .i64 (k : Nat), .string ByteArray.empty, .int .i64 0], .int .i64 (k : Nat), .int .i64 3]) (by simp [results, Tryz.results57, go_sem]; rfl) rfl ⟨by rw [HE]; rfl, ((Below.refl _ _).alloc (Nat.le_refl _) _).alloc (by simp) _⟩
      ·have HE : Hid (an = Tx.An.good s 2 k j (Tx.val (s.extract k j).data.toList)) := hdn (by rw [← HAN.out]; unfold Tx.numA; rw [HW.out, if_neg h9])
       rcases hcase with ⟨hjt, hd⟩ | hjt
       all_goals
        go_wp2_with (go_at_call 79; refine (digit_any _ _).mono ?_; rintro e w' ⟨rfl, rfl⟩)
        try clear hd
        go_loopw [9] (fun v wr => ∃ q : Nat, k ≤ q ∧ q ≤ j ∧ v = .int .i64 q ∧ Hid (Below w.heap.size w wr) ∧ Hid (Blk wr w.heap.size 66 #[.int .i64 0, .int .i64 0, .string ByteArray.empty, .int .i64 0]) ∧ Hid (Blk wr (w.heap.size + 1) 66 #[.int .i64 2, .int .i64 k, .string (s.extract k j), .int .i64 (valTo s k q)])) (fun v _ => j - (Lib.intOf v).toNat)
        case atStart =>
         refine ⟨k, Nat.le_refl _, hkj, rfl, hdn (((Below.refl _ _).alloc (Nat.le_refl _) _).alloc (by simp) _), hdn ((Blk.new _ _ _).alloc _), hdn ?_⟩
         rw [valTo_start]
         have h := Blk.new (w.alloc (.cells #[.int .i64 0, .int .i64 0, .string ByteArray.empty, .int .i64 0] 66)) 66 #[.int .i64 2, .int .i64 k, .string (s.extract k j), .int .i64 0]
         rw [World.size_alloc] at h
         exact h
        case round =>
         obtain ⟨q, hkq, hqj, rfl, HB, HB1, HB2⟩ := hrel
         have hbd := valTo_bd s k j q HW.out hj (by omega) hkq hqj
         have hv0 := hbd.1
         have hv1 := hbd.2
         clear hbd
         have hsz := HB2.out.lt
         by_cases hqt : q < j
         ·have hdg := wend_all Tx.dgt s k q hkq (by rw [HW.out]; exact hqt) (by omega)
          have hqs : q < s.size := by omega
          have HV := hdn (valTo_step s k q hkq hqs)
          have hd0 : 48 ≤ s[q].toNat := by unfold Tx.dgt at hdg; simp at hdg; omega
          have hd1 : s[q].toNat ≤ 57 := by unfold Tx.dgt at hdg; simp at hdg; omega
          clear hdg
          have hc3 : wr.cell? ⟨w.heap.size + 1, 3, none⟩ = some (.int .i64 (valTo s k q)) := HB2.out.cell 3
          have hf3 : wr.frozen? ⟨w.heap.size + 1, 3, none⟩ = false := HB2.out.frozen 3
          go_wp2_with fail
          go_region
          go_wp2_with fail
          go_roundw
          case rel =>
           refine ⟨q + 1, by omega, by omega, by go_num, hdn ((HB.out.setCell (Nat.le_succ _) _).drew), hdn ?_, hdn ?_⟩
           ·exact HB1.out.far (p := ⟨w.heap.size + 1, 3, none⟩) (Nat.ne_of_lt (Nat.lt_succ_self _)) _
           ·rw [HV.out]; exact HB2.out.set_ 3 _
          case measure => simp [Lib.intOf]; omega
         ·obtain rfl : q = j := by omega
          have HQ := hdn (valTo_end s k q)
          have hc0 : wr.cell? ⟨w.heap.size + 1, 0, none⟩ = some (.int .i64 2) := HB2.out.cell 0
          have hc1 : wr.cell? ⟨w.heap.size + 1, 1, none⟩ = some (.int .i64 k) := HB2.out.cell 1
          have hc2 : wr.cell? ⟨w.heap.size + 1, 2, none⟩ = some (.string (s.extract k q)) := HB2.out.cell 2
          have hc3 : wr.cell? ⟨w.heap.size + 1, 3, none⟩ = some (.int .i64 (valTo s k q)) := HB2.out.cell 3
          have ha0 : wr.cell? ⟨w.heap.size, 0, none⟩ = some (.int .i64 0) := HB1.out.cell 0
          have ha1 : wr.cell? ⟨w.heap.size, 1, none⟩ = some (.int .i64 0) := HB1.out.cell 1
          have ha2 : wr.cell? ⟨w.heap.size, 2, none⟩ = some (.string ByteArray.empty) := HB1.out.cell 2
          have ha3 : wr.cell? ⟨w.heap.size, 3, none⟩ = some (.int .i64 0) := HB1.out.cell 3
          have hf : ∀ o, wr.frozen? ⟨w.heap.size, o, none⟩ = false := HB1.out.frozen
          go_wp2_with fail
          replace HE := HE.out
          rw [← HQ.out] at HE
          exact bodyPost_ret (v := .tuple #[.agg #[.int .i64 2, .int .i64 (k : Nat), .string (s.extract k q), .int .i64 (valTo s k q)], .int .i64 (q : Nat), .int .i64 0]) (by simp [results, Tryz.results57, go_sem, ha0, ha1, ha2, ha3]) rfl ⟨by rw [HE]; rfl, (((HB.out.setCell (Nat.le_refl _) _).setCell (Nat.le_refl _) _).setCell (Nat.le_refl _) _).setCell (Nat.le_refl _) _⟩
  ·rw [tok_word s k hlt hl]
   generalize han : Tx.wordA s k = an
   have HAN := hdn han
   clear han
   go_enter Tryz.func57, Tryz.ntmps57
   go_wp2_with (first | (go_at_call 77; refine (HS.out _).mono ?_; rintro e w' ⟨rfl, rfl⟩) | (go_at_call 78; refine (letter_any _ _).mono ?_; rintro e w' ⟨rfl, rfl⟩))
   clear hl hz
   go_loop [8] (fun v => ∃ j : Nat, k ≤ j ∧ j ≤ s.size ∧ v = .int .i64 j ∧ Hid (Tx.wend Tx.wrd s j = Tx.wend Tx.wrd s k)) (fun v => s.size - (intOf v).toNat)
   case atStart => exact ⟨k, Nat.le_refl _, hle, rfl, rfl⟩
   case round =>
    obtain ⟨j, hkj, hj, rfl, HR⟩ := hrel
    by_cases hin : ∃ h : j < s.size, Tx.wrd (s[j].toNat : Int) = true
    ·obtain ⟨hjt, hw⟩ := hin
     have HO := hdn (Tx.wend_in Tx.wrd s j hjt hw)
     have hw2 : Tx.ltr (s[j].toNat : Int) = true ∨ (Tx.ltr (s[j].toNat : Int) = false ∧ Tx.dgt (s[j].toNat : Int) = true) := by
      unfold Tx.wrd at hw
      cases h1 : Tx.ltr (s[j].toNat : Int)
      ·rw [h1] at hw; exact .inr ⟨rfl, by simpa using hw⟩
      ·exact .inl rfl
     clear hw
     rcases hw2 with h1 | ⟨h1, h2⟩
     all_goals
      go_wp2_with (first | (go_at_call 78; refine (letter_any _ _).mono ?_; rintro e w' ⟨rfl, rfl⟩) | (go_at_call 79; refine (digit_any _ _).mono ?_; rintro e w' ⟨rfl, rfl⟩))
      go_round
      case rel => exact ⟨j + 1, by omega, by omega, by go_num, HO.out.trans HR.out⟩
      case measure => simp [intOf]; omega
    ·have HW : Hid (Tx.wend Tx.wrd s k = j) := hdn (by
      rw [← HR.out]
      by_cases hjt : j < s.size
      ·exact Tx.wend_out Tx.wrd s j hjt (by rw [Bool.eq_false_iff]; intro e; exact hin ⟨hjt, e⟩)
      ·exact Tx.wend_end Tx.wrd s j (by omega))
     have hcase : (∃ h : j < s.size, Tx.ltr (s[j].toNat : Int) = false ∧ Tx.dgt (s[j].toNat : Int) = false) ∨ ¬ j < s.size := by
      by_cases hjt : j < s.size
      ·have hw : Tx.wrd (s[j].toNat : Int) = false := by rw [Bool.eq_false_iff]; intro e; exact hin ⟨hjt, e⟩
       unfold Tx.wrd at hw
       rw [Bool.or_eq_false_iff] at hw
       exact .inl ⟨hjt, hw⟩
      ·exact .inr hjt
     clear hin HR
     by_cases h16 : 16 < j - k
     ·have HE : Hid (an = Tx.An.bad k 3) := hdn (by rw [← HAN.out]; unfold Tx.wordA; rw [HW.out, if_pos h16])
      rcases hcase with ⟨hjt, h1, h2⟩ | hjt
      all_goals
       go_wp2_with (first | (go_at_call 78; refine (letter_any _ _).mono ?_; rintro e w' ⟨rfl, rfl⟩) | (go_at_call 79; refine (digit_any _ _).mono ?_; rintro e w' ⟨rfl, rfl⟩))
       replace HE := HE.out
       exact bodyPost_ret (v := .tuple #[.agg #[.int .i64 0, .int .i64 (k : Nat), .string ByteArray.empty, .int .i64 0], .int .i64 (k : Nat), .int .i64 3]) (by simp [results, Tryz.results57, go_sem]; rfl) rfl ⟨by rw [HE]; rfl, ((Below.refl _ _).alloc (Nat.le_refl _) _).alloc (by simp) _⟩
     ·cases hk : Tx.isKey (s.extract k j)
      ·have HE : Hid (an = Tx.An.good s 1 k j 0) := hdn (by rw [← HAN.out]; unfold Tx.wordA; rw [HW.out, if_neg h16, hk]; rfl)
       rcases hcase with ⟨hjt, h1, h2⟩ | hjt
       all_goals
        go_wp2_with (first | (go_at_call 78; refine (letter_any _ _).mono ?_; rintro e w' ⟨rfl, rfl⟩) | (go_at_call 79; refine (digit_any _ _).mono ?_; rintro e w' ⟨rfl, rfl⟩) | (go_at_call 80; refine (isKeyRef_any _ _).mono ?_; rintro e w1 ⟨rfl, hb⟩; obtain ⟨hc, hf⟩ := bcell hb; have hz1 : w.heap.size + 1 < w1.heap.size := (by have := hb.size; simp at this; omega); have HB := hdn hb; clear hb))
        have hB1 : Blk w1 w.heap.size 66 #[.int .i64 0, .int .i64 0, .string ByteArray.empty, .int .i64 0] := ((Blk.new _ _ _).alloc _).below HB.out (by simp; omega)
        have ha0 : w1.cell? ⟨w.heap.size, 0, none⟩ = some (.int .i64 0) := hB1.cell 0
        have ha1 : w1.cell? ⟨w.heap.size, 1, none⟩ = some (.int .i64 0) := hB1.cell 1
        have ha2 : w1.cell? ⟨w.heap.size, 2, none⟩ = some (.string ByteArray.empty) := hB1.cell 2
        have ha3 : w1.cell? ⟨w.heap.size, 3, none⟩ = some (.int .i64 0) := hB1.cell 3
        replace HE := HE.out
        exact bodyPost_ret (v := .tuple #[.agg #[.int .i64 1, .int .i64 (k : Nat), .string (s.extract k j), .int .i64 0], .int .i64 (j : Nat), .int .i64 0]) (by simp [results, Tryz.results57, go_sem, ha0, ha1, ha2, ha3]) rfl ⟨by rw [HE]; rfl, ((((below_call HB.out).setCell (Nat.le_refl _) _).setCell (Nat.le_refl _) _).setCell (Nat.le_refl _) _).setCell (Nat.le_refl _) _⟩
      ·have HE : Hid (an = Tx.An.good s 3 k j 0) := hdn (by rw [← HAN.out]; unfold Tx.wordA; rw [HW.out, if_neg h16, hk]; rfl)
       rcases hcase with ⟨hjt, h1, h2⟩ | hjt
       all_goals
        go_wp2_with (first | (go_at_call 78; refine (letter_any _ _).mono ?_; rintro e w' ⟨rfl, rfl⟩) | (go_at_call 79; refine (digit_any _ _).mono ?_; rintro e w' ⟨rfl, rfl⟩) | (go_at_call 80; refine (isKeyRef_any _ _).mono ?_; rintro e w1 ⟨rfl, hb⟩; obtain ⟨hc, hf⟩ := bcell hb; have hz1 : w.heap.size + 1 < w1.heap.size := (by have := hb.size; simp at this; omega); have HB := hdn hb; clear hb))
        have hB1 : Blk w1 w.heap.size 66 #[.int .i64 0, .int .i64 0, .string ByteArray.empty, .int .i64 0] := ((Blk.new _ _ _).alloc _).below HB.out (by simp; omega)
        have ha0 : w1.cell? ⟨w.heap.size, 0, none⟩ = some (.int .i64 0) := hB1.cell 0
        have ha1 : w1.cell? ⟨w.heap.size, 1, none⟩ = some (.int .i64 0) := hB1.cell 1
        have ha2 : w1.cell? ⟨w.heap.size, 2, none⟩ = some (.string ByteArray.empty) := hB1.cell 2
        have ha3 : w1.cell? ⟨w.heap.size, 3, none⟩ = some (.int .i64 0) := hB1.cell 3
        replace HE := HE.out
        exact bodyPost_ret (v := .tuple #[.agg #[.int .i64 3, .int .i64 (k : Nat), .string (s.extract k j), .int .i64 0], .int .i64 (j : Nat), .int .i64 0]) (by simp [results, Tryz.results57, go_sem, ha0, ha1, ha2, ha3]) rfl ⟨by rw [HE]; rfl, (((((below_call HB.out).setCell (Nat.le_succ _) _).setCell (Nat.le_refl _) _).setCell (Nat.le_refl _) _).setCell (Nat.le_refl _) _).setCell (Nat.le_refl _) _⟩
 ·rw [tok_end s k hlt]
  unfold Tx.An.bad
  obtain rfl : k = s.size := by omega
  clear hlt hle
  go_enter Tryz.func57, Tryz.ntmps57
  go_wp2_with (go_at_call 77; refine (HS.out _).mono ?_; rintro e w' ⟨rfl, rfl⟩)
  exact bodyPost_ret (v := .tuple #[.agg #[.int .i64 0, .int .i64 (s.size : Nat), .string ByteArray.empty, .int .i64 0], .int .i64 (s.size : Nat), .int .i64 0]) (by simp [results, Tryz.results57, go_sem]; rfl) rfl ⟨rfl, ((Below.refl _ _).alloc (Nat.le_refl _) _).alloc (by simp) _⟩
end Go.Proofs.YtmhpaacjioeknaaGreat
namespace Go.Proofs.YtmhpaacjioeknaaGreat
namespace Tx
theorem wend_more (p : Int → Bool) (s : ByteArray) (k : Nat) (h : k < s.size) (hp : p (s[k].toNat : Int) = true) : k + 1 ≤ wend p s k := by
 rw [← wend_in p s k h hp]; exact wend_ge p s (k + 1)
theorem tok_stop_le (s : ByteArray) (k : Nat) (hk : k ≤ s.size) : (tok s k).stop ≤ s.size := by
 unfold tok
 split
 ·rename_i h
  split
  ·unfold wordA; split
   ·exact hk
   ·exact wend_le wrd s k hk
  ·split
   ·unfold numA; split
    ·exact hk
    ·exact wend_le dgt s k hk
   ·unfold markA; split
    ·exact hk
    ·exact mrk_le s k h
 ·exact hk
theorem tok_adv (s : ByteArray) (k : Nat) (he : (tok s k).err = 0) (hn : (tok s k).sg.kind ≠ 0) : k < (tok s k).stop := by
 unfold tok at he hn ⊢
 split at hn
 ·rename_i h
  rw [dif_pos h] at he ⊢
  split at hn
  ·rename_i hl
   rw [if_pos hl] at he ⊢
   unfold wordA at he ⊢
   split at he
   ·exact absurd (show (3 : Int) = 0 from he) (by decide)
   ·rename_i h16
    rw [if_neg h16]
    exact wend_more wrd s k h (by unfold wrd; rw [hl]; rfl)
  ·rename_i hl
   rw [if_neg hl] at he ⊢
   split at hn
   ·rename_i hd
    rw [if_pos hd] at he ⊢
    unfold numA at he ⊢
    split at he
    ·exact absurd (show (3 : Int) = 0 from he) (by decide)
    ·rename_i h9
     rw [if_neg h9]
     exact wend_more dgt s k h hd
   ·rename_i hd
    rw [if_neg hd] at he ⊢
    unfold markA at he ⊢
    split at he
    ·exact absurd (show (4 : Int) = 0 from he) (by decide)
    ·rename_i hm
     rw [if_neg hm]
     show k < k + mrk s k
     omega
 ·exact absurd rfl hn
theorem nx_stop_le (s : ByteArray) (i : Nat) (hi : i ≤ s.size) : (nx s i).stop ≤ s.size := tok_stop_le s _ (skp_le s i hi)
theorem nx_adv (s : ByteArray) (i : Nat) (he : (nx s i).err = 0) (hn : (nx s i).sg.kind ≠ 0) : i < (nx s i).stop :=
 Nat.lt_of_le_of_lt (skp_ge s i) (tok_adv s _ he hn)
/-- All signs from i on, behind those that were read. -/
def go : Nat → ByteArray → Nat → List Sg → List Sg × Nat × Int
 | 0, _, _, acc => (acc, 0, 0)
 | f + 1, s, i, acc => if (nx s i).err = 0 then (if (nx s i).sg.kind = 0 then (acc ++ [(nx s i).sg], 0, 0) else go f s (nx s i).stop (acc ++ [(nx s i).sg])) else ([], (nx s i).stop, (nx s i).err)
def alls (s : ByteArray) : List Sg × Nat × Int := if 65536 < s.size then ([], 0, 3) else go (s.size + 1) s 0 []
/-- A sign's cells. -/
def cells (g : Sg) : List Value := [.int .i64 g.kind, .int .i64 g.pos, .string g.text, .int .i64 g.num]
theorem cells_snoc (l : List Sg) (a : Sg) : (l ++ [a]).flatMap cells = l.flatMap cells ++ cells a := by
 rw [List.flatMap_append]; simp
theorem cells_at (l : List Sg) : ∀ (k : Nat) (hk : k < l.length) (j : Nat), j < 4 → (l.flatMap cells)[k * 4 + j]? = (cells l[k])[j]? := by
 induction l with
 | nil => intro k hk; simp at hk
 | cons a l ih =>
  intro k hk j hj
  rw [List.flatMap_cons]
  have h4 : (cells a).length = 4 := rfl
  match k with
  | 0 => rw [List.getElem?_append_left (by omega)]; simp
  | k + 1 =>
   rw [List.getElem?_append_right (by omega), h4, show (k + 1) * 4 + j - 4 = k * 4 + j by omega, ih k (by simpa using hk) j hj]
   simp
end Tx
end Go.Proofs.YtmhpaacjioeknaaGreat
namespace Go.Proofs.YtmhpaacjioeknaaGreat
open Go.RowKit
def AllPost (T : TypeId) (s : ByteArray) (w : World) (e : Ending) (w' : World) : Prop :=
 ∃ v, e = .returned (.tuple #[v, .int .i64 (Tx.alls s).2.1, .int .i64 (Tx.alls s).2.2]) ∧ w'.ownsRow w.heap.size T 4 v (Tx.alls s).1.length ((Tx.alls s).1.flatMap Tx.cells) ∧ Below w.heap.size w w'
theorem info33 : (Tryz.prog.info? 66).map (fun i => (i.zero, i.size, i.bytes)) = some (some (.agg #[.int .i64 0, .int .i64 0, .string ByteArray.empty, .int .i64 0]), 4, 40) := by kernel_rfl
theorem sign_new (w : World) (o : Obj) (a : Tx.Sg) (T : TypeId) : ∀ j u, (Tx.cells a)[j]? = some u →
  ((w.alloc o).alloc (.cells #[.int .i64 a.kind, .int .i64 a.pos, .string a.text, .int .i64 a.num] T)).cell? ((⟨w.heap.size + 1, 0, none⟩ : Addr).add j) = some u := by
 intro j u hj
 have h := Blk.new (w.alloc o) T #[.int .i64 a.kind, .int .i64 a.pos, .string a.text, .int .i64 a.num]
 rw [World.size_alloc] at h
 rw [show (⟨w.heap.size + 1, 0, none⟩ : Addr).add j = ⟨w.heap.size + 1, j, none⟩ by simp [Addr.add]; intro h; exact h.symm, h.cell j]
 rw [← hj]; simp [Tx.cells]
theorem sign_one (a : Tx.Sg) : ∀ u ∈ Tx.cells a, u.oneCell' = true := by
 intro u hu
 simp only [Tx.cells, List.mem_cons, List.not_mem_nil, or_false] at hu
 rcases hu with rfl | rfl | rfl | rfl <;> rfl
theorem sign_kept {w w3 : World} {v : Value} {a : Tx.Sg} {T : TypeId} {o : Obj} (h : ((w.alloc (.cells #[.int .i64 a.kind, .int .i64 a.pos, .string a.text, .int .i64 a.num] T)).alloc o).grownBy w3 v.ownBlock) (hn : ∀ k, v.ownBlock = some k → k < w.heap.size) :
  w3.cell? ⟨w.heap.size, 0, none⟩ = some (.int .i64 a.kind) := by
 have hB := (Blk.new w T #[.int .i64 a.kind, .int .i64 a.pos, .string a.text, .int .i64 a.num]).alloc o
 have h3 : Blk w3 w.heap.size T #[.int .i64 a.kind, .int .i64 a.pos, .string a.text, .int .i64 a.num] :=
  (h.block w.heap.size (by simp; omega) (fun e => by have := hn _ e.symm; omega)).trans hB
 exact h3.cell 0
theorem refAll_any (s : ByteArray) (w : World) (hs : s.size ≤ 5000000) :
  Calls Tryz.prog 41 #[.string s] w (AllPost 66 s w) := by
 by_cases hl : 65536 < s.size
 ·have HE : Hid (Tx.alls s = ([], 0, 3)) := hdn (by unfold Tx.alls; rw [if_pos hl])
  go_enter Tryz.func41, Tryz.ntmps41
  go_wp2_with fail
  refine bodyPost_ret (results_tmp3 rfl _ _ _) rfl ⟨.slice none 0 0, ?_, ?_, Below.refl _ _⟩
  ·rw [HE.out]; rfl
  ·rw [HE.out]; exact World.ownsRow_nil _ _ _ _
 ·obtain ⟨i0, hi0, hz0, hz1, hz2⟩ := info_parts info33
  have HI := hdn hi0; have HZ0 := hdn hz0; have HZ1 := hdn hz1; have HZ2 := hdn hz2
  clear hi0 hz0 hz1 hz2
  have HA : Hid (Tx.alls s = Tx.go (s.size + 1) s 0 []) := hdn (by unfold Tx.alls; rw [if_neg hl])
  go_enter Tryz.func41, Tryz.ntmps41
  go_wp2_with fail
  clear hl
  go_loopw [5, 6] (fun v i wr => ∃ (at_ f : Nat) (acc : List Tx.Sg), i = .int .i64 at_ ∧ at_ ≤ s.size ∧ s.size < at_ + f ∧ Hid (acc.length ≤ at_) ∧ Hid (Tx.go (s.size + 1) s 0 [] = Tx.go f s at_ acc) ∧ Hid (wr.ownsRow w.heap.size 66 4 v acc.length (acc.flatMap Tx.cells)) ∧ Hid (Below w.heap.size w wr)) (fun _ i _ => s.size - (Lib.intOf i).toNat)
  case atStart => exact ⟨0, s.size + 1, [], rfl, Nat.zero_le _, by omega, hdn (Nat.le_refl _), hdn rfl, hdn (World.ownsRow_nil _ _ _ _), hdn (Below.refl _ _)⟩
  case round =>
   obtain ⟨at_, f, acc, rfl, hat, hf, HL, HR, HO, HB⟩ := hrel
   have hnx := refNext_any s at_ wr hs
   have HST := hdn (Tx.nx_stop_le s at_ hat)
   have HAD := hdn (Tx.nx_adv s at_)
   have HGO : Hid (Tx.go f s at_ acc = if (Tx.nx s at_).err = 0 then (if (Tx.nx s at_).sg.kind = 0 then (acc ++ [(Tx.nx s at_).sg], 0, 0) else Tx.go (f - 1) s (Tx.nx s at_).stop (acc ++ [(Tx.nx s at_).sg])) else ([], (Tx.nx s at_).stop, (Tx.nx s at_).err)) := hdn (by
    obtain ⟨f, rfl⟩ : ∃ g, f = g + 1 := ⟨f - 1, by omega⟩
    rfl)
   rw [held_of s at_ hat] at hnx
   generalize Tx.nx s at_ = a at hnx HST HAD HGO
   have HN := hdn hnx
   clear hnx
   go_wp2_with fail
   refine (HN.out).mono ?_; rintro e w1 ⟨rfl, hb⟩
   have HB1 := hdn hb
   clear hb
   have hz : w.heap.size ≤ w1.heap.size := Nat.le_trans HB.out.size HB1.out.size
   by_cases he : a.err = 0
   ·have he' : (a.err != 0) = false := by rw [he]; rfl
    have HE := hdn he
    clear he
    have HO1 := hdn (own_below HO.out HB1.out)
    have HNE : Hid (∀ k, u5.ownBlock = some k → k < w1.heap.size) := hdn (fun k hk => Nat.lt_of_lt_of_le (HO.out.lt k hk).2 HB1.out.size)
    cases hk0 : (a.sg.kind == 0)
    ·have hkne : a.sg.kind ≠ 0 := by intro e; rw [e] at hk0; cases hk0
     have hadv := HAD.out HE.out hkne
     have hstl := HST.out
     clear hkne
     go_wp2_with (at_builtin; refine wpList_append_own _ rfl (.tmp 24) (.tmp 26) 62 rfl w.heap.size 66 i0 (.agg #[.int .i64 0, .int .i64 0, .string ByteArray.empty, .int .i64 0]) 4 40 Tryz.underlying62 HI.out HZ0.out HZ1.out HZ2.out rfl (by decide) _ acc.length (acc.flatMap Tx.cells) rfl ((HO1.out.alloc _).alloc _) ⟨w1.heap.size + 1, 0, none⟩ 1 1 (Tx.cells a.sg) rfl rfl (sign_new _ _ _ _) (sign_one _) (by have := HL.out; unfold maxLen; omega) (by have := HL.out; omega) (by simp; omega) ?_; intro v' w3 hown' hgrow3 hnil3; have HO3 := hdn hown'; have hcc : w3.cell? ⟨w1.heap.size, 0, none⟩ = some (.int .i64 a.sg.kind) := sign_kept hgrow3 HNE.out; have HB3 : Hid (Below w.heap.size w w3) := hdn ((((HB.out.trans (HB1.out.mono HB.out.size)).alloc hz _).alloc (by simp; omega) _).grown hgrow3 (by simp; omega) (fun q hq => (HO.out.lt q hq).1)); clear hown' hgrow3 hnil3)
     have HCC := hdn hcc
     go_roundw
     case rel =>
      refine ⟨a.stop, f - 1, acc ++ [a.sg], rfl, hstl, by omega, hdn (by have := HL.out; simp; omega), hdn ?_, hdn ?_, hdn ?_⟩
      ·rw [HR.out, HGO.out, if_pos HE.out, if_neg (by intro e; rw [e] at hk0; cases hk0)]
      ·rw [Tx.cells_snoc, List.length_append]; exact HO3.out
      ·exact HB3.out
     case measure => simp [Lib.intOf]; omega
    ·go_wp2_with (at_builtin; refine wpList_append_own _ rfl (.tmp 24) (.tmp 26) 62 rfl w.heap.size 66 i0 (.agg #[.int .i64 0, .int .i64 0, .string ByteArray.empty, .int .i64 0]) 4 40 Tryz.underlying62 HI.out HZ0.out HZ1.out HZ2.out rfl (by decide) _ acc.length (acc.flatMap Tx.cells) rfl ((HO1.out.alloc _).alloc _) ⟨w1.heap.size + 1, 0, none⟩ 1 1 (Tx.cells a.sg) rfl rfl (sign_new _ _ _ _) (sign_one _) (by have := HL.out; unfold maxLen; omega) (by have := HL.out; omega) (by simp; omega) ?_; intro v' w3 hown' hgrow3 hnil3; have HO3 := hdn hown'; have hcc : w3.cell? ⟨w1.heap.size, 0, none⟩ = some (.int .i64 a.sg.kind) := sign_kept hgrow3 HNE.out; have HB3 : Hid (Below w.heap.size w w3) := hdn ((((HB.out.trans (HB1.out.mono HB.out.size)).alloc hz _).alloc (by simp; omega) _).grown hgrow3 (by simp; omega) (fun q hq => (HO.out.lt q hq).1)); clear hown' hgrow3 hnil3)
     refine bodyPost_ret (results_tmp3 rfl _ _ _) rfl ⟨v', ?_, ?_, HB3.out⟩
     ·rw [HA.out, HR.out, HGO.out, if_pos HE.out, if_pos (by rw [beq_iff_eq] at hk0; exact hk0)]; rfl
     ·rw [HA.out, HR.out, HGO.out, if_pos HE.out, if_pos (by rw [beq_iff_eq] at hk0; exact hk0)]
      show World.ownsRow _ _ _ _ _ (acc ++ [a.sg]).length ((acc ++ [a.sg]).flatMap Tx.cells)
      rw [Tx.cells_snoc, List.length_append]; exact HO3.out
   ·have he' : (a.err != 0) = true := by rw [bne_iff_ne]; exact he
    have HE := hdn he
    clear he
    go_wp2_with fail
    refine bodyPost_ret (results_tmp3 rfl _ _ _) rfl ⟨.slice none 0 0, ?_, ?_, ?_⟩
    ·rw [HA.out, HR.out, HGO.out, if_neg HE.out]; rfl
    ·rw [HA.out, HR.out, HGO.out, if_neg HE.out]; exact World.ownsRow_nil _ _ _ _
    ·exact (HB.out.trans (HB1.out.mono HB.out.size)).alloc (Nat.le_trans HB.out.size HB1.out.size) _
end Go.Proofs.YtmhpaacjioeknaaGreat
namespace Go.Proofs.YtmhpaacjioeknaaGreat
open Go.RowKit Go.Sort
theorem below_drew {B : Nat} {w w' : World} (h : Below B w w') : Below B w w'.drew := below_drewN_ h 1
/-- A block that is the call's own, whole. -/
def Bk (w : World) (g : Nat) (t : TypeId) (cs : Array Value) : Prop := w.heap[g]? = some (.cells cs t (0, 0))
theorem Bk.set_ {w : World} {g : Nat} {t : TypeId} {cs : Array Value} (h : Bk w g t cs) (i : Nat) (u : Value) : Bk (w.setCell ⟨g, i, none⟩ u) g t (cs.setIfInBounds i u) := by
 unfold Bk at h ⊢
 simp [World.setCell, Array.getElem?_modify, h]
theorem Bk.far {w : World} {g : Nat} {t : TypeId} {cs : Array Value} (h : Bk w g t cs) {p : Addr} (hp : g ≠ p.block) (u : Value) : Bk (w.setCell p u) g t cs := (Below.heap_setCell w p u g hp).trans h
theorem Bk.cell {w : World} {g : Nat} {t : TypeId} {cs : Array Value} (h : Bk w g t cs) (i : Nat) : w.cell? ⟨g, i, none⟩ = cs[i]? := cell_of_row w g i cs t (0, 0) h
theorem grownBy_setC (w : World) (a : Addr) (v : Value) : w.grownBy (w.setCell a v) (some a.block) :=
 ⟨rfl, rfl, rfl, by simp [World.setCell], fun i _ hne => Below.heap_setCell w a v i (fun e => hne (by rw [e]))⟩
theorem Bk.frozen {w : World} {g : Nat} {t : TypeId} {cs : Array Value} (h : Bk w g t cs) (i : Nat) : w.frozen? ⟨g, i, none⟩ = false := frozen_of_row w g i cs t h
theorem Bk.below {B : Nat} {w w' : World} {g : Nat} {t : TypeId} {cs : Array Value} (h : Bk w g t cs) (hb : Below B w w') (hg : g < B) : Bk w' g t cs := (hb.block g hg).trans h
end Go.Proofs.YtmhpaacjioeknaaGreat
namespace Go.Proofs.YtmhpaacjioeknaaGreat
open Go.RowKit Go.Sort
/-- The signs of a text that was read to its end: just the last one is the End, which has no text. -/
structure Good (l : List Tx.Sg) : Prop where
 fin : ∀ k x, l[k]? = some x → (x.kind = 0 ↔ k + 1 = l.length)
 none : ∀ k x, l[k]? = some x → k + 1 = l.length → x.text = ByteArray.empty
 len : l.length ≤ 6000000
end Go.Proofs.YtmhpaacjioeknaaGreat
namespace Go.Proofs.YtmhpaacjioeknaaGreat
open Go.RowKit Go.Sort
theorem Good.more {l : List Tx.Sg} (hg : Good l) {i : Nat} {x : Tx.Sg} (hx : l[i]? = some x) (hk : x.kind ≠ 0) : i + 1 < l.length := by
 have hi := (List.getElem?_eq_some_iff.1 hx).1
 have : ¬ i + 1 = l.length := fun e => hk ((hg.fin i x hx).2 e)
 omega
theorem Good.kind {l : List Tx.Sg} (hg : Good l) {i : Nat} {x : Tx.Sg} {s : ByteArray} (hx : l[i]? = some x) (ht : (x.text.toList == s.toList) = true) (hs : s.toList.length ≠ 0) : x.kind ≠ 0 := fun h0 => by
 have h1 := (hg.fin i x hx).1 h0
 have h2 := hg.none i x hx h1
 rw [h2, beq_iff_eq] at ht
 rw [← ht] at hs
 exact hs (by rw [Lib.toList_data]; rfl)
theorem grownBy_tr {a b c : World} {r : Option Nat} (h : a.grownBy b r) (k : b.grownBy c r) : a.grownBy c r :=
 ⟨k.os.trans h.os, k.tape.trans h.tape, k.output.trans h.output, Nat.le_trans h.size k.size, fun i hi hne => (k.block i (Nat.lt_of_lt_of_le hi h.size) hne).trans (h.block i hi hne)⟩
end Go.Proofs.YtmhpaacjioeknaaGreat
namespace Go.Proofs.YtmhpaacjioeknaaGreat
open Go.RowKit Go.Sort
theorem grownBy_of {a b : World} (h : Below a.heap.size a b) (r : Option Nat) : a.grownBy b r := ⟨h.os, h.tape, h.output, h.size, fun i hi _ => h.block i hi⟩
theorem below_grown {a b c : World} {r : Option Nat} (h : Below a.heap.size a b) (k : b.grownBy c r) : a.grownBy c r := grownBy_tr (grownBy_of h r) k
section
variable {pb sb cap : Nat} {l : List Tx.Sg} {i : Nat} {o b : Int}
end
end Go.Proofs.YtmhpaacjioeknaaGreat
namespace Go.Proofs.YtmhpaacjioeknaaGreat
open Go.RowKit Go.Sort
section
variable {pb sb cap : Nat} {l : List Tx.Sg} {i : Nat} {o b : Int}
/-- The end of a call that hands back a term through a result of its own. -/
theorem term_result {w2 : World} {n : ByteArray} {k p : Int} {R : Nat} {s : ByteArray} {a c : Int} (hk : Bk w2 R 96 #[.string s, .int .i64 a, .int .i64 c]) :
  Bk (((w2.setCell ⟨R, 0, none⟩ (.string n)).setCell ⟨R, 1, none⟩ (.int .i64 k)).setCell ⟨R, 2, none⟩ (.int .i64 p)) R 96 #[.string n, .int .i64 k, .int .i64 p] ∧
  w2.grownBy (((w2.setCell ⟨R, 0, none⟩ (.string n)).setCell ⟨R, 1, none⟩ (.int .i64 k)).setCell ⟨R, 2, none⟩ (.int .i64 p)) (some R) :=
 ⟨((hk.set_ 0 _).set_ 1 _).set_ 2 _, grownBy_tr (grownBy_tr (grownBy_setC _ ⟨R, 0, none⟩ _) (grownBy_setC _ ⟨R, 1, none⟩ _)) (grownBy_setC _ ⟨R, 2, none⟩ _)⟩
/-- Nothing of old but the parser is touched, if it is so up to a world from which on just a block of one's own is written. -/
theorem grownBy_mine {w w2 w4 : World} {pb : Nat} (h2 : w.grownBy w2 (some pb)) (h3 : w2.grownBy w4 (some w.heap.size)) : w.grownBy w4 (some pb) :=
 ⟨h3.os.trans h2.os, h3.tape.trans h2.tape, h3.output.trans h2.output, Nat.le_trans h2.size h3.size, fun k hk hne =>
  (h3.block k (Nat.lt_of_lt_of_le hk h2.size) (by intro e; injection e with e; omega)).trans (h2.block k hk hne)⟩
theorem grownBy_below {a b c : World} {r : Option Nat} (h : a.grownBy b r) (k : Below b.heap.size b c) : a.grownBy c r := grownBy_tr h (grownBy_of k r)
theorem grownBy_above {a b c : World} {r : Option Nat} (h : Below a.heap.size a b) (k : b.grownBy c r) : a.grownBy c r := below_grown h k
end
end Go.Proofs.YtmhpaacjioeknaaGreat
namespace Go.Proofs.YtmhpaacjioeknaaGreat
open Go.RowKit Go.Sort
section
variable {pb sb cap : Nat} {l : List Tx.Sg}
end
end Go.Proofs.YtmhpaacjioeknaaGreat
namespace Go.Proofs.YtmhpaacjioeknaaGreat
open Go.RowKit Go.Sort
section
variable {pb sb cap : Nat} {l : List Tx.Sg}
end
end Go.Proofs.YtmhpaacjioeknaaGreat
namespace Go.Proofs.YtmhpaacjioeknaaGreat
open Go.RowKit Go.Sort
section
variable {pb sb cap : Nat} {l : List Tx.Sg}
theorem Bk.kept {w w' : World} {b t : Nat} {cs : Array Value} {r : Nat} (h : Bk w b t cs) (hg : w.grownBy w' (some r)) (hne : b ≠ r) : Bk w' b t cs :=
 (hg.block b (Array.getElem?_eq_some_iff.1 h).1 (by intro e; injection e with e; exact hne e)).trans h
theorem Bk.lt {w : World} {b t : Nat} {cs : Array Value} (h : Bk w b t cs) : b < w.heap.size := (Array.getElem?_eq_some_iff.1 h).1
end
end Go.Proofs.YtmhpaacjioeknaaGreat
namespace Go.Proofs.YtmhpaacjioeknaaGreat
open Go.RowKit Go.Sort
section
variable {pb sb cap : Nat} {l : List Tx.Sg}
end
end Go.Proofs.YtmhpaacjioeknaaGreat
namespace Go.Proofs.YtmhpaacjioeknaaGreat
open Go.RowKit Go.Sort
section
variable {pb sb cap : Nat} {l : List Tx.Sg}
end
end Go.Proofs.YtmhpaacjioeknaaGreat
namespace Go.Proofs.YtmhpaacjioeknaaGreat
open Go.RowKit Go.Sort
theorem flat_at {α : Type} (f : α → List Value) (n : Nat) (hf : ∀ x, (f x).length = n) : ∀ (l : List α) (k : Nat) (x : α), l[k]? = some x → ∀ (j : Nat) (v : Value), (f x)[j]? = some v → (l.flatMap f)[k * n + j]? = some v
 | a :: l, 0, x, hx, j, v, hv => by
  simp only [List.getElem?_cons_zero, Option.some.injEq] at hx
  subst hx
  rw [List.flatMap_cons, Nat.zero_mul, Nat.zero_add, List.getElem?_append_left (List.getElem?_eq_some_iff.1 hv).1]; exact hv
 | a :: l, k + 1, x, hx, j, v, hv => by
  rw [List.getElem?_cons_succ] at hx
  rw [List.flatMap_cons, List.getElem?_append_right (by rw [hf]; rw [Nat.add_mul]; omega), hf, show (k + 1) * n + j - n = k * n + j by rw [Nat.add_mul]; omega]
  exact flat_at f n hf l k x hx j v hv
 | [], k, x, hx, _, _, _ => by simp at hx
theorem flat_len {α : Type} (f : α → List Value) (n : Nat) (hf : ∀ x, (f x).length = n) : ∀ (l : List α), (l.flatMap f).length = l.length * n
 | [] => by simp
 | a :: l => by rw [List.flatMap_cons, List.length_append, hf, flat_len f n hf l, List.length_cons, Nat.add_mul]; omega
/-- What a row of one's own holds lies in the new memory. -/
theorem own_lies {α : Type} {w : World} {B : Nat} {e : TypeId} {n : Nat} {v : Value} {l : List α} {f : α → List Value} (hf : ∀ x, (f x).length = n) (h : w.ownsRow B e n v l.length (l.flatMap f)) :
  ∃ (p : Option Addr) (c : Nat), v = .slice p l.length c ∧ (l = [] ∨ ∃ b o, p = some ⟨b, o, none⟩ ∧ B ≤ b ∧ v.ownBlock = some b ∧ ∀ k x, l[k]? = some x → (fresh B w).rangeAt b (o + k * n) (f x)) := by
 rcases h.2 with ⟨rfl, h0⟩ | ⟨g, cap, cur, rfl, hg, hr⟩
 ·have hl : l = [] := List.length_eq_zero_iff.1 h0
  subst hl
  exact ⟨_, _, rfl, .inl rfl⟩
 ·refine ⟨_, _, rfl, .inr ⟨g, 0, rfl, hg, rfl, fun k x hx j u hu => ?_⟩⟩
  have hat := flat_at f n hf l k x hx j u hu
  have hlt := (List.getElem?_eq_some_iff.1 hat).1
  rw [flat_len f n hf] at hlt
  unfold fresh
  rw [mask_cell, if_neg (by simp; omega), Nat.zero_add, h.cellAt _ hlt]
  exact hat
/-! What lies beside the parser's own blocks. -/
/-- All but what was there, and one block. -/
def rest (B : Nat) (r : Option Nat) (w : World) : World := mask (fun b => decide (b < B) || decide (some b = r)) w
theorem rest_below {B : Nat} {r : Option Nat} {w w' : World} (h : Below w.heap.size w w') : Ext (rest B r w) (rest B r w') := Ext.of_mask fun b hb hlt => ⟨hb, h.block b hlt⟩
theorem rest_fresh {B : Nat} {r : Option Nat} {w : World} : Ext (rest B r w) (fresh B w) := Ext.of_mask fun b hb _ => by
 simp only [Bool.or_eq_false_iff, decide_eq_false_iff_not] at hb ⊢
 exact ⟨hb.1, trivial⟩
theorem rest_grown {B g : Nat} {v : Value} {w w' : World} (h : w.grownBy w' v.ownBlock) (hat : v.ownBlock = some g ∨ g = w.heap.size) : Ext (rest B v.ownBlock w) (rest B (some g) w') := Ext.of_mask fun b hb hlt => by
 simp only [Bool.or_eq_false_iff, decide_eq_false_iff_not] at hb ⊢
 refine ⟨⟨hb.1, ?_⟩, h.block b hlt hb.2⟩
 rcases hat with hat | hat
 ·rw [← hat]; exact hb.2
 ·intro e; injection e with e; omega
/-- An old block turns: what is new stays. -/
theorem rest_par {B g : Nat} {r : Option Nat} {w w' : World} (h : w.grownBy w' (some g)) (hg : g < B) : Ext (rest B r w) (rest B r w') := Ext.of_mask fun b hb hlt => by
 simp only [Bool.or_eq_false_iff, decide_eq_false_iff_not] at hb ⊢
 exact ⟨hb, h.block b hlt (by intro e; injection e with e; omega)⟩
theorem fresh_par {B g : Nat} {w w' : World} (h : w.grownBy w' (some g)) (hg : g < B) : Ext (fresh B w) (fresh B w') := Ext.of_mask fun b hb hlt => by
 simp only [decide_eq_false_iff_not] at hb ⊢
 exact ⟨hb, h.block b hlt (by intro e; injection e with e; omega)⟩
theorem fresh_rest {B B' : Nat} {r : Option Nat} {w : World} (hB : B' ≤ B) (hr : ∀ g, r = some g → g < B) : Ext (fresh B w) (rest B' r w) := Ext.of_mask fun b hb _ => by
 simp only [decide_eq_false_iff_not, Bool.or_eq_false_iff] at hb ⊢
 exact ⟨⟨by omega, by intro e; have := hr b e.symm; omega⟩, trivial⟩
/-! Rows of one's own. -/
theorem own_par {w w' : World} {B g : Nat} {e : TypeId} {k n : Nat} {v : Value} {xs : List Value} (h : w.ownsRow B e k v n xs) (hg : w.grownBy w' (some g)) (hB : g < B) : w'.ownsRow B e k v n xs :=
 h.kept hg (by
  cases hv : v.ownBlock with
  | none => exact .inl rfl
  | some b => right; intro e; injection e with e; have := (h.lt b hv).1; omega)
theorem own_keep {w w' : World} {B : Nat} {e : TypeId} {k n : Nat} {v : Value} {xs : List Value} (h : w.ownsRow B e k v n xs) (hb : Below w.heap.size w w') : w'.ownsRow B e k v n xs :=
 h.kept (grownBy_of hb none) (by
  cases hv : v.ownBlock with
  | none => exact .inl rfl
  | some b => right; intro e; cases e)
/-- What kind of items a list has. -/
structure Kd (α : Type) where
 T : TypeId
 size : Nat
 bytes : Nat
 cells : α → List Value
 er : α → α
 R : World → α → Prop
 len : ∀ x, (cells x).length = size
 one : ∀ x, (cells x).toArray.all (·.oneCell') = true
 ext : ∀ {w w' : World} (x : α), Ext w w' → R w x → R w' x
namespace Kd
variable {α : Type} (K : Kd α)
/-- A list lies in memory. -/
def Ly (w : World) (p : Option Addr) (l : List α) : Prop :=
 l.length * K.bytes ≤ 140737488351232 ∧ (l = [] ∨ ∃ b o, p = some ⟨b, o, none⟩ ∧ ∀ k x, l[k]? = some x → w.rangeAt b (o + k * K.size) (K.cells x) ∧ K.R w x)
/-- What a call hands back: something that lies in what is new since. -/
def Val (B : Nat) (w : World) (v : Value) (a : α) : Prop := ∃ y, v = .agg (K.cells y).toArray ∧ K.er y = a ∧ K.R (fresh B w) y
/-- Items that were read, in a row of one's own. -/
def Gr (B : Nat) (xs : List α) (v : Value) (w : World) : Prop :=
 ∃ ys : List α, ys.map K.er = xs ∧ w.ownsRow B K.T K.size v xs.length (ys.flatMap K.cells) ∧ ∀ y ∈ ys, K.R (rest B v.ownBlock w) y
theorem Gr.nil {B : Nat} {v : Value} {w : World} (h : w.ownsRow B K.T K.size v 0 []) : K.Gr B [] v w := ⟨[], rfl, h, by simp⟩
theorem Gr.below {K : Kd α} {B : Nat} {xs : List α} {v : Value} {w w' : World} (h : K.Gr B xs v w) (hb : Below w.heap.size w w') : K.Gr B xs v w' := by
 obtain ⟨ys, h1, h2, h3⟩ := h
 exact ⟨ys, h1, own_keep h2 hb, fun y hy => K.ext y (rest_below hb) (h3 y hy)⟩
theorem Gr.par {K : Kd α} {B g : Nat} {xs : List α} {v : Value} {w w' : World} (h : K.Gr B xs v w) (hg : w.grownBy w' (some g)) (hB : g < B) : K.Gr B xs v w' := by
 obtain ⟨ys, h1, h2, h3⟩ := h
 exact ⟨ys, h1, own_par h2 hg hB, fun y hy => K.ext y (rest_par hg hB) (h3 y hy)⟩
/-- One item more. -/
theorem add {B g cap : Nat} {xs : List α} {ys : List α} {v : Value} {w w1 : World} {y : α} (h1 : ys.map K.er = xs) (h3 : ∀ y ∈ ys, K.R (rest B v.ownBlock w) y)
  (hg : w.grownBy w1 v.ownBlock) (hat : v.ownBlock = some g ∨ g = w.heap.size)
  (ho : w1.ownsRow B K.T K.size (.slice (some ⟨g, 0, none⟩) (xs.length + 1) cap) (xs.length + 1) (ys.flatMap K.cells ++ K.cells y))
  (hR : K.R (rest B v.ownBlock w) y) : K.Gr B (xs ++ [K.er y]) (.slice (some ⟨g, 0, none⟩) (xs.length + 1) cap) w1 := by
 refine ⟨ys ++ [y], by rw [List.map_append, h1]; rfl, ?_, ?_⟩
 ·rw [List.flatMap_append, List.flatMap_singleton, List.length_append, List.length_singleton]; exact ho
 ·intro z hz
  rcases List.mem_append.1 hz with hz | hz
  ·exact K.ext z (rest_grown hg hat) (h3 z hz)
  ·rw [List.mem_singleton.1 hz]; exact K.ext y (rest_grown hg hat) hR
/-- All of them. -/
theorem fin {B : Nat} {xs : List α} {v : Value} {w : World} (hl : xs.length * K.bytes ≤ 140737488351232) (h : K.Gr B xs v w) :
  ∃ s : Sl α, v = .slice s.p s.l.length s.cap ∧ s.l.map K.er = xs ∧ K.Ly (fresh B w) s.p s.l := by
 obtain ⟨ys, h1, h2, h3⟩ := h
 subst h1
 rw [List.length_map] at h2 hl
 obtain ⟨p, c, rfl, hp⟩ := own_lies K.len h2
 refine ⟨⟨p, c, ys⟩, rfl, rfl, hl, ?_⟩
 rcases hp with hp | ⟨b, o, rfl, hB, _, hx⟩
 ·exact .inl hp
 ·exact .inr ⟨b, o, rfl, fun k x hk => ⟨hx k x hk, K.ext x rest_fresh (h3 x (List.mem_of_getElem? hk))⟩⟩
theorem Val.par {K : Kd α} {B g : Nat} {v : Value} {a : α} {w w' : World} (h : K.Val B w v a) (hg : w.grownBy w' (some g)) (hB : g < B) : K.Val B w' v a := by
 obtain ⟨y, h1, h2, h3⟩ := h
 exact ⟨y, h1, h2, K.ext y (fresh_par hg hB) h3⟩
end Kd
/-! Structs loaded and stored whole. -/
theorem Bk.setRow {w : World} {R : Nat} {t : TypeId} {old : Array Value} (h : Bk w R t old) (cs : Array Value) : Bk (w.setRow R cs) R t cs ∧ w.grownBy (w.setRow R cs) (some R) := by
 refine ⟨?_, ⟨rfl, rfl, rfl, by simp [World.setRow], fun i _ hne => ?_⟩⟩
 ·unfold Bk at h ⊢
  simp [World.setRow, Array.getElem?_modify, h]
 ·have hne' : ¬ R = i := fun e => hne (by rw [e])
  simp [World.setRow, Array.getElem?_modify, hne']
/-- A struct's value goes into a block of its size. -/
theorem wpList_store_bk {P : Program} {ops : Array Oper} {rest : List Oper} {op : Oper} {a : Act} {w : World} {Q : Exit → Act → World → Prop} (hgd : op.guard = none) (ty : TypeId) (x y : Operand) (ho : op.op = .store ty x y)
  (R : Nat) (t : TypeId) (old cs : Array Value) (hx : a.eval x = .pointer (some ⟨R, 0, none⟩)) (hy : a.eval y = .agg cs) (hk : Bk w R t old) (hi : (P.info? ty).map (·.size) = some cs.size) (hc : old.size = cs.size) (h1 : cs.all (·.oneCell') = true)
  (h : ∀ w', Bk w' R t cs → w.grownBy w' (some R) → wpList P ops Q rest (a.put op.dst undef) w') : wpList P ops Q (op :: rest) a w :=
 wpList_plain hgd fun _ hK => by
  unfold Oper.wp execOp
  simp only [ho, hx, hy, Instr.storeAt, Instr.sureAddr, Sem.run_bind, Sem.run_pure, Result.andThen_ok, run_storeVar_row w R t ty old cs hk hi hc h1]
  exact hK _ _ (h _ (hk.setRow cs).1 (hk.setRow cs).2)
theorem Bk.range {w : World} {g : Nat} {t : TypeId} {cs : Array Value} (h : Bk w g t cs) : w.rangeAt g 0 cs.toList := fun j v hv => by
 rw [Nat.zero_add, h.cell]; simpa using hv
theorem Bk.grown {w w' : World} {b t : Nat} {cs : Array Value} {r : Option Nat} (h : Bk w b t cs) (hg : w.grownBy w' r) (h1 : ∀ q, r = some q → q ≠ b) : Bk w' b t cs :=
 (hg.block b h.lt (fun e => h1 _ e.symm rfl)).trans h
theorem grownBy_up {a b c : World} {pb : Nat} {r : Option Nat} (h : a.grownBy b (some pb)) (k : b.grownBy c r) (h1 : ∀ q, r = some q → a.heap.size ≤ q) : a.grownBy c (some pb) :=
 ⟨k.os.trans h.os, k.tape.trans h.tape, k.output.trans h.output, Nat.le_trans h.size k.size, fun i hi hne =>
  (k.block i (Nat.lt_of_lt_of_le hi h.size) (fun e => by have := h1 i e.symm; omega)).trans (h.block i hi hne)⟩
theorem grownBy_drew {a b : World} {r : Option Nat} (h : a.grownBy b r) : a.grownBy b.drew r := ⟨h.os, h.tape, h.output, h.size, h.block⟩
def kSr : Kd Sr := ⟨57, 3, 48, Sr.cells, Sr.er, fun w x => declsLie w x.fields, fun _ => rfl, fun _ => by simp [Value.oneCell'], fun _ h k => declsLie_ext h k⟩
def kPc : Kd Pc := ⟨37, 6, 104, Pc.cells, Pc.er, pcLies, fun _ => rfl, fun _ => by simp [Value.oneCell'], fun _ h k => pcLies_ext h k⟩
def kVl : Kd Vl := ⟨98, 12, 144, Vl.cells, Vl.er, vlLies, fun _ => rfl, fun _ => by simp [Value.oneCell'], fun _ h k => vlLies_ext h k⟩
def kIt : Kd It := ⟨103, 48, 608, It.cells, It.er, itLies, fun _ => rfl, fun _ => scells_one _ _ _ _ _ _ _, fun _ h k => itLies_ext h k⟩
def kPth : Kd Pth := ⟨94, 3, 40, Pth.cells, Pth.er, fun w x => hopsLie w x.hops, fun _ => rfl, fun _ => by simp [Value.oneCell'], fun _ h k => hopsLie_ext h k⟩
def kCd : Kd Cd := ⟨100, 26, 304, Cd.cells, Cd.er, fun w x => vlLies w x.left ∧ vlLies w x.right, fun _ => rfl, fun _ => by simp [Value.oneCell'], fun _ h k => ⟨vlLies_ext h k.1, vlLies_ext h k.2⟩⟩
end Go.Proofs.YtmhpaacjioeknaaGreat
namespace Go.Proofs.YtmhpaacjioeknaaGreat
open Go.RowKit Go.Sort
section
variable {pb sb cap : Nat} {l : List Tx.Sg}
theorem zinfoHp : (Tryz.prog.info? 163).map (fun i => (i.zero, i.size, i.bytes)) = some (some (.agg #[.string ByteArray.empty, .int .i64 0]), 2, 24) := by kernel_rfl
/-- The end of a call that hands back a path through a result of its own. -/
theorem path_result {w2 : World} {n : ByteArray} {p : Int} {v s : Value} {R : Nat} {a b : Value} (hk : Bk w2 R 94 #[a, b, s]) :
  Bk (((w2.setCell ⟨R, 0, none⟩ (.string n)).setCell ⟨R, 1, none⟩ (.int .i64 p)).setCell ⟨R, 2, none⟩ v) R 94 #[.string n, .int .i64 p, v] ∧
  w2.grownBy (((w2.setCell ⟨R, 0, none⟩ (.string n)).setCell ⟨R, 1, none⟩ (.int .i64 p)).setCell ⟨R, 2, none⟩ v) (some R) :=
 ⟨((hk.set_ 0 _).set_ 1 _).set_ 2 _, grownBy_tr (grownBy_tr (grownBy_setC _ ⟨R, 0, none⟩ _) (grownBy_setC _ ⟨R, 1, none⟩ _)) (grownBy_setC _ ⟨R, 2, none⟩ _)⟩
end
end Go.Proofs.YtmhpaacjioeknaaGreat
namespace Go.Proofs.YtmhpaacjioeknaaGreat
open Go.RowKit Go.Sort
/-- A row with some items set, from the o-th on. -/
def putC : List Value → Nat → List Value → List Value
 | l, _, [] => l
 | l, o, v :: r => putC (l.set o v) (o + 1) r
theorem Bk.setCells {C : Nat} {t : TypeId} : ∀ (vs : List Value) (o : Nat) (w : World) (old : List Value), Bk w C t old.toArray → Bk (w.setCells C o vs) C t (putC old o vs).toArray ∧ w.grownBy (w.setCells C o vs) (some C)
 | [], o, w, old, h => ⟨h, ⟨rfl, rfl, rfl, Nat.le_refl _, fun _ _ _ => rfl⟩⟩
 | v :: r, o, w, old, h => by
  have h1 : Bk (w.setCell ⟨C, o, none⟩ v) C t (old.set o v).toArray := by have := h.set_ o v; rwa [List.setIfInBounds_toArray] at this
  have h2 := Bk.setCells r (o + 1) (w.setCell ⟨C, o, none⟩ v) (old.set o v) h1
  exact ⟨h2.1, grownBy_tr (grownBy_setC w ⟨C, o, none⟩ v) h2.2⟩
/-- A struct's value goes into a part of a block. -/
theorem wpList_store_part {P : Program} {ops : Array Oper} {rest : List Oper} {op : Oper} {a : Act} {w : World} {Q : Exit → Act → World → Prop} (hgd : op.guard = none) (ty : TypeId) (x y : Operand) (ho : op.op = .store ty x y)
  (C off : Nat) (t : TypeId) (old cs : List Value) (hx : a.eval x = .pointer (some ⟨C, off, none⟩)) (hy : a.eval y = .agg cs.toArray) (hk : Bk w C t old.toArray) (hi : (P.info? ty).map (·.size) = some cs.toArray.size) (hc : off + cs.length ≤ old.length) (h1 : cs.toArray.all (·.oneCell') = true)
  (h : ∀ w', Bk w' C t (putC old off cs).toArray → w.grownBy w' (some C) → wpList P ops Q rest (a.put op.dst undef) w') : wpList P ops Q (op :: rest) a w :=
 wpList_plain hgd fun _ hK => by
  unfold Oper.wp execOp
  have ht : w.there C off cs.toArray.size := fun j hj => ⟨by rw [hk.cell]; rw [List.size_toArray] at hj; simp; omega, hk.frozen _⟩
  simp only [ho, hx, hy, Instr.storeAt, Instr.sureAddr, Sem.run_bind, Sem.run_pure, Result.andThen_ok, run_storeVar_mid w C off ty cs.toArray ht hi h1]
  have hh := Bk.setCells (C := C) (t := t) cs off w old hk
  exact hK _ _ (h _ hh.1 hh.2)
/-- A struct's value out of a block that is known whole. -/
theorem wpList_load_bk {P : Program} {ops : Array Oper} {rest : List Oper} {op : Oper} {a : Act} {w : World} {Q : Exit → Act → World → Prop} (hgd : op.guard = none) (ty : TypeId) (x : Operand) (ho : op.op = .load ty x)
  (C : Nat) (t : TypeId) (cs : Array Value) (hx : a.eval x = .pointer (some ⟨C, 0, none⟩)) (d : TypeDesc) (hk : Bk w C t cs)
  (hu : P.underlying ty = some d) (hd : d.isRow = true) (hi : (P.info? ty).map (·.size) = some cs.size)
  (h : wpList P ops Q rest (a.put op.dst (.agg cs)) w) : wpList P ops Q (op :: rest) a w :=
 wpList_load_arr hgd ty x ho C 0 hx cs d hk.range hu hd hi h
theorem size47 : (Tryz.prog.info? 98).map (·.size) = some 12 := by kernel_rfl
theorem size49 : (Tryz.prog.info? 100).map (·.size) = some 26 := by kernel_rfl
end Go.Proofs.YtmhpaacjioeknaaGreat
namespace Go.Proofs.YtmhpaacjioeknaaGreat
open Go.RowKit Go.Sort
section
variable {pb sb cap : Nat} {l : List Tx.Sg}
end
end Go.Proofs.YtmhpaacjioeknaaGreat
namespace Go.Proofs.YtmhpaacjioeknaaGreat
open Go.RowKit Go.Sort
section
variable {pb sb cap : Nat} {l : List Tx.Sg}
end
end Go.Proofs.YtmhpaacjioeknaaGreat
namespace Go.Proofs.YtmhpaacjioeknaaGreat
open Go.RowKit Go.Sort
section
variable {pb sb cap : Nat} {l : List Tx.Sg}
/-- A condition's first end. -/
theorem cd_set0 {w : World} {C : Nat} {c : Cd} (h : Bk w C 100 (Cd.cells c).toArray) (k : Int) : Bk (w.setCell ⟨C, 0, none⟩ (.int .i64 k)) C 100 (Cd.cells { c with kind := k }).toArray := h.set_ 0 _
theorem cd_put1 {w : World} {C : Nat} {c : Cd} {y : Vl} (h : Bk w C 100 (putC (Cd.cells c) 2 (Vl.cells y)).toArray) : Bk w C 100 (Cd.cells { c with left := y }).toArray := h
theorem cd_put2 {w : World} {C : Nat} {c : Cd} {y : Vl} (h : Bk w C 100 (putC (Cd.cells c) 14 (Vl.cells y)).toArray) : Bk w C 100 (Cd.cells { c with right := y }).toArray := h
end
end Go.Proofs.YtmhpaacjioeknaaGreat
namespace Go.Proofs.YtmhpaacjioeknaaGreat
open Go.RowKit Go.Sort
/-- A slice literal of one struct, its cells not looked at. -/
theorem wpList_one {P : Program} {ops : Array Oper} {rest : List Oper} {o : Oper} {a : Act} {w : World} {Q : Exit → Act → World → Prop} (hg : o.guard = none) (t e : TypeId) (x : Operand) (ho : o.op = .buildSlice t 1 #[(0, x)])
  (cs : Array Value) (hx : a.eval x = .agg cs) (hu : P.underlying t = some (.slice e)) (ie : TypeInfo) (z : Value) (n : Nat) (hie : P.info? e = some ie) (hz : ie.zero = some z) (hn : ie.size = n) (h0 : 0 < n) (h24 : n ≤ 16777216) (hcs : n = cs.size)
  (h : wpList P ops Q rest (a.put o.dst (.slice (some ⟨w.heap.size, 0, none⟩) 1 1)) (w.alloc (.cells cs e))) : wpList P ops Q (o :: rest) a w := by
 subst hn
 refine wpList_buildSlice hg t e 1 #[(0, x)] ho cs ie z hu hie hz (by omega) (by omega) ?_ h
 have hf := Great.fill_whole h0 [Value.agg cs] ((Array.range (1 * ie.size)).map (z.cells[· % z.cells.size]!)) (by intro v hv; rw [List.mem_singleton.1 hv]; exact hcs.symm) (by simp)
 simp only [List.zipIdx_cons, List.zipIdx_nil, List.map_cons, List.map_nil] at hf
 simp only [List.map_toArray, List.map_cons, List.map_nil, hx]
 rw [hf]
 simp [Value.cells]
theorem own_one {w : World} {B g : Nat} {e : TypeId} {cs : List Value} (hk : Bk w g e cs.toArray) (hB : B ≤ g) {n : Nat} (hn : cs.length = n) : w.ownsRow B e n (.slice (some ⟨g, 0, none⟩) 1 1) 1 cs :=
 ⟨by rw [hn, Nat.one_mul], .inr ⟨g, 1, cs.toArray, rfl, hB, hk, Nat.le_refl _, by decide, by simp [hn], by rw [Nat.one_mul, ← hn]; simp⟩⟩
theorem one_of {cs : List Value} (h : cs.toArray.all (·.oneCell') = true) : ∀ u ∈ cs, u.oneCell' = true := fun u hu => (Array.all_eq_true_iff_forall_mem.1 h) u (by simpa using hu)
namespace Kd
variable {α : Type} (K : Kd α)
/-- The first item of a row of one's own. -/
theorem Gr.one {B g : Nat} {w : World} {y : α} (hk : Bk w g K.T (K.cells y).toArray) (hB : B ≤ g) (hR : K.R (rest B (some g) w) y) : K.Gr B [K.er y] (.slice (some ⟨g, 0, none⟩) 1 1) w :=
 ⟨[y], rfl, by rw [List.flatMap_singleton]; exact own_one hk hB (K.len y), by intro z hz; rw [List.mem_singleton.1 hz]; exact hR⟩
/-- What is known of a kind of items' type. -/
structure Inf (P : Program) (t : TypeId) (i : TypeInfo) (z : Value) : Prop where
 und : P.underlying t = some (.slice K.T)
 info : P.info? K.T = some i
 zero : i.zero = some z
 size : i.size = K.size
 bytes : i.bytes = K.bytes
 cells : z.cells.size = K.size
 pos : 0 < K.size
theorem wp_push {P : Program} {o : Oper} {a : Act} {w : World} {R : Act → World → Prop} {Q : Exit → Act → World → Prop} (t : TypeId) (i : TypeInfo) (z : Value) (hI : K.Inf P t i z) (s x : Operand)
  (ho : o.op = .call { callee := .builtin .append, args := #[s, x], argTypes := #[t, t] })
  (B : Nat) (xs : List α) (v : Value) (hs : a.eval s = v) (hG : K.Gr B xs v w) (hB : B ≤ w.heap.size) (y : α) (hx : a.eval x = .slice (some ⟨w.heap.size, 0, none⟩) 1 1)
  (hR : K.R (rest B v.ownBlock w) y) (h63 : xs.length + 1 ≤ maxLen) (hb : (xs.length + 1) * K.bytes ≤ 140737488355328)
  (h : ∀ v' w', K.Gr B (xs ++ [K.er y]) v' w' → (∃ g cap, v' = .slice (some ⟨g, 0, none⟩) (xs.length + 1) cap) → w.grownBy w' v.ownBlock → (∀ q, v.ownBlock = some q → B ≤ q) → R (a.put o.dst v') w') : o.wp P a (w.alloc (.cells (K.cells y).toArray K.T)) R Q := by
 obtain ⟨ys, h1, h2, h3⟩ := hG
 have hm : Below w.heap.size w (w.alloc (.cells (K.cells y).toArray K.T)) := (Below.refl _ _).alloc (Nat.le_refl _) _
 refine wp_append_lies _ s x t ho B K.T i z K.size K.bytes hI.und hI.info hI.zero hI.size hI.bytes hI.cells hI.pos v xs.length _ hs (h2.alloc _) ⟨w.heap.size, 0, none⟩ 1 1 (K.cells y) hx (by rw [K.len, Nat.one_mul]) ?_ (one_of (K.one y)) (by decide) h63 hb (Nat.le_trans hB hm.size) _ rfl ?_
 ·have := World.news_of_block (heap_alloc_new w (.cells (K.cells y).toArray K.T))
  simpa using this
 ·intro g cap w' ho2 hg2 hat hlt
  have hg := below_grown hm hg2
  refine h _ w' (Kd.add K h1 (fun q hq => K.ext q (rest_below hm) (h3 q hq)) hg2 hat ho2 (K.ext y (rest_below hm) hR)) ⟨g, cap, rfl⟩ hg (fun q hq => (h2.lt q hq).1)
theorem wpList_push {P : Program} {ops : Array Oper} {rest : List Oper} {o : Oper} {a : Act} {w : World} {Q : Exit → Act → World → Prop} (hgd : o.guard = none) (t : TypeId) (i : TypeInfo) (z : Value) (hI : K.Inf P t i z) (s x : Operand)
  (ho : o.op = .call { callee := .builtin .append, args := #[s, x], argTypes := #[t, t] })
  (B : Nat) (xs : List α) (v : Value) (hs : a.eval s = v) (hG : K.Gr B xs v w) (hB : B ≤ w.heap.size) (y : α) (hx : a.eval x = .slice (some ⟨w.heap.size, 0, none⟩) 1 1)
  (hR : K.R (YtmhpaacjioeknaaGreat.rest B v.ownBlock w) y) (h63 : xs.length + 1 ≤ maxLen) (hb : (xs.length + 1) * K.bytes ≤ 140737488355328)
  (h : ∀ v' w', K.Gr B (xs ++ [K.er y]) v' w' → (∃ g cap, v' = .slice (some ⟨g, 0, none⟩) (xs.length + 1) cap) → w.grownBy w' v.ownBlock → (∀ q, v.ownBlock = some q → B ≤ q) → wpList P ops Q rest (a.put o.dst v') w') : wpList P ops Q (o :: rest) a (w.alloc (.cells (K.cells y).toArray K.T)) :=
 wpList_plain hgd fun _ hK => K.wp_push t i z hI s x ho B xs v hs hG hB y hx hR h63 hb fun v' w' a b c d => hK _ _ (h v' w' a b c d)
theorem step_push {P : Program} {ops : Array Oper} {o : Oper} {a : Act} {w : World} {R : Act → World → Prop} {Q : Exit → Act → World → Prop} {E : Prop} (hgd : o.guard = none) (t : TypeId) (i : TypeInfo) (z : Value) (hI : K.Inf P t i z) (s x : Operand)
  (ho : o.op = .call { callee := .builtin .append, args := #[s, x], argTypes := #[t, t] })
  (B : Nat) (xs : List α) (v : Value) (hs : a.eval s = v) (hG : K.Gr B xs v w) (hB : B ≤ w.heap.size) (y : α) (hx : a.eval x = .slice (some ⟨w.heap.size, 0, none⟩) 1 1)
  (hR : K.R (YtmhpaacjioeknaaGreat.rest B v.ownBlock w) y) (h63 : xs.length + 1 ≤ maxLen) (hb : (xs.length + 1) * K.bytes ≤ 140737488355328)
  (h : ∀ v' w', K.Gr B (xs ++ [K.er y]) v' w' → (∃ g cap, v' = .slice (some ⟨g, 0, none⟩) (xs.length + 1) cap) → w.grownBy w' v.ownBlock → (∀ q, v.ownBlock = some q → B ≤ q) → R (a.put o.dst v') w') :
  if Region.wanted o (yielded ops a.tmps) = true then Oper.wp P o a (w.alloc (.cells (K.cells y).toArray K.T)) R Q else E := by
 have hw : Region.wanted o (yielded ops a.tmps) = true := by simp [Region.wanted, hgd]
 rw [if_pos hw]
 exact K.wp_push t i z hI s x ho B xs v hs hG hB y hx hR h63 hb h
end Kd
theorem zinfoVl : (Tryz.prog.info? 98).map (fun i => (i.zero, i.size, i.bytes)) = some (some (.agg #[.int .i64 0, .int .i64 0, .string ByteArray.empty, .int .i64 0, .slice none 0 0, .string ByteArray.empty, .string ByteArray.empty, .int .i64 0, .int .i64 0, .string ByteArray.empty, .int .i64 0, .int .i64 0]), 12, 144) := by kernel_rfl
theorem infVl : ∃ i, kVl.Inf Tryz.prog 101 i (.agg #[.int .i64 0, .int .i64 0, .string ByteArray.empty, .int .i64 0, .slice none 0 0, .string ByteArray.empty, .string ByteArray.empty, .int .i64 0, .int .i64 0, .string ByteArray.empty, .int .i64 0, .int .i64 0]) := by
 obtain ⟨i, h1, h2, h3, h4⟩ := info_parts zinfoVl
 exact ⟨i, Tryz.underlying101, h1, h2, h3, h4, rfl, by decide⟩
theorem zinfoDc : (Tryz.prog.info? 72).map (fun i => (i.zero, i.size, i.bytes)) = some (some (.agg #[.string ByteArray.empty, .string ByteArray.empty, .int .i64 0]), 3, 40) := by kernel_rfl
theorem zinfoIt : (Tryz.prog.info? 103).map (fun i => (i.zero, i.size, i.bytes)) = some (some (.agg #[.int .i64 0, .int .i64 0, .string ByteArray.empty, .int .i64 0, .slice none 0 0, .int .i64 0, .int .i64 0, .string ByteArray.empty, .int .i64 0, .slice none 0 0, .string ByteArray.empty, .string ByteArray.empty, .int .i64 0, .int .i64 0, .string ByteArray.empty, .int .i64 0, .int .i64 0, .int .i64 0, .int .i64 0, .int .i64 0, .int .i64 0, .string ByteArray.empty, .int .i64 0, .slice none 0 0, .string ByteArray.empty, .string ByteArray.empty, .int .i64 0, .int .i64 0, .string ByteArray.empty, .int .i64 0, .int .i64 0, .int .i64 0, .int .i64 0, .string ByteArray.empty, .int .i64 0, .slice none 0 0, .string ByteArray.empty, .string ByteArray.empty, .int .i64 0, .int .i64 0, .string ByteArray.empty, .int .i64 0, .int .i64 0, .string ByteArray.empty, .slice none 0 0, .slice none 0 0, .slice none 0 0, .bool false]), 48, 608) := by kernel_rfl
theorem infIt : ∃ i, kIt.Inf Tryz.prog 35 i (.agg #[.int .i64 0, .int .i64 0, .string ByteArray.empty, .int .i64 0, .slice none 0 0, .int .i64 0, .int .i64 0, .string ByteArray.empty, .int .i64 0, .slice none 0 0, .string ByteArray.empty, .string ByteArray.empty, .int .i64 0, .int .i64 0, .string ByteArray.empty, .int .i64 0, .int .i64 0, .int .i64 0, .int .i64 0, .int .i64 0, .int .i64 0, .string ByteArray.empty, .int .i64 0, .slice none 0 0, .string ByteArray.empty, .string ByteArray.empty, .int .i64 0, .int .i64 0, .string ByteArray.empty, .int .i64 0, .int .i64 0, .int .i64 0, .int .i64 0, .string ByteArray.empty, .int .i64 0, .slice none 0 0, .string ByteArray.empty, .string ByteArray.empty, .int .i64 0, .int .i64 0, .string ByteArray.empty, .int .i64 0, .int .i64 0, .string ByteArray.empty, .slice none 0 0, .slice none 0 0, .slice none 0 0, .bool false]) := by
 obtain ⟨i, h1, h2, h3, h4⟩ := info_parts zinfoIt
 exact ⟨i, Tryz.underlying35, h1, h2, h3, h4, rfl, by decide⟩
theorem zinfoSr : (Tryz.prog.info? 57).map (fun i => (i.zero, i.size, i.bytes)) = some (some (.agg #[.string ByteArray.empty, .int .i64 0, .slice none 0 0]), 3, 48) := by kernel_rfl
theorem infSr : ∃ i, kSr.Inf Tryz.prog 22 i (.agg #[.string ByteArray.empty, .int .i64 0, .slice none 0 0]) := by
 obtain ⟨i, h1, h2, h3, h4⟩ := info_parts zinfoSr
 exact ⟨i, Tryz.underlying22, h1, h2, h3, h4, rfl, by decide⟩
theorem zinfoPc : (Tryz.prog.info? 37).map (fun i => (i.zero, i.size, i.bytes)) = some (some (.agg #[.string ByteArray.empty, .int .i64 0, .int .i64 0, .slice none 0 0, .slice none 0 0, .slice none 0 0]), 6, 104) := by kernel_rfl
theorem infPc : ∃ i, kPc.Inf Tryz.prog 24 i (.agg #[.string ByteArray.empty, .int .i64 0, .int .i64 0, .slice none 0 0, .slice none 0 0, .slice none 0 0]) := by
 obtain ⟨i, h1, h2, h3, h4⟩ := info_parts zinfoPc
 exact ⟨i, Tryz.underlying24, h1, h2, h3, h4, rfl, by decide⟩
end Go.Proofs.YtmhpaacjioeknaaGreat
namespace Go.Proofs.YtmhpaacjioeknaaGreat
open Go.RowKit Go.Sort
theorem Kd.Gr.lt {α : Type} {K : Kd α} {B : Nat} {xs : List α} {v : Value} {w : World} (h : K.Gr B xs v w) : ∀ g, v.ownBlock = some g → B ≤ g ∧ g < w.heap.size := by
 obtain ⟨ys, h1, h2, h3⟩ := h
 exact fun g hg => h2.lt g hg
section
variable {pb sb cap : Nat} {l : List Tx.Sg}
end
end Go.Proofs.YtmhpaacjioeknaaGreat
namespace Go.Proofs.YtmhpaacjioeknaaGreat
open Go.RowKit Go.Sort
/-- Of the blocks that were there only two have turned. -/
structure Gr2 (w w' : World) (a b : Nat) : Prop where
 os : w'.os = w.os
 tape : w'.tape = w.tape
 output : w'.output = w.output
 size : w.heap.size ≤ w'.heap.size
 block : ∀ i, i < w.heap.size → i ≠ a → i ≠ b → w'.heap[i]? = w.heap[i]?
theorem Gr2.refl (w : World) (a b : Nat) : Gr2 w w a b := ⟨rfl, rfl, rfl, Nat.le_refl _, fun _ _ _ _ => rfl⟩
theorem Gr2.one {w w1 w2 : World} {a b : Nat} (h : Gr2 w w1 a b) (k : w1.grownBy w2 (some a)) : Gr2 w w2 a b :=
 ⟨k.os.trans h.os, k.tape.trans h.tape, k.output.trans h.output, Nat.le_trans h.size k.size, fun i hi h1 h2 => (k.block i (Nat.lt_of_lt_of_le hi h.size) (by intro e; injection e with e; exact h1 e)).trans (h.block i hi h1 h2)⟩
theorem Gr2.two {w w1 w2 : World} {a b : Nat} (h : Gr2 w w1 a b) (k : w1.grownBy w2 (some b)) : Gr2 w w2 a b :=
 ⟨k.os.trans h.os, k.tape.trans h.tape, k.output.trans h.output, Nat.le_trans h.size k.size, fun i hi h1 h2 => (k.block i (Nat.lt_of_lt_of_le hi h.size) (by intro e; injection e with e; exact h2 e)).trans (h.block i hi h1 h2)⟩
theorem Gr2.own {w0 w w' : World} {a b : Nat} (h : w0.grownBy w (some a)) (k : Gr2 w w' a b) (hb : w0.heap.size ≤ b) : w0.grownBy w' (some a) :=
 ⟨k.os.trans h.os, k.tape.trans h.tape, k.output.trans h.output, Nat.le_trans h.size k.size, fun i hi hne => (k.block i (Nat.lt_of_lt_of_le hi h.size) (by intro e; exact hne (by rw [e])) (by omega)).trans (h.block i hi hne)⟩
theorem putC_eq : ∀ (vs l : List Value) (o : Nat), o + vs.length ≤ l.length → putC l o vs = l.take o ++ vs ++ l.drop (o + vs.length)
 | [], l, o, _ => by simp [putC]
 | v :: r, l, o, h => by
  simp only [List.length_cons] at h
  have ho : o < l.length := by omega
  have hA : (l.take o).length = o := by rw [List.length_take]; omega
  have hs : l.set o v = l.take o ++ v :: l.drop (o + 1) := by rw [List.set_eq_take_append_cons_drop, if_pos ho]
  have e1 : (l.set o v).take (o + 1) = l.take o ++ [v] := by
   rw [hs, List.take_append, hA, List.take_of_length_le (by omega), show o + 1 - o = 1 by omega]; rfl
  have e2 : (l.set o v).drop (o + 1 + r.length) = l.drop (o + (r.length + 1)) := by
   rw [hs, List.drop_append, hA, List.drop_of_length_le (by omega), List.nil_append, show o + 1 + r.length - o = r.length + 1 by omega, List.drop_succ_cons, List.drop_drop, show o + 1 + r.length = o + (r.length + 1) by omega]
  rw [putC, putC_eq r (l.set o v) (o + 1) (by rw [List.length_set]; omega), e1, e2]
  simp only [List.length_cons, List.append_assoc, List.singleton_append]
theorem put_place (x : It) (p : Pth) : putC x.cells 2 p.cells = It.cells { x with h := { x.h with place := p } } := (putC_eq _ _ _ (show 5 ≤ 48 by decide)).trans rfl
theorem put_value (x : It) (p : Vl) : putC x.cells 5 p.cells = It.cells { x with h := { x.h with value := p } } := (putC_eq _ _ _ (show 17 ≤ 48 by decide)).trans rfl
theorem put_cond (x : It) (p : Cd) : putC x.cells 17 p.cells = It.cells { x with h := { x.h with cond := p } } := (putC_eq _ _ _ (show 43 ≤ 48 by decide)).trans rfl
/-- A statement in block S; what it leads to is new. -/
def Stc (w0 w : World) (S : Nat) (x : It) : Prop := Bk w S 103 x.cells.toArray ∧ itLies (fresh w0.heap.size w) x
/-- The statement as it begins. -/
def it0 (p : Int) : It := ⟨{ Pr.noHd with pos := p }, none, 0, .nil, none, 0, .nil⟩
section
variable {w0 w w' : World} {S pb : Nat} {x : It}
theorem Stc.par (h : Stc w0 w S x) (g : w.grownBy w' (some pb)) (h1 : S ≠ pb) (h2 : pb < w0.heap.size) : Stc w0 w' S x :=
 ⟨h.1.kept g h1, itLies_ext (fresh_par g h2) h.2⟩
theorem Stc.kind (h : Stc w0 w S x) (hS : S < w0.heap.size) (k : Int) : Stc w0 (w.setCell ⟨S, 0, none⟩ (.int .i64 k)) S { x with h := { x.h with kind := k } } :=
 ⟨h.1.set_ 0 _, itLies_ext (fresh_par (grownBy_setC w ⟨S, 0, none⟩ _) hS) h.2⟩
theorem Stc.name (h : Stc w0 w S x) (hS : S < w0.heap.size) (s : ByteArray) (hs : s.size ≤ maxLen) : Stc w0 (w.setCell ⟨S, 43, none⟩ (.string s)) S { x with h := { x.h with name := s } } :=
 ⟨h.1.set_ 43 _, by
  have h2 := itLies_ext (fresh_par (grownBy_setC w ⟨S, 43, none⟩ (.string s)) hS) h.2
  exact ⟨⟨h2.1.1, h2.1.2.1, h2.1.2.2.1, h2.1.2.2.2.1, h2.1.2.2.2.2.1, hs⟩, h2.2⟩⟩
theorem Stc.both (h : Stc w0 w S x) (hS : S < w0.heap.size) (b : Bool) : Stc w0 (w.setCell ⟨S, 47, none⟩ (.bool b)) S { x with h := { x.h with both := b } } :=
 ⟨h.1.set_ 47 _, itLies_ext (fresh_par (grownBy_setC w ⟨S, 47, none⟩ _) hS) h.2⟩
theorem Stc.args (h : Stc w0 w S x) (hS : S < w0.heap.size) (s : Sl Vl) (hs : argsLie (fresh w0.heap.size w) s) : Stc w0 (w.setCell ⟨S, 44, none⟩ (.slice s.p s.l.length s.cap)) S { x with h := { x.h with args := s } } :=
 ⟨h.1.set_ 44 _, by
  have he := fresh_par (B := w0.heap.size) (grownBy_setC w ⟨S, 44, none⟩ (.slice s.p s.l.length s.cap)) hS
  have h2 := itLies_ext he h.2
  exact ⟨⟨h2.1.1, h2.1.2.1, h2.1.2.2.1, h2.1.2.2.2.1, argsLie_ext he hs, h2.1.2.2.2.2.2⟩, h2.2⟩⟩
theorem Stc.then_ (h : Stc w0 w S x) (hS : S < w0.heap.size) (p : Option Addr) (c : Nat) (s : SL) (hs : sLies (fresh w0.heap.size w) p s) : Stc w0 (w.setCell ⟨S, 45, none⟩ (.slice p s.len c)) S { x with tp := p, tc := c, t := s } :=
 ⟨h.1.set_ 45 _, by
  have he := fresh_par (B := w0.heap.size) (grownBy_setC w ⟨S, 45, none⟩ (.slice p s.len c)) hS
  have h2 := itLies_ext he h.2
  exact ⟨h2.1, sLies_ext he hs, h2.2.2⟩⟩
theorem Stc.else_ (h : Stc w0 w S x) (hS : S < w0.heap.size) (p : Option Addr) (c : Nat) (s : SL) (hs : sLies (fresh w0.heap.size w) p s) : Stc w0 (w.setCell ⟨S, 46, none⟩ (.slice p s.len c)) S { x with ep := p, ec := c, e := s } :=
 ⟨h.1.set_ 46 _, by
  have he := fresh_par (B := w0.heap.size) (grownBy_setC w ⟨S, 46, none⟩ (.slice p s.len c)) hS
  have h2 := itLies_ext he h.2
  exact ⟨h2.1, h2.2.1, sLies_ext he hs⟩⟩
theorem Stc.place (h : Stc w0 w S x) (hS : S < w0.heap.size) {p : Pth} (hB : Bk w' S 103 (putC x.cells 2 p.cells).toArray) (hF : w.grownBy w' (some S)) (hs : hopsLie (fresh w0.heap.size w) p.hops) : Stc w0 w' S { x with h := { x.h with place := p } } :=
 ⟨by rw [← put_place]; exact hB, by
  have he := fresh_par (B := w0.heap.size) hF hS
  have h2 := itLies_ext he h.2
  exact ⟨⟨hopsLie_ext he hs, h2.1.2⟩, h2.2⟩⟩
theorem Stc.value (h : Stc w0 w S x) (hS : S < w0.heap.size) {p : Vl} (hB : Bk w' S 103 (putC x.cells 5 p.cells).toArray) (hF : w.grownBy w' (some S)) (hs : vlLies (fresh w0.heap.size w) p) : Stc w0 w' S { x with h := { x.h with value := p } } :=
 ⟨by rw [← put_value]; exact hB, by
  have he := fresh_par (B := w0.heap.size) hF hS
  have h2 := itLies_ext he h.2
  exact ⟨⟨h2.1.1, vlLies_ext he hs, h2.1.2.2⟩, h2.2⟩⟩
theorem Stc.cond (h : Stc w0 w S x) (hS : S < w0.heap.size) {p : Cd} (hB : Bk w' S 103 (putC x.cells 17 p.cells).toArray) (hF : w.grownBy w' (some S)) (hs : kCd.R (fresh w0.heap.size w) p) : Stc w0 w' S { x with h := { x.h with cond := p } } :=
 ⟨by rw [← put_cond]; exact hB, by
  have he := fresh_par (B := w0.heap.size) hF hS
  have h2 := itLies_ext he h.2
  exact ⟨⟨h2.1.1, h2.1.2.1, vlLies_ext he hs.1, vlLies_ext he hs.2, h2.1.2.2.2.2⟩, h2.2⟩⟩
theorem Stc.zero (p : Int) (hB : Bk w S 103 (it0 p).cells.toArray) : Stc w0 w S (it0 p) :=
 ⟨hB, ⟨⟨(show 0 * 24 ≤ 140737488351232 by decide), .inl rfl⟩, ⟨(show 0 * 24 ≤ 140737488351232 by decide), .inl rfl⟩, ⟨(show 0 * 24 ≤ 140737488351232 by decide), .inl rfl⟩, ⟨(show 0 * 24 ≤ 140737488351232 by decide), .inl rfl⟩, ⟨(show 0 * 144 ≤ 140737488351232 by decide), .inl rfl⟩, (show 0 ≤ maxLen from Nat.zero_le _)⟩, ⟨(show 0 * 608 ≤ 140737488351232 by decide), .inl rfl⟩, ⟨(show 0 * 608 ≤ 140737488351232 by decide), .inl rfl⟩⟩
end
/-- A statement that leads to no others; one that does. -/
def itH (h : Hd) : It := ⟨h, none, 0, .nil, none, 0, .nil⟩
def itB (x : Hd × SL × SL) : It := ⟨x.1, none, 0, x.2.1, none, 0, x.2.2⟩
/-- No sign's text is longer than a text may be. -/
def Tex (l : List Tx.Sg) : Prop := ∀ (k : Nat) (x : Tx.Sg), l[k]? = some x → x.text.size ≤ maxLen
theorem size43 : (Tryz.prog.info? 94).map (·.size) = some 3 := by kernel_rfl
end Go.Proofs.YtmhpaacjioeknaaGreat
namespace Go.Proofs.YtmhpaacjioeknaaGreat
open Go.RowKit Go.Sort
namespace Tx
theorem tok_fin (s : ByteArray) (k : Nat) (he : (tok s k).err = 0) (hn : (tok s k).sg.kind = 0) : (tok s k).sg.text = ByteArray.empty := by
 unfold tok at he hn ⊢
 split at hn
 ·rename_i h
  rw [dif_pos h] at he ⊢
  split at hn
  ·rename_i hl
   rw [if_pos hl] at he ⊢
   unfold wordA at he hn ⊢
   split at he
   ·exact absurd (show (3 : Int) = 0 from he) (by decide)
   ·rename_i h16
    rw [if_neg h16] at hn
    exfalso
    have : (if isKey (s.extract k (wend wrd s k)) = true then (3 : Int) else 1) = 0 := hn
    split at this <;> exact absurd this (by decide)
  ·rename_i hl
   rw [if_neg hl] at he ⊢
   split at hn
   ·rename_i hd
    rw [if_pos hd] at he ⊢
    unfold numA at he hn ⊢
    split at he
    ·exact absurd (show (3 : Int) = 0 from he) (by decide)
    ·rename_i h9
     rw [if_neg h9] at hn
     exact absurd (show (2 : Int) = 0 from hn) (by decide)
   ·rename_i hd
    rw [if_neg hd] at he ⊢
    unfold markA at he hn ⊢
    split at he
    ·exact absurd (show (4 : Int) = 0 from he) (by decide)
    ·rename_i hm
     rw [if_neg hm] at hn
     exact absurd (show (4 : Int) = 0 from hn) (by decide)
 ·rename_i h
  rw [dif_neg h]; rfl
theorem ext_size (s : ByteArray) (a b : Nat) : (s.extract a b).size ≤ s.size := by
 rw [ByteArray.size_extract]; omega
theorem tok_text (s : ByteArray) (k : Nat) : (tok s k).sg.text.size ≤ s.size := by
 unfold tok
 split
 ·split
  ·unfold wordA; split
   ·exact Nat.zero_le _
   ·exact ext_size _ _ _
  ·split
   ·unfold numA; split
    ·exact Nat.zero_le _
    ·exact ext_size _ _ _
   ·unfold markA; split
    ·exact Nat.zero_le _
    ·exact ext_size _ _ _
 ·exact Nat.zero_le _
theorem go_shape : ∀ (f : Nat) (s : ByteArray) (i : Nat) (acc : List Sg), i ≤ s.size → s.size < i + f → (go f s i acc).2.2 = 0 →
  ∃ m x, (go f s i acc).1 = acc ++ (m ++ [x]) ∧ x.kind = 0 ∧ x.text = ByteArray.empty ∧ (∀ y ∈ m, y.kind ≠ 0) ∧ (∀ y ∈ m, y.text.size ≤ s.size) ∧ m.length + i ≤ s.size
 | 0, s, i, acc, hi, hf, _ => by omega
 | f + 1, s, i, acc, hi, hf, he => by
  unfold go at he ⊢
  split at he
  ·rename_i h0
   rw [if_pos h0]
   split at he
   ·rename_i hk
    rw [if_pos hk]
    exact ⟨[], (nx s i).sg, rfl, hk, tok_fin s _ h0 hk, by simp, by simp, by simpa using hi⟩
   ·rename_i hk
    rw [if_neg hk]
    have hadv := nx_adv s i h0 hk
    obtain ⟨m, x, h1, h2, h3, h4, h5, h6⟩ := go_shape f s (nx s i).stop (acc ++ [(nx s i).sg]) (nx_stop_le s i hi) (by omega) he
    refine ⟨(nx s i).sg :: m, x, by rw [h1]; simp, h2, h3, ?_, ?_, by simp only [List.length_cons]; omega⟩
    ·intro y hy
     rcases List.mem_cons.1 hy with rfl | hy
     ·exact hk
     ·exact h4 y hy
    ·intro y hy
     rcases List.mem_cons.1 hy with rfl | hy
     ·exact tok_text s _
     ·exact h5 y hy
  ·rename_i h0
   exact absurd he h0
theorem alls_shape (s : ByteArray) (he : (alls s).2.2 = 0) : ∃ m x, (alls s).1 = m ++ [x] ∧ x.kind = 0 ∧ x.text = ByteArray.empty ∧ (∀ y ∈ m, y.kind ≠ 0) ∧ (∀ y ∈ m, y.text.size ≤ s.size) ∧ m.length ≤ s.size ∧ s.size ≤ 65536 := by
 unfold alls at he ⊢
 split at he
 ·exact absurd (show (3 : Int) = 0 from he) (by decide)
 ·rename_i h
  rw [if_neg h]
  obtain ⟨m, x, h1, h2, h3, h4, h5, h6⟩ := go_shape (s.size + 1) s 0 [] (Nat.zero_le _) (by omega) he
  exact ⟨m, x, by rw [h1]; rfl, h2, h3, h4, h5, by omega, by omega⟩
end Tx
theorem alls_good (s : ByteArray) (he : (Tx.alls s).2.2 = 0) : Good (Tx.alls s).1 ∧ Tex (Tx.alls s).1 ∧ 0 < (Tx.alls s).1.length := by
 obtain ⟨m, x, h1, h2, h3, h4, h5, h6, h7⟩ := Tx.alls_shape s he
 rw [h1]
 have hat : ∀ (k : Nat) (y : Tx.Sg), (m ++ [x])[k]? = some y → (k < m.length ∧ y ∈ m) ∨ (k = m.length ∧ y = x) := by
  intro k y hk
  by_cases hl : k < m.length
  ·rw [List.getElem?_append_left hl] at hk
   exact .inl ⟨hl, List.mem_of_getElem? hk⟩
  ·rw [List.getElem?_append_right (by omega)] at hk
   have hkl : k = m.length := by
    have := (List.getElem?_eq_some_iff.1 hk).1
    simp at this; omega
   subst hkl
   rw [Nat.sub_self] at hk
   injection hk with hk
   exact .inr ⟨rfl, hk.symm⟩
 refine ⟨⟨fun k y hk => ?_, fun k y hk hl => ?_, by simp; omega⟩, fun k y hk => ?_, by simp⟩
 ·rcases hat k y hk with ⟨hl, hm⟩ | ⟨rfl, rfl⟩
  ·exact ⟨fun h0 => absurd h0 (h4 y hm), fun h0 => by simp at h0; omega⟩
  ·exact ⟨fun _ => by simp, fun _ => h2⟩
 ·rcases hat k y hk with ⟨hl', hm⟩ | ⟨rfl, rfl⟩
  ·simp at hl; omega
  ·exact h3
 ·rcases hat k y hk with ⟨hl, hm⟩ | ⟨rfl, rfl⟩
  ·have := h5 y hm; unfold maxLen; omega
  ·rw [h3]; exact Nat.zero_le _
namespace Pr
end Pr
end Go.Proofs.YtmhpaacjioeknaaGreat
namespace Go.Proofs.YtmhpaacjioeknaaGreat
namespace Tx
def isKeyL (l : List UInt8) : Bool := kw.any fun x => l == x
structure Tk where
 kind : Int
 len : Nat
 num : Int
 err : Int
/-- The sign at a list's head. -/
def tokL : List UInt8 → Tk
 | [] => ⟨0, 0, 0, 0⟩
 | b :: l =>
  if ltr (b.toNat : Int) then
   if 16 < run wrd (b :: l) then ⟨0, 0, 0, 3⟩ else ⟨if isKeyL ((b :: l).take (run wrd (b :: l))) then 3 else 1, run wrd (b :: l), 0, 0⟩
  else if dgt (b.toNat : Int) then
   if 9 < run dgt (b :: l) then ⟨0, 0, 0, 3⟩ else ⟨2, run dgt (b :: l), val ((b :: l).take (run dgt (b :: l))), 0⟩
  else if mkl (b :: l) = 0 then ⟨0, 0, 0, 4⟩ else ⟨4, mkl (b :: l), 0, 0⟩
theorem wend_len (p : Int → Bool) (s : ByteArray) (k : Nat) : wend p s k = k + run p (s.data.toList.drop k) := rfl
theorem part_take (s : ByteArray) (k n : Nat) : (s.extract k (k + n)).data.toList = (s.data.toList.drop k).take n := by
 rw [part_list, show k + n - k = n by omega]
/-- The sign at a place hangs on what stands from there on. -/
theorem tok_list (s : ByteArray) (k : Nat) : tok s k = ⟨⟨(tokL (s.data.toList.drop k)).kind, k, s.extract k (k + (tokL (s.data.toList.drop k)).len), (tokL (s.data.toList.drop k)).num⟩, k + (tokL (s.data.toList.drop k)).len, (tokL (s.data.toList.drop k)).err⟩ := by
 have hbad : ∀ e, An.bad k e = ⟨⟨0, k, s.extract k (k + 0), 0⟩, k + 0, e⟩ := by
  intro e; unfold An.bad; rw [Nat.add_zero, cut_none]
 by_cases h : k < s.size
 ·have hd := drop_at s k h
  cases hl : ltr (s[k].toNat : Int)
  ·cases hg : dgt (s[k].toNat : Int)
   ·rw [tok_mark s k h hl hg]
    unfold markA mrk
    rw [hd]
    simp only [tokL, hl, hg, Bool.false_eq_true, if_false]
    by_cases h0 : mkl (s[k] :: s.data.toList.drop (k + 1)) = 0
    ·rw [if_pos h0, if_pos h0]; exact hbad 4
    ·rw [if_neg h0, if_neg h0]; rfl
   ·rw [tok_num s k h hl hg]
    unfold numA
    rw [wend_len, part_take, hd]
    simp only [tokL, hl, hg, Bool.false_eq_true, if_false, if_true]
    rw [show k + run dgt (s[k] :: s.data.toList.drop (k + 1)) - k = run dgt (s[k] :: s.data.toList.drop (k + 1)) by omega]
    by_cases h9 : 9 < run dgt (s[k] :: s.data.toList.drop (k + 1))
    ·rw [if_pos h9, if_pos h9]; exact hbad 3
    ·rw [if_neg h9, if_neg h9]; rfl
  ·rw [tok_word s k h hl]
   unfold wordA isKey
   rw [wend_len, part_take, hd]
   simp only [tokL, hl, if_true]
   rw [show k + run wrd (s[k] :: s.data.toList.drop (k + 1)) - k = run wrd (s[k] :: s.data.toList.drop (k + 1)) by omega]
   by_cases h16 : 16 < run wrd (s[k] :: s.data.toList.drop (k + 1))
   ·rw [if_pos h16, if_pos h16]; exact hbad 3
   ·rw [if_neg h16, if_neg h16]; rfl
 ·rw [tok_end s k h, drop_end s k (by omega)]
  exact hbad 0
theorem sk_zero (b : UInt8) (l : List UInt8) (h1 : blk (b.toNat : Int) = false) (h2 : b.toNat ≠ 47) : sk false (b :: l) = 0 := by
 simp only [sk, h1, Bool.false_eq_true, if_false]
 rw [if_neg (fun h => h2 h.1)]
/-- These are the signs from i on, up to the End. -/
def Chain (s : ByteArray) : Nat → List Sg → Prop
 | _, [] => False
 | i, a :: l => (nx s i).err = 0 ∧ (nx s i).sg = a ∧ ((a.kind = 0 ∧ l = []) ∨ (a.kind ≠ 0 ∧ Chain s (nx s i).stop l))
theorem go_chain : ∀ (f : Nat) (s : ByteArray) (i : Nat) (acc : List Sg), i ≤ s.size → s.size < i + f → (go f s i acc).2.2 = 0 →
  ∃ l, (go f s i acc).1 = acc ++ l ∧ Chain s i l ∧ (go f s i acc).2.1 = 0
 | 0, s, i, acc, hi, hf, _ => absurd hf (by omega)
 | f + 1, s, i, acc, hi, hf, he => by
  unfold go at he ⊢
  by_cases h0 : (nx s i).err = 0
  ·rw [if_pos h0] at he ⊢
   by_cases hk : (nx s i).sg.kind = 0
   ·rw [if_pos hk]
    exact ⟨[(nx s i).sg], rfl, ⟨h0, rfl, .inl ⟨hk, rfl⟩⟩, rfl⟩
   ·rw [if_neg hk] at he ⊢
    have h1 := nx_adv s i h0 hk
    have h2 := nx_stop_le s i hi
    obtain ⟨l, e1, e2, e3⟩ := go_chain f s _ _ h2 (by omega) he
    exact ⟨(nx s i).sg :: l, by rw [e1, List.append_assoc]; rfl, ⟨h0, rfl, .inr ⟨hk, e2⟩⟩, e3⟩
  ·rw [if_neg h0] at he; exact absurd he h0
theorem chain_go : ∀ (f : Nat) (s : ByteArray) (i : Nat) (acc l : List Sg), i ≤ s.size → s.size < i + f → Chain s i l → go f s i acc = (acc ++ l, 0, 0)
 | 0, s, i, acc, l, hi, hf, _ => absurd hf (by omega)
 | f + 1, s, i, acc, [], hi, hf, h => h.elim
 | f + 1, s, i, acc, a :: l, hi, hf, h => by
  obtain ⟨h0, rfl, h1⟩ := h
  unfold go
  rw [if_pos h0]
  rcases h1 with ⟨hk, rfl⟩ | ⟨hk, hc⟩
  ·rw [if_pos hk]
  ·rw [if_neg hk]
   have h1 := nx_adv s i h0 hk
   have h2 := nx_stop_le s i hi
   rw [chain_go f s _ _ l h2 (by omega) hc, List.append_assoc]
   rfl
/-- What is asked of a sign. -/
def key (g : Sg) : Int × List UInt8 × Int := (g.kind, g.text.data.toList, g.num)
theorem nx_list (s : ByteArray) (i : Nat) : nx s i = ⟨⟨(tokL (s.data.toList.drop (skp s i))).kind, skp s i, s.extract (skp s i) (skp s i + (tokL (s.data.toList.drop (skp s i))).len), (tokL (s.data.toList.drop (skp s i))).num⟩, skp s i + (tokL (s.data.toList.drop (skp s i))).len, (tokL (s.data.toList.drop (skp s i))).err⟩ := tok_list s (skp s i)
/-- A blank ahead is left behind. -/
theorem nx_blank (t : ByteArray) (j : Nat) (b : UInt8) (hb : blk (b.toNat : Int) = true) (l : List UInt8) (h : t.data.toList.drop j = b :: l) : nx t j = nx t (j + 1) ∧ t.data.toList.drop (j + 1) = l ∧ j < t.size := by
 have hj : j < t.size := by
  rcases Nat.lt_or_ge j t.size with h1 | h1
  ·exact h1
  ·rw [drop_end t j h1] at h; cases h
 have e := drop_at t j hj
 rw [h] at e
 injection e with e1 e2
 refine ⟨?_, e2.symm, hj⟩
 unfold nx
 rw [skp_blank t j hj (by rw [← e1]; exact hb)]
theorem alls_chain (s : ByteArray) (h : (alls s).2.2 = 0) : Chain s 0 (alls s).1 := by
 unfold alls at h ⊢
 by_cases hl : 65536 < s.size
 ·rw [if_pos hl] at h; exact absurd h (show ¬ (3 : Int) = 0 by decide)
 ·rw [if_neg hl] at h ⊢
  obtain ⟨l, e1, e2, _⟩ := go_chain (s.size + 1) s 0 [] (Nat.zero_le _) (by omega) h
  rw [e1]; exact e2
end Tx
end Go.Proofs.YtmhpaacjioeknaaGreat
namespace Go.Proofs.YtmhpaacjioeknaaGreat
open Go.RowKit Go.Sort
end Go.Proofs.YtmhpaacjioeknaaGreat
