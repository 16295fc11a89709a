/-
  The walks over blanks and remarks, of both. The document's walk over blanks and remarks. The walks of the answers: a sign, an error; a word, a number, a Mark. The walk of a number's answer. The walks of a Mark's answer, of both. The document's Mark: the walk. The walk of 'the sign that comes next': 
-/
import Derived.Test.YtdlchhimkelinaaGreatDoorK02
import Derived.WalkMore
import Derived.Deep.LoopGhost
import Derived.Laws.AppendOwnNone
import Derived.Maps.AppendAt
import Derived.OwnWalk
import Derived.Test.YtdlchhimkelinaaGreatDoorK01
import Derived.Laws.Tables
import Derived.RegionTactic
import Derived.WalkLawsBesides
import Derived.Deep.DeepCutAuto
set_option maxHeartbeats 6400000
set_option maxRecDepth 100000
namespace Go.Proofs.YtdlchhimkelinaaGreatDoor
open Go.RowKit
theorem from_list (s : ByteArray) (k : Nat) : (s.extract k s.size).data.toList = s.data.toList.drop k := by
 rw [← Lib.toList_data, Lib.extract_toList, ← Tx.len_eq]
 exact List.take_of_length_le (by simp)
theorem part_list (s : ByteArray) (a b : Nat) : (s.extract a b).data.toList = (s.data.toList.drop a).take (b - a) := by
 rw [← Lib.toList_data, Lib.extract_toList]
theorem pre2 (s : ByteArray) (k : Nat) (a b : UInt8) : Lib.hasPrefix (s.extract k s.size).data.toList [a, b] = true ↔ ∃ h : k + 1 < s.size, s[k] = a ∧ s[k + 1] = b := by
 rw [from_list]
 unfold Lib.hasPrefix
 by_cases h : k < s.size
 ·rw [Tx.drop_at s k h]
  by_cases h1 : k + 1 < s.size
  ·rw [Tx.drop_at s (k + 1) h1]
   simp only [List.isPrefixOf, Bool.and_true, Bool.and_eq_true, beq_iff_eq, h1, exists_true_left]
   exact ⟨fun ⟨x, y⟩ => ⟨x.symm, y.symm⟩, fun ⟨x, y⟩ => ⟨x.symm, y.symm⟩⟩
  ·rw [Tx.drop_end s (k + 1) (by omega)]
   simp [List.isPrefixOf, h1]
 ·rw [Tx.drop_end s k (by omega)]
  simp [List.isPrefixOf]; omega
theorem index_run (l : List UInt8) : Lib.indexByte l 10 = if Tx.run Tx.inl l < l.length then (Tx.run Tx.inl l : Int) else -1 := by
 induction l with
 | nil => rfl
 | cons b l ih =>
  unfold Lib.indexByte Tx.run
  by_cases h : b = 10
  ·subst h; simp [Tx.inl]
  ·have hb : Tx.inl (b.toNat : Int) = true := by
    unfold Tx.inl
    simp only [ne_eq, decide_not, Bool.not_eq_true', decide_eq_false_iff_not]
    intro e
    apply h
    exact UInt8.toNat_inj.1 (by show b.toNat = 10; omega)
   have hb' : (b == 10) = false := by simpa using h
   rw [hb', hb, ih]
   simp only [Bool.false_eq_true, if_false, if_true, List.length_cons]
   by_cases h2 : Tx.run Tx.inl l < l.length
   ·rw [if_pos h2, if_neg (by simp), if_pos (show Tx.run Tx.inl l + 1 < l.length + 1 by omega)]; simp
   ·rw [if_neg h2, if_neg (show ¬ Tx.run Tx.inl l + 1 < l.length + 1 by omega)]; rfl
theorem index_line (s : ByteArray) (i : Nat) (hi : i ≤ s.size) : Lib.indexByte (s.extract i s.size).data.toList 10 = if Tx.wend Tx.inl s i < s.size then ((Tx.wend Tx.inl s i : Int) - i) else -1 := by
 rw [from_list, index_run, List.length_drop, Tx.len_eq]
 unfold Tx.wend
 by_cases h : Tx.run Tx.inl (s.data.toList.drop i) < s.size - i
 ·rw [if_pos h, if_pos (by omega)]; omega
 ·rw [if_neg h, if_neg (by omega)]
/-- Where the next line's end stands, from i on; below nought: nowhere. -/
def lineI (s : ByteArray) (i : Nat) : Int := Lib.indexByte (s.extract i s.size).data.toList 10
/-- Does p stand at k? -/
def preB (s : ByteArray) (k : Nat) (p : ByteArray) : Bool := Lib.hasPrefix (s.extract k s.size).data.toList p.data.toList
theorem indexFrom_any (s : ByteArray) (i : Nat) (w : World) :
  Calls Tryz.prog 124 #[.string (s.extract i s.size), .int .u8 10] w fun e w' => e = .returned (.int .i64 (lineI s i)) ∧ w = w' := indexByte_any _ _ w
theorem prefixFrom_any (s : ByteArray) (k : Nat) (p : ByteArray) (w : World) :
  Calls Tryz.prog 119 #[.string (s.extract k s.size), .string p] w fun e w' => e = .returned (.bool (preB s k p)) ∧ w = w' := hasPrefix_any _ _ w
theorem lineEnd_any (s : ByteArray) (i : Nat) (w : World) (hs : s.size ≤ 5000000) (hi : i ≤ s.size) :
  Calls Tryz.prog 120 #[.string s, .int .i64 i] w fun e w' => e = .returned (.int .i64 (Tx.wend Tx.inl s i)) ∧ w = w' := by
 have hx : lineI s i = _ := index_line s i hi
 have hle := Tx.wend_le Tx.inl s i hi
 have hge := Tx.wend_ge Tx.inl s i
 by_cases h : Tx.wend Tx.inl s i < s.size
 ·rw [if_pos h] at hx
  have h0 : 0 ≤ lineI s i := by omega
  have h1 : lineI s i ≤ 5000000 := by omega
  have HX := hdn hx
  have HH := hdn h
  clear hx h hle hge
  go_enter Tryz.func120, Tryz.ntmps120
  go_wp2_with (go_at_call 124; refine (indexFrom_any _ _ _).mono ?_; rintro e w' ⟨rfl, rfl⟩)
  go_ret
  exact ⟨lret_int (by have := HX.out; omega), rfl⟩
 ·rw [if_neg h] at hx
  have h0 : ¬ 0 ≤ lineI s i := by omega
  have HX := hdn hx
  have HH := hdn h
  clear hx h
  have HL := hdn hle
  clear hle hge
  go_enter Tryz.func120, Tryz.ntmps120
  go_wp2_with (go_at_call 124; refine (indexFrom_any _ _ _).mono ?_; rintro e w' ⟨rfl, rfl⟩)
  go_ret
  exact ⟨lret_int (by have := HH.out; have := HL.out; omega), rfl⟩
theorem rem_yes (s : ByteArray) (k : Nat) (h : preB s k ⟨#[47, 47]⟩ = true) : ∃ h : k + 1 < s.size, s[k].toNat = 47 ∧ s[k + 1].toNat = 47 := by
 obtain ⟨h1, a, b⟩ := (pre2 s k 47 47).1 h
 exact ⟨h1, by rw [a]; rfl, by rw [b]; rfl⟩
theorem rem_no (s : ByteArray) (k : Nat) (hk : k < s.size) (h : preB s k ⟨#[47, 47]⟩ = false) : ¬ (s[k].toNat = 47 ∧ ∃ h : k + 1 < s.size, s[k + 1].toNat = 47) := by
 rintro ⟨a, h1, b⟩
 have := (pre2 s k 47 47).2 ⟨h1, UInt8.toNat_inj.1 a, UInt8.toNat_inj.1 b⟩
 unfold preB at h
 rw [show (ByteArray.mk #[47, 47]).data.toList = [47, 47] from rfl, this] at h
 cases h
/-- A byte's case: a blank, a stroke, another. -/
theorem byte_case (c : Int) : (Tx.blk c = true ∧ ((c == 32) = true ∨ ((c == 32) = false ∧ (c == 9) = true) ∨ ((c == 32) = false ∧ (c == 9) = false ∧ (c == 10) = true) ∨ ((c == 32) = false ∧ (c == 9) = false ∧ (c == 10) = false ∧ (c == 13) = true)))
  ∨ (Tx.blk c = false ∧ (c == 32) = false ∧ (c == 9) = false ∧ (c == 10) = false ∧ (c == 13) = false ∧ ((c == 47) = true ∨ (c == 47) = false)) := by
 unfold Tx.blk; simp; omega
theorem skip_any (s : ByteArray) (i : Nat) (w : World) (hs : s.size ≤ 5000000) (hi : i ≤ s.size) :
  Calls Tryz.prog 87 #[.string s, .int .i64 i] w fun e w' => e = .returned (.int .i64 (Tx.skp s i)) ∧ w = w' := by
 go_enter Tryz.func87, Tryz.ntmps87
 go_wp2
 go_step3
 go_wp2
 go_step3
 go_wp2
 go_loop [1] (fun v => ∃ k : Nat, k ≤ s.size ∧ v = .int .i64 k ∧ Hid (Tx.skp s k = Tx.skp s i)) (fun v => s.size - (intOf v).toNat)
 case atStart => exact ⟨i, hi, rfl, rfl⟩
 case round =>
  obtain ⟨k, hk, rfl, HR⟩ := hrel
  by_cases hlt : k < s.size
  ·rcases byte_case (s[k].toNat : Int) with ⟨hb, hc⟩ | ⟨hb, h1, h2, h3, h4, hc⟩
   ·have HE := hdn (Tx.skp_blank s k hlt hb)
    clear hb
    rcases hc with h1 | ⟨h1, h2⟩ | ⟨h1, h2, h3⟩ | ⟨h1, h2, h3, h4⟩
    all_goals
     go_wp2_with fail
     go_round
     case rel => exact ⟨k + 1, by omega, by go_num, HE.out.trans HR.out⟩
     case measure => simp [intOf]; omega
   ·rcases hc with h5 | h5
    ·cases hp : preB s k ⟨#[47, 47]⟩
     ·have HE := hdn (Tx.skp_stop s k hlt hb (rem_no s k hlt hp))
      clear hb
      go_wp2_with (go_at_call 119; refine (prefixFrom_any _ _ _ _).mono ?_; rintro e w' ⟨rfl, rfl⟩)
      (first | go_ret | (rw [Exit.noGoto_ret]; go_ret))
      exact ⟨lret_int (by rw [← HR.out, HE.out]), rfl⟩
     ·obtain ⟨h6, a, b⟩ := rem_yes s k hp
      have HE := hdn (Tx.skp_rem s k h6 a b)
      have hge : k + 1 ≤ Tx.wend Tx.inl s k := by
       rw [← Tx.wend_in Tx.inl s k hlt (by rw [a]; rfl)]; exact Tx.wend_ge _ _ _
      have hle := Tx.wend_le Tx.inl s k hk
      clear hb a b h6
      go_wp2_with (first | (go_at_call 119; refine (prefixFrom_any _ _ _ _).mono ?_; rintro e w' ⟨rfl, rfl⟩) | (go_at_call 120; refine (lineEnd_any _ _ _ hs (by omega)).mono ?_; rintro e w' ⟨rfl, rfl⟩))
      go_round
      case rel => exact ⟨_, hle, rfl, HE.out.trans HR.out⟩
      case measure => simp [intOf]; omega
    ·have HE := hdn (Tx.skp_stop s k hlt hb (by rintro ⟨a, _⟩; rw [a] at h5; simp at h5))
     clear hb
     go_wp2_with fail
     (first | go_ret | (rw [Exit.noGoto_ret]; go_ret))
     exact ⟨lret_int (by rw [← HR.out, HE.out]), rfl⟩
  ·have HE := hdn (Tx.skp_end s k (by omega))
   go_wp2_with fail
   (first | go_ret | (rw [Exit.noGoto_ret]; go_ret))
   exact ⟨lret_int (by rw [← HR.out, HE.out]), rfl⟩
end Go.Proofs.YtdlchhimkelinaaGreatDoor
namespace Go.Proofs.YtdlchhimkelinaaGreatDoor
open Go.RowKit
theorem ne_of (c d : Int) (b : Bool) (h : (c == d) = b) : (c != d) = !b := by rw [bne, h]
theorem blank_any (s : ByteArray) (i : Nat) (w : World) (hs : s.size ≤ 5000000) (hi : i ≤ s.size) :
  Calls Tryz.prog 125 #[.string s, .int .i64 i] w fun e w' => e = .returned (.int .i64 (Tx.skp s i)) ∧ w = w' := by
 go_enter Tryz.func125, Tryz.ntmps125
 go_wp2
 go_loopg [1] (s.size - i) (fun g v wr => ∃ k : Nat, k ≤ s.size ∧ s.size - k ≤ g ∧ v = .int .i64 k ∧ w = wr ∧ Hid (Tx.skp s k = Tx.skp s i))
 case atStart => exact ⟨i, hi, Nat.le_refl _, rfl, rfl, rfl⟩
 case round =>
  obtain ⟨k, hk, hgk, rfl, rfl, HR⟩ := hrel
  obtain ⟨g0, rfl⟩ : ∃ g0, g0 = gk := ⟨gk, rfl⟩
  by_cases hlt : k < s.size
  ·rcases byte_case (s[k].toNat : Int) with ⟨hb, hc⟩ | ⟨hb, h1, h2, h3, h4, hc⟩
   ·have HE := hdn (Tx.skp_blank s k hlt hb)
    clear hb
    rcases hc with h1 | ⟨h1, h2⟩ | ⟨h1, h2, h3⟩ | ⟨h1, h2, h3, h4⟩
    all_goals
     go_wp2_with fail
     go_roundg (g0 - 1)
     case rel => exact ⟨k + 1, by omega, by omega, by go_num, rfl, HE.out.trans HR.out⟩
     case measure => omega
   ·rcases hc with h5 | h5
    ·have n5 := ne_of _ _ _ h5
     by_cases h6 : k + 1 < s.size
     ·cases h7 : ((s[k + 1].toNat : Int) == 47)
      ·have n7 := ne_of _ _ _ h7
       have HE := hdn (Tx.skp_stop s k hlt hb (by rintro ⟨_, _, a⟩; rw [a] at h7; simp at h7))
       clear hb
       go_wp2_with fail
       go_ret
       exact ⟨lret_int (by rw [← HR.out, HE.out]), rfl⟩
      ·have n7 := ne_of _ _ _ h7
       have HE := hdn (Tx.skp_rem s k h6 (by simp at h5; omega) (by simp at h7; omega))
       have HG : Hid (k + 1 ≤ Tx.wend Tx.inl s k) := hdn (by
        rw [← Tx.wend_in Tx.inl s k hlt (by unfold Tx.inl; simp at h5 ⊢; omega)]; exact Tx.wend_ge _ _ _)
       clear hb
       go_wp2_with fail
       clear h1 h2 h3 h4 h5 h7 n5 n7 h6
       go_loopg [1] (s.size - k) (fun g v wr => ∃ j : Nat, j ≤ s.size ∧ s.size - j ≤ g ∧ v = .int .i64 j ∧ w = wr ∧ k ≤ j ∧ Hid (Tx.wend Tx.inl s j = Tx.wend Tx.inl s k))
       case atStart => exact ⟨k, hk, Nat.le_refl _, rfl, rfl, Nat.le_refl _, rfl⟩
       case round =>
        obtain ⟨j, hj, hgj, rfl, rfl, hkj, HW⟩ := hrel
        by_cases hjt : j < s.size
        ·cases n10 : ((s[j].toNat : Int) != 10)
         ·have HO := hdn (Tx.wend_out Tx.inl s j hjt (by unfold Tx.inl; simpa using n10))
          go_wp2_with fail
          go_roundg (g0 - 1)
          case rel =>
           have e1 := HG.out
           have e2 := HW.out
           have e3 := HO.out
           rw [e3] at e2
           exact ⟨j, hj, by omega, rfl, rfl, hdn (by rw [e2]; exact HE.out.trans HR.out)⟩
          case measure =>
           have e1 := HG.out
           have e2 := HW.out
           have e3 := HO.out
           omega
         ·have HO := hdn (Tx.wend_in Tx.inl s j hjt (by unfold Tx.inl; simpa using n10))
          go_wp2_with fail
          go_roundg (gk - 1)
          case rel => exact ⟨j + 1, by omega, by omega, by go_num, rfl, by omega, HO.out.trans HW.out⟩
          case measure => omega
        ·have HO := hdn (Tx.wend_end Tx.inl s j (by omega))
         go_wp2_with fail
         go_roundg (g0 - 1)
         case rel =>
          have e1 := HG.out
          have e2 := HW.out
          have e3 := HO.out
          rw [e3] at e2
          exact ⟨j, hj, by omega, rfl, rfl, hdn (by rw [e2]; exact HE.out.trans HR.out)⟩
         case measure =>
          have e1 := HG.out
          have e2 := HW.out
          have e3 := HO.out
          omega
     ·have HE := hdn (Tx.skp_stop s k hlt hb (by rintro ⟨_, a, _⟩; exact h6 a))
      clear hb
      go_wp2_with fail
      go_ret
      exact ⟨lret_int (by rw [← HR.out, HE.out]), rfl⟩
    ·have n5 := ne_of _ _ _ h5
     have HE := hdn (Tx.skp_stop s k hlt hb (by rintro ⟨a, _⟩; rw [a] at h5; simp at h5))
     clear hb
     go_wp2_with fail
     go_ret
     exact ⟨lret_int (by rw [← HR.out, HE.out]), rfl⟩
  ·have HE := hdn (Tx.skp_end s k (by omega))
   go_wp2_with fail
   go_ret
   exact ⟨lret_int (by rw [← HR.out, HE.out]), rfl⟩
end Go.Proofs.YtdlchhimkelinaaGreatDoor
namespace Go.Proofs.YtdlchhimkelinaaGreatDoor
open Go.RowKit
theorem right_any (kd : Int) (s : ByteArray) (a b : Nat) (w : World) (hab : a ≤ b) (hb : b ≤ s.size) :
  Calls Tryz.prog 88 #[.int .i64 kd, .string s, .int .i64 a, .int .i64 b] w fun e w' =>
   e = .returned (.tuple #[.agg #[.int .i64 kd, .int .i64 a, .string (s.extract a b), .int .i64 0], .int .i64 b, .int .i64 0]) ∧ Below w.heap.size w w' := by
 go_enter Tryz.func88, Tryz.ntmps88
 go_wp2
 exact bodyPost_ret (v := .tuple #[.agg #[.int .i64 kd, .int .i64 a, .string (s.extract a b), .int .i64 0], .int .i64 b, .int .i64 0]) (by simp [results, Tryz.results88, go_sem]) rfl ⟨rfl, (Below.refl _ _).alloc (Nat.le_refl _) _⟩
theorem wrong_any (a : Int) (er : Int) (w : World) :
  Calls Tryz.prog 121 #[.int .i64 a, .int .i64 er] w fun e w' =>
   e = .returned (.tuple #[.agg #[.int .i64 0, .int .i64 a, .string ByteArray.empty, .int .i64 0], .int .i64 a, .int .i64 er]) ∧ Below w.heap.size w w' := by
 go_enter Tryz.func121, Tryz.ntmps121
 go_wp2
 exact bodyPost_ret (v := .tuple #[.agg #[.int .i64 0, .int .i64 a, .string ByteArray.empty, .int .i64 0], .int .i64 a, .int .i64 er]) (by simp [results, Tryz.results121, go_sem]; rfl) rfl ⟨rfl, (Below.refl _ _).alloc (Nat.le_refl _) _⟩
theorem bcell {W w1 : World} (hb : Below W.heap.size W w1) : (∀ b o, b < W.heap.size → w1.cell? ⟨b, o, none⟩ = W.cell? ⟨b, o, none⟩) ∧ (∀ b o, b < W.heap.size → w1.frozen? ⟨b, o, none⟩ = W.frozen? ⟨b, o, none⟩) :=
 ⟨fun b o h => hb.cell (p := ⟨b, o, none⟩) h, fun b o h => hb.frozen (p := ⟨b, o, none⟩) h⟩
theorem below4 {w w1 : World} {o : Obj} (hb : Below (w.alloc o).heap.size (w.alloc o) w1) (x0 x1 x2 x3 : Value) :
  Below w.heap.size w ((((w1.setCell ⟨w.heap.size, 0, none⟩ x0).setCell ⟨w.heap.size, 1, none⟩ x1).setCell ⟨w.heap.size, 2, none⟩ x2).setCell ⟨w.heap.size, 3, none⟩ x3) :=
 (((((((Below.refl _ _).alloc (Nat.le_refl _) _).trans (hb.mono (by simp))).setCell (Nat.le_refl _) _).setCell (Nat.le_refl _) _).setCell (Nat.le_refl _) _).setCell (Nat.le_refl _) _)
theorem Gl.alloc {w : World} (h : Gl w) (o : Obj) : Gl (w.alloc o) := h.below ((Below.refl w.heap.size w).alloc (Nat.le_refl _) o) h.two
theorem word_any (s : ByteArray) (i : Nat) (w : World) (hs : s.size ≤ 5000000) (hi : i ≤ s.size) (hg : Gl w) :
  Calls Tryz.prog 90 #[.string s, .int .i64 i] w fun e w' =>
   e = .returned (.tuple #[.agg #[.int .i64 (Tx.wordA s i).sg.kind, .int .i64 (Tx.wordA s i).sg.pos, .string (Tx.wordA s i).sg.text, .int .i64 (Tx.wordA s i).sg.num], .int .i64 (Tx.wordA s i).stop, .int .i64 (Tx.wordA s i).err]) ∧ Below w.heap.size w w' := by
 have hge := Tx.wend_ge Tx.wrd s i
 have hle := Tx.wend_le Tx.wrd s i hi
 by_cases h16 : 16 < Tx.wend Tx.wrd s i - i
 ·rw [show Tx.wordA s i = Tx.An.bad i 3 by unfold Tx.wordA; rw [if_pos h16]]
  unfold Tx.An.bad
  go_enter Tryz.func90, Tryz.ntmps90
  go_wp2_with fail
  refine (wordEnd_any _ _ _ hs hi).mono ?_; rintro e w' ⟨rfl, rfl⟩
  go_wp2_with fail
  refine (wrong_any _ _ _).mono ?_; rintro e w1 ⟨rfl, hb⟩
  obtain ⟨hc, hf⟩ := bcell hb
  have hz : w.heap.size < w1.heap.size := by have := hb.size; simp at this; omega
  have HB := hdn hb
  clear hb
  go_wp2_with fail
  exact bodyPost_ret (v := .tuple #[.agg #[.int .i64 0, .int .i64 (i : Nat), .string ByteArray.empty, .int .i64 0], .int .i64 (i : Nat), .int .i64 3]) (by simp [results, Tryz.results90, go_sem, hc]) rfl ⟨rfl, below4 HB.out _ _ _ _⟩
 ·have h16' : ¬ (Tx.wend Tx.wrd s i : Int) - i > 16 := by omega
  clear h16
  have H16 := hdn h16'
  cases hk : Tx.isKey (s.extract i (Tx.wend Tx.wrd s i))
  ·rw [show Tx.wordA s i = Tx.An.good s 1 i (Tx.wend Tx.wrd s i) 0 by unfold Tx.wordA; rw [if_neg (by omega), hk]; rfl]
   unfold Tx.An.good
   go_enter Tryz.func90, Tryz.ntmps90
   go_wp2_with fail
   refine (wordEnd_any _ _ _ hs hi).mono ?_; rintro e w' ⟨rfl, rfl⟩
   go_wp2_with fail
   refine (isKeyLex_any _ _ (hg.alloc _)).mono ?_; rintro e w' ⟨rfl, rfl⟩
   go_wp2_with fail
   refine (right_any _ _ _ _ _ hge hle).mono ?_; rintro e w1 ⟨rfl, hb⟩
   obtain ⟨hc, hf⟩ := bcell hb
   have hz : w.heap.size < w1.heap.size := by have := hb.size; simp at this; omega
   have HB := hdn hb
   clear hb
   go_wp2_with fail
   exact bodyPost_ret (v := .tuple #[.agg #[.int .i64 1, .int .i64 (i : Nat), .string (s.extract i (Tx.wend Tx.wrd s i)), .int .i64 0], .int .i64 (Tx.wend Tx.wrd s i : Nat), .int .i64 0]) (by simp [results, Tryz.results90, go_sem, hc]) rfl ⟨rfl, below4 HB.out _ _ _ _⟩
  ·rw [show Tx.wordA s i = Tx.An.good s 3 i (Tx.wend Tx.wrd s i) 0 by unfold Tx.wordA; rw [if_neg (by omega), hk]; rfl]
   unfold Tx.An.good
   go_enter Tryz.func90, Tryz.ntmps90
   go_wp2_with fail
   refine (wordEnd_any _ _ _ hs hi).mono ?_; rintro e w' ⟨rfl, rfl⟩
   go_wp2_with fail
   refine (isKeyLex_any _ _ (hg.alloc _)).mono ?_; rintro e w' ⟨rfl, rfl⟩
   go_wp2_with fail
   refine (right_any _ _ _ _ _ hge hle).mono ?_; rintro e w1 ⟨rfl, hb⟩
   obtain ⟨hc, hf⟩ := bcell hb
   have hz : w.heap.size < w1.heap.size := by have := hb.size; simp at this; omega
   have HB := hdn hb
   clear hb
   go_wp2_with fail
   exact bodyPost_ret (v := .tuple #[.agg #[.int .i64 3, .int .i64 (i : Nat), .string (s.extract i (Tx.wend Tx.wrd s i)), .int .i64 0], .int .i64 (Tx.wend Tx.wrd s i : Nat), .int .i64 0]) (by simp [results, Tryz.results90, go_sem, hc]) rfl ⟨rfl, below4 HB.out _ _ _ _⟩
end Go.Proofs.YtdlchhimkelinaaGreatDoor
namespace Go.Proofs.YtdlchhimkelinaaGreatDoor
open Go.RowKit
theorem run_take (p : Int → Bool) : ∀ l : List UInt8, ∀ b ∈ l.take (Tx.run p l), p (b.toNat : Int) = true
 | [], b, h => by simp at h
 | a :: l, b, h => by
  by_cases ha : p (a.toNat : Int) = true
  ·simp only [Tx.run, ha, if_true, List.take_succ_cons, List.mem_cons] at h
   rcases h with rfl | h
   ·exact ha
   ·exact run_take p l b h
  ·simp only [Tx.run, ha, Bool.false_eq_true, if_false, List.take_zero, List.not_mem_nil] at h
theorem wend_part (p : Int → Bool) (s : ByteArray) (i : Nat) : (s.extract i (Tx.wend p s i)).data.toList = (s.data.toList.drop i).take (Tx.run p (s.data.toList.drop i)) := by
 rw [part_list]; unfold Tx.wend; rw [show i + Tx.run p (s.data.toList.drop i) - i = Tx.run p (s.data.toList.drop i) by omega]
theorem digs_part (s : ByteArray) (i : Nat) : digs (s.extract i (Tx.wend Tx.dgt s i)).data.toList := by
 rw [wend_part]; exact run_take Tx.dgt _
theorem part_size (s : ByteArray) (a b : Nat) (hb : b ≤ s.size) : (s.extract a b).size = b - a := by
 rw [ByteArray.size_extract]; omega
theorem numValue_any (s : ByteArray) (i : Nat) (w : World) (hi : i ≤ s.size) (h9 : ¬ 9 < Tx.wend Tx.dgt s i - i) :
  Calls Tryz.prog 123 #[.string (s.extract i (Tx.wend Tx.dgt s i))] w fun e w' => e = .returned (.int .i64 (Tx.val (s.extract i (Tx.wend Tx.dgt s i)).data.toList)) ∧ w = w' :=
 lvalue_any _ _ (digs_part s i) (by rw [part_size _ _ _ (Tx.wend_le _ s i hi)]; omega)
theorem number_any (s : ByteArray) (i : Nat) (w : World) (hs : s.size ≤ 5000000) (hi : i ≤ s.size) :
  Calls Tryz.prog 92 #[.string s, .int .i64 i] w fun e w' =>
   e = .returned (.tuple #[.agg #[.int .i64 (Tx.numA s i).sg.kind, .int .i64 (Tx.numA s i).sg.pos, .string (Tx.numA s i).sg.text, .int .i64 (Tx.numA s i).sg.num], .int .i64 (Tx.numA s i).stop, .int .i64 (Tx.numA s i).err]) ∧ Below w.heap.size w w' := by
 have hge := Tx.wend_ge Tx.dgt s i
 have hle := Tx.wend_le Tx.dgt s i hi
 by_cases h9 : 9 < Tx.wend Tx.dgt s i - i
 ·rw [show Tx.numA s i = Tx.An.bad i 3 by unfold Tx.numA; rw [if_pos h9]]
  unfold Tx.An.bad
  go_enter Tryz.func92, Tryz.ntmps92
  go_wp2_with fail
  refine (digitsEnd_any _ _ _ hs hi).mono ?_; rintro e w' ⟨rfl, rfl⟩
  go_wp2_with fail
  refine (wrong_any _ _ _).mono ?_; rintro e w1 ⟨rfl, hb⟩
  obtain ⟨hc, hf⟩ := bcell hb
  have hz : w.heap.size < w1.heap.size := by have := hb.size; simp at this; omega
  have HB := hdn hb
  clear hb
  go_wp2_with fail
  exact bodyPost_ret (v := .tuple #[.agg #[.int .i64 0, .int .i64 (i : Nat), .string ByteArray.empty, .int .i64 0], .int .i64 (i : Nat), .int .i64 3]) (by simp [results, Tryz.results92, go_sem, hc]) rfl ⟨rfl, below4 HB.out _ _ _ _⟩
 ·have H9 := hdn h9
  have h9' : ¬ (Tx.wend Tx.dgt s i : Int) - i > 9 := by omega
  rw [show Tx.numA s i = Tx.An.good s 2 i (Tx.wend Tx.dgt s i) (Tx.val (s.extract i (Tx.wend Tx.dgt s i)).data.toList) by unfold Tx.numA; rw [if_neg h9]]
  unfold Tx.An.good
  clear h9
  generalize hv : Tx.val (s.extract i (Tx.wend Tx.dgt s i)).data.toList = v
  have hval : ∀ w : World, Calls Tryz.prog 123 #[.string (s.extract i (Tx.wend Tx.dgt s i))] w fun e w' => e = .returned (.int .i64 v) ∧ w = w' := by
   intro w; rw [← hv]; exact numValue_any s i w hi H9.out
  clear hv
  have HV := hdn hval
  clear hval
  go_enter Tryz.func92, Tryz.ntmps92
  go_wp2_with fail
  refine (digitsEnd_any _ _ _ hs hi).mono ?_; rintro e w' ⟨rfl, rfl⟩
  go_wp2_with fail
  refine (right_any _ _ _ _ _ hge hle).mono ?_; rintro e w1 ⟨rfl, hb⟩
  obtain ⟨hc, hf⟩ := bcell hb
  have hz : w.heap.size < w1.heap.size := by have := hb.size; simp at this; omega
  have HB := hdn hb
  clear hb
  go_wp2_with fail
  refine (HV.out _).mono ?_; rintro e w' ⟨rfl, rfl⟩
  go_wp2_with fail
  exact bodyPost_ret (v := .tuple #[.agg #[.int .i64 2, .int .i64 (i : Nat), .string (s.extract i (Tx.wend Tx.dgt s i)), .int .i64 v], .int .i64 (Tx.wend Tx.dgt s i : Nat), .int .i64 0]) (by simp [results, Tryz.results92, go_sem, hc, hz]) rfl ⟨rfl, (below4 HB.out _ _ _ _).alloc (by simp; omega) _⟩
end Go.Proofs.YtdlchhimkelinaaGreatDoor
namespace Go.Proofs.YtdlchhimkelinaaGreatDoor
open Go.RowKit
theorem prAt_list (k : Nat) : (Tx.prAt k).data.toList = Tx.pw.getD k [] := by unfold Tx.prAt; simp
theorem prAt_size (k : Nat) (hk : k < 4) : (Tx.prAt k).size = 2 := by
 match k, hk with
 | 0, _ => rfl
 | 1, _ => rfl
 | 2, _ => rfl
 | 3, _ => rfl
theorem preB_pair (s : ByteArray) (i k : Nat) (a b : UInt8) (h : Tx.pw.getD k [] = [a, b]) : preB s i (Tx.prAt k) = true ↔ ∃ h : i + 1 < s.size, s[i] = a ∧ s[i + 1] = b := by
 unfold preB; rw [prAt_list, h]; exact pre2 s i a b
theorem u8_of (x : UInt8) (n : Nat) (hn : n < 256) (h : (x.toNat : Int) = n) : x = UInt8.ofNat n := by
 apply UInt8.toNat_inj.1; simp; omega
theorem pairs_two (s : ByteArray) (i : Nat) : (∃ k, k < 4 ∧ preB s i (Tx.prAt k) = true) ↔ ∃ h : i + 1 < s.size, Tx.two s[i].toNat s[i + 1].toNat = true := by
 constructor
 ·rintro ⟨k, hk, h⟩
  rcases (show k = 0 ∨ k = 1 ∨ k = 2 ∨ k = 3 by omega) with rfl | rfl | rfl | rfl
  ·obtain ⟨h1, a, b⟩ := (preB_pair s i 0 45 62 rfl).1 h; exact ⟨h1, by rw [a, b]; rfl⟩
  ·obtain ⟨h1, a, b⟩ := (preB_pair s i 1 61 61 rfl).1 h; exact ⟨h1, by rw [a, b]; rfl⟩
  ·obtain ⟨h1, a, b⟩ := (preB_pair s i 2 33 61 rfl).1 h; exact ⟨h1, by rw [a, b]; rfl⟩
  ·obtain ⟨h1, a, b⟩ := (preB_pair s i 3 62 61 rfl).1 h; exact ⟨h1, by rw [a, b]; rfl⟩
 ·rintro ⟨h1, h⟩
  unfold Tx.two at h
  rw [decide_eq_true_iff] at h
  rcases h with ⟨a, b⟩ | ⟨a, b⟩ | ⟨a, b⟩ | ⟨a, b⟩
  ·exact ⟨0, by omega, (preB_pair s i 0 45 62 rfl).2 ⟨h1, u8_of _ 45 (by omega) a, u8_of _ 62 (by omega) b⟩⟩
  ·exact ⟨1, by omega, (preB_pair s i 1 61 61 rfl).2 ⟨h1, u8_of _ 61 (by omega) a, u8_of _ 61 (by omega) b⟩⟩
  ·exact ⟨2, by omega, (preB_pair s i 2 33 61 rfl).2 ⟨h1, u8_of _ 33 (by omega) a, u8_of _ 61 (by omega) b⟩⟩
  ·exact ⟨3, by omega, (preB_pair s i 3 62 61 rfl).2 ⟨h1, u8_of _ 62 (by omega) a, u8_of _ 61 (by omega) b⟩⟩
theorem pair_hit (s : ByteArray) (i k : Nat) (hk : k < 4) (h : preB s i (Tx.prAt k) = true) : Tx.mrk s i = 2 ∧ i + 2 ≤ s.size := by
 obtain ⟨h1, h2⟩ := (pairs_two s i).1 ⟨k, hk, h⟩
 exact ⟨Tx.mrk_two s i h1 h2, by omega⟩
theorem pair_miss (s : ByteArray) (i : Nat) (hi : i < s.size) (h : ∀ k, k < 4 → preB s i (Tx.prAt k) = false) : Tx.mrk s i = if Tx.one s[i].toNat then 1 else 0 := by
 apply Tx.mrk_one s i hi
 intro h1
 rw [Bool.eq_false_iff]
 intro h2
 obtain ⟨k, hk, h3⟩ := (pairs_two s i).2 ⟨h1, h2⟩
 rw [h k hk] at h3
 cases h3
/-- The Marks of one byte. -/
def singles : ByteArray := ⟨#[123, 125, 40, 41, 59, 44, 42, 61, 60, 43, 45, 63]⟩
theorem singles_all : ∀ n : Fin 256, decide (Lib.indexByte singles.data.toList (UInt8.ofNat n.val) < 0) = !Tx.one (n.val : Int) := by decide +kernel
theorem singles_at (x : UInt8) : decide (Lib.indexByte singles.data.toList (x.toNat : Int).toNat.toUInt8 < 0) = !Tx.one (x.toNat : Int) := by
 have h := singles_all ⟨x.toNat, x.toNat_lt⟩
 have e : (x.toNat : Int).toNat.toUInt8 = UInt8.ofNat x.toNat := rfl
 rw [e]; exact h
def singleI (c : Int) : Int := Lib.indexByte singles.data.toList c.toNat.toUInt8
theorem singles_any (c : Int) (w : World) :
  Calls Tryz.prog 124 #[.string singles, .int .u8 c] w fun e w' => e = .returned (.int .i64 (singleI c)) ∧ w = w' := indexByte_any _ _ w
theorem pairs_index : ∀ k : Nat, k < 4 → ∀ w : World, (Instr.index 179 (.agg #[.string (Tx.prAt 0), .string (Tx.prAt 1), .string (Tx.prAt 2), .string (Tx.prAt 3)]) (.int .i64 (k : Int))).run Tryz.prog w = .ok (.string (Tx.prAt k)) w := by
 have x0 : ∀ w : World, (Instr.index 179 (.agg #[.string (Tx.prAt 0), .string (Tx.prAt 1), .string (Tx.prAt 2), .string (Tx.prAt 3)]) (.int .i64 ((0 : Nat) : Int))).run Tryz.prog w = .ok (.string (Tx.prAt 0)) w := fun _ => by kernel_rfl
 have x1 : ∀ w : World, (Instr.index 179 (.agg #[.string (Tx.prAt 0), .string (Tx.prAt 1), .string (Tx.prAt 2), .string (Tx.prAt 3)]) (.int .i64 ((1 : Nat) : Int))).run Tryz.prog w = .ok (.string (Tx.prAt 1)) w := fun _ => by kernel_rfl
 have x2 : ∀ w : World, (Instr.index 179 (.agg #[.string (Tx.prAt 0), .string (Tx.prAt 1), .string (Tx.prAt 2), .string (Tx.prAt 3)]) (.int .i64 ((2 : Nat) : Int))).run Tryz.prog w = .ok (.string (Tx.prAt 2)) w := fun _ => by kernel_rfl
 have x3 : ∀ w : World, (Instr.index 179 (.agg #[.string (Tx.prAt 0), .string (Tx.prAt 1), .string (Tx.prAt 2), .string (Tx.prAt 3)]) (.int .i64 ((3 : Nat) : Int))).run Tryz.prog w = .ok (.string (Tx.prAt 3)) w := fun _ => by kernel_rfl
 intro k hk w
 rcases (show k = 0 ∨ k = 1 ∨ k = 2 ∨ k = 3 by omega) with rfl | rfl | rfl | rfl
 ·exact x0 w
 ·exact x1 w
 ·exact x2 w
 ·exact x3 w
theorem mark_any (s : ByteArray) (i : Nat) (w : World) (hs : s.size ≤ 5000000) (hi : i < s.size) (hg : Gl w) :
  Calls Tryz.prog 93 #[.string s, .int .i64 i] w fun e w' =>
   e = .returned (.tuple #[.agg #[.int .i64 (Tx.markA s i).sg.kind, .int .i64 (Tx.markA s i).sg.pos, .string (Tx.markA s i).sg.text, .int .i64 (Tx.markA s i).sg.num], .int .i64 (Tx.markA s i).stop, .int .i64 (Tx.markA s i).err]) ∧ Below w.heap.size w w' := by
 have c0 := hg.pair 0 (by decide)
 have c1 := hg.pair 1 (by decide)
 have c2 := hg.pair 2 (by decide)
 have c3 := hg.pair 3 (by decide)
 have h1 : 1 < w.heap.size := Nat.lt_of_lt_of_le (by decide) hg.two
 generalize ha : Tx.markA s i = an
 have HA := hdn ha
 clear ha
 go_enter Tryz.func93, Tryz.ntmps93
 go_wp2
 clear c0 c1 c2 c3
 go_loop [10] (fun v => ∃ k : Nat, k ≤ 4 ∧ v = .int .i64 k ∧ Hid (∀ j, j < k → preB s i (Tx.prAt j) = false)) (fun v => 4 - (intOf v).toNat)
 case atStart => exact ⟨0, Nat.zero_le _, rfl, hdn (fun j hj => absurd hj (by omega))⟩
 case round =>
  obtain ⟨k, hk, rfl, HR⟩ := hrel
  by_cases hlt : k < 4
  ·have hx := pairs_index k hlt
   cases hp : preB s i (Tx.prAt k)
   ·have HP := hdn hp
    go_wp2_with (go_at_call 119; refine (prefixFrom_any _ _ _ _).mono ?_; rintro e w' ⟨rfl, rfl⟩)
    go_round
    case rel => exact ⟨k + 1, by omega, by go_num, hdn (fun j hj => by
     rcases Nat.lt_or_ge j k with h | h
     ·exact HR.out j h
     ·obtain rfl : j = k := by omega
      exact HP.out)⟩
    case measure => simp [intOf]; omega
   ·obtain ⟨hm, h2⟩ := pair_hit s i k hlt hp
    have he : an = Tx.An.good s 4 i (i + 2) 0 := by rw [← HA.out]; unfold Tx.markA; rw [hm]; rfl
    replace he := hdn he
    clear hm
    have hz2 := prAt_size k hlt
    go_wp2_with (first | (go_at_call 119; refine (prefixFrom_any _ _ _ _).mono ?_; rintro e w' ⟨rfl, rfl⟩) | (go_at_call 88; refine (right_any 4 s i (i + 2) _ (by omega) h2).mono ?_; rintro e w1 ⟨rfl, hb⟩; obtain ⟨hc, hf⟩ := bcell hb; have hz : w.heap.size < w1.heap.size := (by have := hb.size; simp at this; omega); have HB := hdn hb; clear hb))
    replace he := he.out
    exact bodyPost_ret (v := .tuple #[.agg #[.int .i64 4, .int .i64 (i : Nat), .string (s.extract i (i + 2)), .int .i64 0], .int .i64 (i + 2 : Nat), .int .i64 0]) (by simp [results, Tryz.results93, go_sem, hc]) rfl ⟨by rw [he]; rfl, below4 HB.out _ _ _ _⟩
  ·have hm := pair_miss s i hi (fun j hj => HR.out j (by omega))
   have hq := singles_at s[i]
   cases ho : Tx.one s[i].toNat
   ·rw [ho] at hm hq
    have he : an = Tx.An.bad i 4 := by rw [← HA.out]; unfold Tx.markA; rw [hm]; rfl
    replace he := hdn he
    have hq1 : singleI (s[i].toNat : Int) < 0 := of_decide_eq_true hq
    clear hm hq ho
    go_wp2_with (first | (go_at_call 124; refine (singles_any _ _).mono ?_; rintro e w' ⟨rfl, rfl⟩) | (go_at_call 121; refine (wrong_any _ _ _).mono ?_; rintro e w1 ⟨rfl, hb⟩; obtain ⟨hc, hf⟩ := bcell hb; have hz : w.heap.size < w1.heap.size := (by have := hb.size; simp at this; omega); have HB := hdn hb; clear hb))
    replace he := he.out
    exact bodyPost_ret (v := .tuple #[.agg #[.int .i64 0, .int .i64 (i : Nat), .string ByteArray.empty, .int .i64 0], .int .i64 (i : Nat), .int .i64 4]) (by simp [results, Tryz.results93, go_sem, hc]) rfl ⟨by rw [he]; rfl, below4 HB.out _ _ _ _⟩
   ·rw [ho] at hm hq
    have he : an = Tx.An.good s 4 i (i + 1) 0 := by rw [← HA.out]; unfold Tx.markA; rw [hm]; rfl
    replace he := hdn he
    have hq1 : ¬ singleI (s[i].toNat : Int) < 0 := of_decide_eq_false hq
    clear hm hq ho
    go_wp2_with (first | (go_at_call 124; refine (singles_any _ _).mono ?_; rintro e w' ⟨rfl, rfl⟩) | (go_at_call 88; refine (right_any 4 s i (i + 1) _ (by omega) (by omega)).mono ?_; rintro e w1 ⟨rfl, hb⟩; obtain ⟨hc, hf⟩ := bcell hb; have hz : w.heap.size < w1.heap.size := (by have := hb.size; simp at this; omega); have HB := hdn hb; clear hb))
    replace he := he.out
    exact bodyPost_ret (v := .tuple #[.agg #[.int .i64 4, .int .i64 (i : Nat), .string (s.extract i (i + 1)), .int .i64 0], .int .i64 (i + 1 : Nat), .int .i64 0]) (by simp [results, Tryz.results93, go_sem, hc]) rfl ⟨by rw [he]; rfl, below4 HB.out _ _ _ _⟩
end Go.Proofs.YtdlchhimkelinaaGreatDoor
namespace Go.Proofs.YtdlchhimkelinaaGreatDoor
open Go.RowKit
def sgL : List Int := [123, 125, 40, 41, 59, 44, 42, 61, 60, 43, 45, 63]
def sgAt (k : Nat) : Int := sgL.getD k 0
theorem one_hit (c : Int) (k : Nat) (hk : k < 12) (h : (sgAt k == c) = true) : Tx.one c = true := by
 rw [beq_iff_eq] at h
 subst h
 rcases (show k = 0 ∨ k = 1 ∨ k = 2 ∨ k = 3 ∨ k = 4 ∨ k = 5 ∨ k = 6 ∨ k = 7 ∨ k = 8 ∨ k = 9 ∨ k = 10 ∨ k = 11 by omega) with rfl | rfl | rfl | rfl | rfl | rfl | rfl | rfl | rfl | rfl | rfl | rfl <;> rfl
theorem one_miss (c : Int) (h : ∀ k, k < 12 → (sgAt k == c) = false) : Tx.one c = false := by
 have h' : ∀ k, k < 12 → sgAt k ≠ c := fun k hk e => by have := h k hk; rw [e] at this; simp at this
 have a0 := h' 0 (by decide); have a1 := h' 1 (by decide); have a2 := h' 2 (by decide); have a3 := h' 3 (by decide)
 have a4 := h' 4 (by decide); have a5 := h' 5 (by decide); have a6 := h' 6 (by decide); have a7 := h' 7 (by decide)
 have a8 := h' 8 (by decide); have a9 := h' 9 (by decide); have a10 := h' 10 (by decide); have a11 := h' 11 (by decide)
 simp only [sgAt, sgL, List.getD_cons_zero, List.getD_cons_succ] at a0 a1 a2 a3 a4 a5 a6 a7 a8 a9 a10 a11
 unfold Tx.one
 rw [decide_eq_false_iff_not]
 omega
theorem sg_index : ∀ k : Nat, k < 12 → ∀ w : World, (Instr.index 9 (.string ⟨#[123, 125, 40, 41, 59, 44, 42, 61, 60, 43, 45, 63]⟩) (.int .i64 (k : Int))).run Tryz.prog w = .ok (.int .u8 (sgAt k)) w := by
 have x0 : ∀ w : World, (Instr.index 9 (.string ⟨#[123, 125, 40, 41, 59, 44, 42, 61, 60, 43, 45, 63]⟩) (.int .i64 ((0 : Nat) : Int))).run Tryz.prog w = .ok (.int .u8 (sgAt 0)) w := fun _ => by kernel_rfl
 have x1 : ∀ w : World, (Instr.index 9 (.string ⟨#[123, 125, 40, 41, 59, 44, 42, 61, 60, 43, 45, 63]⟩) (.int .i64 ((1 : Nat) : Int))).run Tryz.prog w = .ok (.int .u8 (sgAt 1)) w := fun _ => by kernel_rfl
 have x2 : ∀ w : World, (Instr.index 9 (.string ⟨#[123, 125, 40, 41, 59, 44, 42, 61, 60, 43, 45, 63]⟩) (.int .i64 ((2 : Nat) : Int))).run Tryz.prog w = .ok (.int .u8 (sgAt 2)) w := fun _ => by kernel_rfl
 have x3 : ∀ w : World, (Instr.index 9 (.string ⟨#[123, 125, 40, 41, 59, 44, 42, 61, 60, 43, 45, 63]⟩) (.int .i64 ((3 : Nat) : Int))).run Tryz.prog w = .ok (.int .u8 (sgAt 3)) w := fun _ => by kernel_rfl
 have x4 : ∀ w : World, (Instr.index 9 (.string ⟨#[123, 125, 40, 41, 59, 44, 42, 61, 60, 43, 45, 63]⟩) (.int .i64 ((4 : Nat) : Int))).run Tryz.prog w = .ok (.int .u8 (sgAt 4)) w := fun _ => by kernel_rfl
 have x5 : ∀ w : World, (Instr.index 9 (.string ⟨#[123, 125, 40, 41, 59, 44, 42, 61, 60, 43, 45, 63]⟩) (.int .i64 ((5 : Nat) : Int))).run Tryz.prog w = .ok (.int .u8 (sgAt 5)) w := fun _ => by kernel_rfl
 have x6 : ∀ w : World, (Instr.index 9 (.string ⟨#[123, 125, 40, 41, 59, 44, 42, 61, 60, 43, 45, 63]⟩) (.int .i64 ((6 : Nat) : Int))).run Tryz.prog w = .ok (.int .u8 (sgAt 6)) w := fun _ => by kernel_rfl
 have x7 : ∀ w : World, (Instr.index 9 (.string ⟨#[123, 125, 40, 41, 59, 44, 42, 61, 60, 43, 45, 63]⟩) (.int .i64 ((7 : Nat) : Int))).run Tryz.prog w = .ok (.int .u8 (sgAt 7)) w := fun _ => by kernel_rfl
 have x8 : ∀ w : World, (Instr.index 9 (.string ⟨#[123, 125, 40, 41, 59, 44, 42, 61, 60, 43, 45, 63]⟩) (.int .i64 ((8 : Nat) : Int))).run Tryz.prog w = .ok (.int .u8 (sgAt 8)) w := fun _ => by kernel_rfl
 have x9 : ∀ w : World, (Instr.index 9 (.string ⟨#[123, 125, 40, 41, 59, 44, 42, 61, 60, 43, 45, 63]⟩) (.int .i64 ((9 : Nat) : Int))).run Tryz.prog w = .ok (.int .u8 (sgAt 9)) w := fun _ => by kernel_rfl
 have x10 : ∀ w : World, (Instr.index 9 (.string ⟨#[123, 125, 40, 41, 59, 44, 42, 61, 60, 43, 45, 63]⟩) (.int .i64 ((10 : Nat) : Int))).run Tryz.prog w = .ok (.int .u8 (sgAt 10)) w := fun _ => by kernel_rfl
 have x11 : ∀ w : World, (Instr.index 9 (.string ⟨#[123, 125, 40, 41, 59, 44, 42, 61, 60, 43, 45, 63]⟩) (.int .i64 ((11 : Nat) : Int))).run Tryz.prog w = .ok (.int .u8 (sgAt 11)) w := fun _ => by kernel_rfl
 intro k hk w
 rcases (show k = 0 ∨ k = 1 ∨ k = 2 ∨ k = 3 ∨ k = 4 ∨ k = 5 ∨ k = 6 ∨ k = 7 ∨ k = 8 ∨ k = 9 ∨ k = 10 ∨ k = 11 by omega) with rfl | rfl | rfl | rfl | rfl | rfl | rfl | rfl | rfl | rfl | rfl | rfl
 ·exact x0 w
 ·exact x1 w
 ·exact x2 w
 ·exact x3 w
 ·exact x4 w
 ·exact x5 w
 ·exact x6 w
 ·exact x7 w
 ·exact x8 w
 ·exact x9 w
 ·exact x10 w
 ·exact x11 w
/-- Two bytes of a text. -/
theorem two_bytes (s : ByteArray) (i : Nat) (h : i + 1 < s.size) : (s.extract i (i + 2)).toList = [s[i], s[i + 1]] := by
 rw [Lib.extract_toList, Tx.drop_at s i (by omega), Tx.drop_at s (i + 1) h]
 rw [show i + 2 - i = 2 by omega]; rfl
theorem bytes_is (s : ByteArray) (i : Nat) (h : i + 1 < s.size) (a b : UInt8) : ((s.extract i (i + 2)).toList == [a, b]) = decide ((s[i].toNat : Int) = a.toNat ∧ (s[i + 1].toNat : Int) = b.toNat) := by
 rw [two_bytes s i h, Bool.eq_iff_iff, beq_iff_eq, decide_eq_true_iff]
 simp only [List.cons.injEq, and_true]
 constructor
 ·rintro ⟨e1, e2⟩; rw [e1, e2]; exact ⟨rfl, rfl⟩
 ·rintro ⟨e1, e2⟩; exact ⟨UInt8.toNat_inj.1 (by omega), UInt8.toNat_inj.1 (by omega)⟩
theorem two_case (s : ByteArray) (i : Nat) (h : i + 1 < s.size) :
  (Tx.two s[i].toNat s[i + 1].toNat = true ∧ (((s.extract i (i + 2)).toList == [45, 62]) = true ∨ (((s.extract i (i + 2)).toList == [45, 62]) = false ∧ ((s.extract i (i + 2)).toList == [61, 61]) = true) ∨
   (((s.extract i (i + 2)).toList == [45, 62]) = false ∧ ((s.extract i (i + 2)).toList == [61, 61]) = false ∧ ((s.extract i (i + 2)).toList == [33, 61]) = true) ∨
   (((s.extract i (i + 2)).toList == [45, 62]) = false ∧ ((s.extract i (i + 2)).toList == [61, 61]) = false ∧ ((s.extract i (i + 2)).toList == [33, 61]) = false ∧ ((s.extract i (i + 2)).toList == [62, 61]) = true))) ∨
  (Tx.two s[i].toNat s[i + 1].toNat = false ∧ ((s.extract i (i + 2)).toList == [45, 62]) = false ∧ ((s.extract i (i + 2)).toList == [61, 61]) = false ∧ ((s.extract i (i + 2)).toList == [33, 61]) = false ∧ ((s.extract i (i + 2)).toList == [62, 61]) = false) := by
 rw [bytes_is s i h 45 62, bytes_is s i h 61 61, bytes_is s i h 33 61, bytes_is s i h 62 61]
 unfold Tx.two
 simp only [decide_eq_true_iff, decide_eq_false_iff_not, show (45 : UInt8).toNat = 45 from rfl, show (62 : UInt8).toNat = 62 from rfl, show (61 : UInt8).toNat = 61 from rfl, show (33 : UInt8).toNat = 33 from rfl]
 omega
theorem refMark_any (s : ByteArray) (i : Nat) (w : World) (hs : s.size ≤ 5000000) (hi : i < s.size) :
  Calls Tryz.prog 129 #[.string s, .int .i64 i] w fun e w' => e = .returned (.int .i64 (Tx.mrk s i)) ∧ ∃ m, w' = w.drewN m := by
 generalize hmm : Tx.mrk s i = mm
 have HMM := hdn hmm
 clear hmm
 by_cases h1 : i + 1 < s.size
 ·rcases two_case s i h1 with ⟨h2, hq⟩ | ⟨h2, q1, q2, q3, q4⟩
  ·have HM := hdn (Tx.mrk_two s i h1 h2)
   clear h2
   rcases hq with q1 | ⟨q1, q2⟩ | ⟨q1, q2, q3⟩ | ⟨q1, q2, q3, q4⟩
   all_goals
    go_enter Tryz.func129, Tryz.ntmps129
    go_wp2_with fail
    go_ret
    exact ⟨lret_int (by rw [← HMM.out, HM.out]; rfl), 0, rfl⟩
  ·have HM := hdn (Tx.mrk_one s i hi (fun _ => h2))
   clear h2
   go_enter Tryz.func129, Tryz.ntmps129
   go_wp2_with fail
   clear q1 q2 q3 q4
   go_loopw [7] (fun v wr => ∃ k : Nat, k ≤ 12 ∧ v = .int .i64 k ∧ (∃ m, wr = w.drewN m) ∧ Hid (∀ j, j < k → (sgAt j == (s[i].toNat : Int)) = false)) (fun v _ => 12 - (Lib.intOf v).toNat)
   case atStart => exact ⟨0, Nat.zero_le _, rfl, ⟨0, rfl⟩, hdn (fun j hj => absurd hj (by omega))⟩
   case round =>
    obtain ⟨k, hk, rfl, ⟨m, rfl⟩, HR⟩ := hrel
    by_cases hlt : k < 12
    ·have hx := sg_index k hlt
     cases he : (sgAt k == (s[i].toNat : Int))
     ·have HE := hdn he
      go_wp2_with fail
      go_quiet (fail)
      go_wp2_with fail
      go_roundw
      case rel => exact ⟨k + 1, by omega, by go_num, ⟨_, rfl⟩, hdn (fun j hj => by
       rcases Nat.lt_or_ge j k with h | h
       ·exact HR.out j h
       ·obtain rfl : j = k := by omega
        exact HE.out)⟩
      case measure => simp [Lib.intOf]; omega
     ·have HE := hdn he
      go_wp2_with fail
      go_quiet (fail)
      go_wp2_with fail
      go_ret
      exact ⟨lret_int (by rw [← HMM.out, HM.out, one_hit _ k hlt HE.out]; rfl), _, World.drewN_drewN _ _ _⟩
    ·go_wp2_with fail
     go_ret
     exact ⟨lret_int (by rw [← HMM.out, HM.out, one_miss _ (fun j hj => HR.out j (by omega))]; rfl), _, rfl⟩
 ·have HM := hdn (Tx.mrk_one s i hi (fun h => absurd h h1))
  go_enter Tryz.func129, Tryz.ntmps129
  go_wp2_with fail
  go_loopw [7] (fun v wr => ∃ k : Nat, k ≤ 12 ∧ v = .int .i64 k ∧ (∃ m, wr = w.drewN m) ∧ Hid (∀ j, j < k → (sgAt j == (s[i].toNat : Int)) = false)) (fun v _ => 12 - (Lib.intOf v).toNat)
  case atStart => exact ⟨0, Nat.zero_le _, rfl, ⟨0, rfl⟩, hdn (fun j hj => absurd hj (by omega))⟩
  case round =>
   obtain ⟨k, hk, rfl, ⟨m, rfl⟩, HR⟩ := hrel
   by_cases hlt : k < 12
   ·have hx := sg_index k hlt
    cases he : (sgAt k == (s[i].toNat : Int))
    ·have HE := hdn he
     go_wp2_with fail
     go_quiet (fail)
     go_wp2_with fail
     go_roundw
     case rel => exact ⟨k + 1, by omega, by go_num, ⟨_, rfl⟩, hdn (fun j hj => by
      rcases Nat.lt_or_ge j k with h | h
      ·exact HR.out j h
      ·obtain rfl : j = k := by omega
       exact HE.out)⟩
     case measure => simp [Lib.intOf]; omega
    ·have HE := hdn he
     go_wp2_with fail
     go_quiet (fail)
     go_wp2_with fail
     go_ret
     exact ⟨lret_int (by rw [← HMM.out, HM.out, one_hit _ k hlt HE.out]; rfl), _, World.drewN_drewN _ _ _⟩
   ·go_wp2_with fail
    go_ret
    exact ⟨lret_int (by rw [← HMM.out, HM.out, one_miss _ (fun j hj => HR.out j (by omega))]; rfl), _, rfl⟩
end Go.Proofs.YtdlchhimkelinaaGreatDoor
namespace Go.Proofs.YtdlchhimkelinaaGreatDoor
open Go.RowKit
theorem Tx.empty_of (s : ByteArray) (h : s.size = 0) : s = ByteArray.empty := ByteArray.size_eq_zero_iff.1 h
/-- A place held from nought to the text's end. -/
def held (s : ByteArray) (i : Int) : Nat := if i < 0 then 0 else if s.size < i then s.size else i.toNat
theorem held_le (s : ByteArray) (i : Int) : held s i ≤ s.size := by unfold held; split; omega; split <;> omega
theorem held_of (s : ByteArray) (k : Nat) (h : k ≤ s.size) : held s k = k := by unfold held; rw [if_neg (by omega), if_neg (by omega)]; rfl
theorem min_max (s : ByteArray) (i : Int) : min (max i 0) (s.size : Int) = (held s i : Nat) := by unfold held; split; omega; split <;> omega
theorem max_min (s : ByteArray) (i : Int) : max 0 (min i (s.size : Int)) = (held s i : Nat) := by unfold held; split; omega; split <;> omega
theorem skipHeld_any (s : ByteArray) (i : Int) (w : World) (hs : s.size ≤ 5000000) :
  Calls Tryz.prog 87 #[.string s, .int .i64 (min (max i 0) (s.size : Int))] w fun e w' => e = .returned (.int .i64 (Tx.skp s (held s i))) ∧ w = w' := by
 rw [min_max]; exact skip_any s _ w hs (held_le s i)
theorem blankHeld_any (s : ByteArray) (i : Int) (w : World) (hs : s.size ≤ 5000000) :
  Calls Tryz.prog 125 #[.string s, .int .i64 (max 0 (min i (s.size : Int)))] w fun e w' => e = .returned (.int .i64 (Tx.skp s (held s i))) ∧ w = w' := by
 rw [max_min]; exact blank_any s _ w hs (held_le s i)
theorem cut_none (s : ByteArray) (k : Nat) : s.extract k k = ByteArray.empty := by
 apply Tx.empty_of; rw [ByteArray.size_extract]; omega
theorem tok_end (s : ByteArray) (k : Nat) (h : ¬ k < s.size) : Tx.tok s k = Tx.An.bad k 0 := by unfold Tx.tok; rw [dif_neg h]
theorem tok_word (s : ByteArray) (k : Nat) (h : k < s.size) (hl : Tx.ltr (s[k].toNat : Int) = true) : Tx.tok s k = Tx.wordA s k := by unfold Tx.tok; rw [dif_pos h, hl]; rfl
theorem tok_num (s : ByteArray) (k : Nat) (h : k < s.size) (hl : Tx.ltr (s[k].toNat : Int) = false) (hd : Tx.dgt (s[k].toNat : Int) = true) : Tx.tok s k = Tx.numA s k := by unfold Tx.tok; rw [dif_pos h, hl, hd]; rfl
theorem tok_mark (s : ByteArray) (k : Nat) (h : k < s.size) (hl : Tx.ltr (s[k].toNat : Int) = false) (hd : Tx.dgt (s[k].toNat : Int) = false) : Tx.tok s k = Tx.markA s k := by unfold Tx.tok; rw [dif_pos h, hl, hd]; rfl
theorem next_any (s : ByteArray) (i : Int) (w : World) (hs : s.size ≤ 5000000) (hg : Gl w) :
  Calls Tryz.prog 48 #[.string s, .int .i64 i] w fun e w' =>
   e = .returned (.tuple #[.agg #[.int .i64 (Tx.nx s (held s i)).sg.kind, .int .i64 (Tx.nx s (held s i)).sg.pos, .string (Tx.nx s (held s i)).sg.text, .int .i64 (Tx.nx s (held s i)).sg.num], .int .i64 (Tx.nx s (held s i)).stop, .int .i64 (Tx.nx s (held s i)).err]) ∧ Below w.heap.size w w' := by
 have hn : Tx.nx s (held s i) = Tx.tok s (Tx.skp s (held s i)) := rfl
 rw [hn]
 clear hn
 have hle := Tx.skp_le s (held s i) (held_le s i)
 have hskip := fun w => skipHeld_any s i w hs
 generalize Tx.skp s (held s i) = k at hle hskip ⊢
 have HS := hdn hskip
 clear hskip
 by_cases hlt : k < s.size
 ·have hz : ((k : Int) == (s.size : Int)) = false := by rw [Bool.eq_false_iff]; intro e; rw [beq_iff_eq] at e; omega
  cases hl : Tx.ltr (s[k].toNat : Int)
  ·cases hd : Tx.dgt (s[k].toNat : Int)
   ·rw [tok_mark s k hlt hl hd]
    go_enter Tryz.func48, Tryz.ntmps48
    go_wp2_with (first | (go_at_call 87; refine (HS.out _).mono ?_; rintro e w' ⟨rfl, rfl⟩) | (go_at_call 89; refine (isLetter_any _ _).mono ?_; rintro e w' ⟨rfl, rfl⟩) | (go_at_call 91; refine (isDigit_any _ _).mono ?_; rintro e w' ⟨rfl, rfl⟩) | (go_at_call 93; refine (mark_any s k _ hs hlt (hg.alloc _)).mono ?_; rintro e w1 ⟨rfl, hb⟩; obtain ⟨hc, hf⟩ := bcell hb; have hz : w.heap.size < w1.heap.size := (by have := hb.size; simp at this; omega); have HB := hdn hb; clear hb))
    exact bodyPost_ret (v := .tuple #[.agg #[.int .i64 (Tx.markA s k).sg.kind, .int .i64 (Tx.markA s k).sg.pos, .string (Tx.markA s k).sg.text, .int .i64 (Tx.markA s k).sg.num], .int .i64 (Tx.markA s k).stop, .int .i64 (Tx.markA s k).err]) (by simp [results, Tryz.results48, go_sem, hc]) rfl ⟨rfl, below4 HB.out _ _ _ _⟩
   ·rw [tok_num s k hlt hl hd]
    go_enter Tryz.func48, Tryz.ntmps48
    go_wp2_with (first | (go_at_call 87; refine (HS.out _).mono ?_; rintro e w' ⟨rfl, rfl⟩) | (go_at_call 89; refine (isLetter_any _ _).mono ?_; rintro e w' ⟨rfl, rfl⟩) | (go_at_call 91; refine (isDigit_any _ _).mono ?_; rintro e w' ⟨rfl, rfl⟩) | (go_at_call 92; refine (number_any s k _ hs hle).mono ?_; rintro e w1 ⟨rfl, hb⟩; obtain ⟨hc, hf⟩ := bcell hb; have hz : w.heap.size < w1.heap.size := (by have := hb.size; simp at this; omega); have HB := hdn hb; clear hb))
    exact bodyPost_ret (v := .tuple #[.agg #[.int .i64 (Tx.numA s k).sg.kind, .int .i64 (Tx.numA s k).sg.pos, .string (Tx.numA s k).sg.text, .int .i64 (Tx.numA s k).sg.num], .int .i64 (Tx.numA s k).stop, .int .i64 (Tx.numA s k).err]) (by simp [results, Tryz.results48, go_sem, hc]) rfl ⟨rfl, below4 HB.out _ _ _ _⟩
  ·rw [tok_word s k hlt hl]
   go_enter Tryz.func48, Tryz.ntmps48
   go_wp2_with (first | (go_at_call 87; refine (HS.out _).mono ?_; rintro e w' ⟨rfl, rfl⟩) | (go_at_call 89; refine (isLetter_any _ _).mono ?_; rintro e w' ⟨rfl, rfl⟩) | (go_at_call 90; refine (word_any s k _ hs hle (hg.alloc _)).mono ?_; rintro e w1 ⟨rfl, hb⟩; obtain ⟨hc, hf⟩ := bcell hb; have hz : w.heap.size < w1.heap.size := (by have := hb.size; simp at this; omega); have HB := hdn hb; clear hb))
   exact bodyPost_ret (v := .tuple #[.agg #[.int .i64 (Tx.wordA s k).sg.kind, .int .i64 (Tx.wordA s k).sg.pos, .string (Tx.wordA s k).sg.text, .int .i64 (Tx.wordA s k).sg.num], .int .i64 (Tx.wordA s k).stop, .int .i64 (Tx.wordA s k).err]) (by simp [results, Tryz.results48, go_sem, hc]) rfl ⟨rfl, below4 HB.out _ _ _ _⟩
 ·rw [tok_end s k hlt]
  unfold Tx.An.bad
  obtain rfl : k = s.size := by omega
  have he := hdn (cut_none s s.size)
  clear hlt hle
  go_enter Tryz.func48, Tryz.ntmps48
  go_wp2_with (first | (go_at_call 87; refine (HS.out _).mono ?_; rintro e w' ⟨rfl, rfl⟩) | (go_at_call 88; refine (right_any 0 s s.size s.size _ (Nat.le_refl _) (Nat.le_refl _)).mono ?_; rintro e w1 ⟨rfl, hb⟩; obtain ⟨hc, hf⟩ := bcell hb; have hz : w.heap.size < w1.heap.size := (by have := hb.size; simp at this; omega); have HB := hdn hb; clear hb))
  exact bodyPost_ret (v := .tuple #[.agg #[.int .i64 0, .int .i64 (s.size : Nat), .string (s.extract s.size s.size), .int .i64 0], .int .i64 (s.size : Nat), .int .i64 0]) (by simp [results, Tryz.results48, go_sem, hc]) rfl ⟨by rw [he.out], below4 HB.out _ _ _ _⟩
end Go.Proofs.YtdlchhimkelinaaGreatDoor
namespace Go.Proofs.YtdlchhimkelinaaGreatDoor
open Go.RowKit
theorem below_two (w : World) (o1 o2 : Obj) (m : Nat) : Below w.heap.size w (((w.alloc o1).alloc o2).drewN m) := by
 have h := ((Below.refl w.heap.size w).alloc (Nat.le_refl _) o1).alloc (by simp) o2
 exact ⟨h.os, h.tape, h.output, h.size, h.block⟩
def Blk (w : World) (g : Nat) (t : TypeId) (cs : Array Value) : Prop := w.heap[g]? = some (.cells cs t (0, 0))
section
variable {w w' : World} {g : Nat} {t : TypeId} {cs : Array Value}
theorem Blk.lt (h : Blk w g t cs) : g < w.heap.size := by
 rcases Nat.lt_or_ge g w.heap.size with hlt | hge
 ·exact hlt
 ·unfold Blk at h; rw [Array.getElem?_eq_none hge] at h; cases h
theorem Blk.cell (h : Blk w g t cs) (i : Nat) : w.cell? ⟨g, i, none⟩ = cs[i]? := cell_of_row w g i cs t (0, 0) h
theorem Blk.frozen (h : Blk w g t cs) (i : Nat) : w.frozen? ⟨g, i, none⟩ = false := by
 unfold Blk at h
 simp [World.frozen?, h]
theorem Blk.new (w : World) (t : TypeId) (cs : Array Value) : Blk (w.alloc (.cells cs t)) w.heap.size t cs := heap_alloc_new w _
theorem Blk.drewN (h : Blk w g t cs) (n : Nat) : Blk (w.drewN n) g t cs := h
theorem Blk.alloc (h : Blk w g t cs) (o : Obj) : Blk (w.alloc o) g t cs := (Below.heap_alloc w o g h.lt).trans h
theorem Blk.set_ (h : Blk w g t cs) (i : Nat) (u : Value) : Blk (w.setCell ⟨g, i, none⟩ u) g t (cs.setIfInBounds i u) := by
 unfold Blk at h ⊢
 simp [World.setCell, Array.getElem?_modify, h]
theorem Blk.far (h : Blk w g t cs) {p : Addr} (hp : g ≠ p.block) (u : Value) : Blk (w.setCell p u) g t cs := (Below.heap_setCell w p u g hp).trans h
theorem Blk.below {B : Nat} (h : Blk w g t cs) (hb : Below B w w') (hg : g < B) : Blk w' g t cs := (hb.block g hg).trans h
end
theorem below_call {w w1 : World} {o1 o2 : Obj} (hb : Below ((w.alloc o1).alloc o2).heap.size ((w.alloc o1).alloc o2) w1) : Below w.heap.size w w1 :=
 (((Below.refl _ _).alloc (Nat.le_refl _) _).alloc (by simp) _).trans (hb.mono (by simp; omega))
theorem wend_all (p : Int → Bool) (s : ByteArray) (i q : Nat) (hi : i ≤ q) (hq : q < Tx.wend p s i) (h : q < s.size) : p (s[q].toNat : Int) = true := by
 apply run_take p (s.data.toList.drop i)
 rw [List.mem_take_iff_getElem]
 unfold Tx.wend at hq
 refine ⟨q - i, ?_, ?_⟩
 ·rw [List.length_drop, Tx.len_eq]; omega
 ·rw [List.getElem_drop]
  simp only [show i + (q - i) = q by omega]
  rfl
/-- What the digits from k up to q say. -/
def valTo (s : ByteArray) (k q : Nat) : Int := Tx.val ((s.data.toList.drop k).take (q - k))
theorem valTo_start (s : ByteArray) (k : Nat) : valTo s k k = 0 := by unfold valTo; rw [Nat.sub_self]; rfl
theorem valTo_step (s : ByteArray) (k q : Nat) (hk : k ≤ q) (h : q < s.size) : valTo s k (q + 1) = valTo s k q * 10 + (s[q].toNat - 48) := by
 unfold valTo
 rw [show q + 1 - k = (q - k) + 1 by omega, List.take_succ_eq_append_getElem (by rw [List.length_drop, Tx.len_eq]; omega)]
 unfold Tx.val
 rw [List.foldl_append, List.getElem_drop]
 simp only [List.foldl_cons, List.foldl_nil, show k + (q - k) = q by omega]
 rw [Int.mul_comm]
 rfl
theorem valTo_end (s : ByteArray) (k j : Nat) : valTo s k j = Tx.val (s.extract k j).data.toList := by unfold valTo; rw [part_list]
theorem valTo_bd (s : ByteArray) (k j q : Nat) (hw : Tx.wend Tx.dgt s k = j) (hj : j ≤ s.size) (h9 : j - k ≤ 9) (hk : k ≤ q) (hq : q ≤ j) : 0 ≤ valTo s k q ∧ valTo s k q < 1000000000 := by
 have h := val_small (s.extract k j) (by rw [← hw]; exact digs_part s k) (by rw [part_size _ _ _ hj]; omega) (q - k) (by rw [part_size _ _ _ hj]; omega)
 rw [part_list, List.take_take, Nat.min_eq_left (by omega)] at h
 exact h
theorem refNext_any (s : ByteArray) (i : Int) (w : World) (hs : s.size ≤ 5000000) :
  Calls Tryz.prog 94 #[.string s, .int .i64 i] w fun e w' =>
   e = .returned (.tuple #[.agg #[.int .i64 (Tx.nx s (held s i)).sg.kind, .int .i64 (Tx.nx s (held s i)).sg.pos, .string (Tx.nx s (held s i)).sg.text, .int .i64 (Tx.nx s (held s i)).sg.num], .int .i64 (Tx.nx s (held s i)).stop, .int .i64 (Tx.nx s (held s i)).err]) ∧ Below w.heap.size w w' := by
 have hn : Tx.nx s (held s i) = Tx.tok s (Tx.skp s (held s i)) := rfl
 rw [hn]
 clear hn
 have hle := Tx.skp_le s (held s i) (held_le s i)
 have hskip := fun w => blankHeld_any s i w hs
 generalize Tx.skp s (held s i) = k at hle hskip ⊢
 have HS := hdn hskip
 clear hskip
 by_cases hlt : k < s.size
 ·have hz : ((k : Int) == (s.size : Int)) = false := by rw [Bool.eq_false_iff]; intro e; rw [beq_iff_eq] at e; omega
  cases hl : Tx.ltr (s[k].toNat : Int)
  ·cases hd : Tx.dgt (s[k].toNat : Int)
   ·rw [tok_mark s k hlt hl hd]
    generalize han : Tx.markA s k = an
    have HAN := hdn han
    clear han
    have hml := Tx.mrk_le s k hlt
    by_cases h0 : Tx.mrk s k = 0
    ·have HE : Hid (an = Tx.An.bad k 4) := hdn (by rw [← HAN.out]; unfold Tx.markA; rw [if_pos h0])
     have hz0 : ((Tx.mrk s k : Int) == 0) = true := by rw [h0]; rfl
     clear h0
     go_enter Tryz.func94, Tryz.ntmps94
     go_wp2_with (first | (go_at_call 125; refine (HS.out _).mono ?_; rintro e w' ⟨rfl, rfl⟩) | (go_at_call 126; refine (letter_any _ _).mono ?_; rintro e w' ⟨rfl, rfl⟩) | (go_at_call 127; refine (digit_any _ _).mono ?_; rintro e w' ⟨rfl, rfl⟩) | (go_at_call 129; refine (refMark_any s k _ hs hlt).mono ?_; rintro e w' ⟨rfl, m, rfl⟩))
     replace HE := HE.out
     exact bodyPost_ret (v := .tuple #[.agg #[.int .i64 0, .int .i64 (k : Nat), .string ByteArray.empty, .int .i64 0], .int .i64 (k : Nat), .int .i64 4]) (by simp [results, Tryz.results94, go_sem]; rfl) rfl ⟨by rw [HE]; rfl, ((((below_two _ _ _ _).setCell (Nat.le_refl _) _).setCell (Nat.le_refl _) _).setCell (Nat.le_refl _) _).setCell (Nat.le_refl _) _⟩
    ·have HE : Hid (an = Tx.An.good s 4 k (k + Tx.mrk s k) 0) := hdn (by rw [← HAN.out]; unfold Tx.markA; rw [if_neg h0])
     have hz0 : ((Tx.mrk s k : Int) == 0) = false := by rw [Bool.eq_false_iff]; intro e; rw [beq_iff_eq] at e; exact h0 (by omega)
     clear h0
     go_enter Tryz.func94, Tryz.ntmps94
     go_wp2_with (first | (go_at_call 125; refine (HS.out _).mono ?_; rintro e w' ⟨rfl, rfl⟩) | (go_at_call 126; refine (letter_any _ _).mono ?_; rintro e w' ⟨rfl, rfl⟩) | (go_at_call 127; refine (digit_any _ _).mono ?_; rintro e w' ⟨rfl, rfl⟩) | (go_at_call 129; refine (refMark_any s k _ hs hlt).mono ?_; rintro e w' ⟨rfl, m, rfl⟩))
     replace HE := HE.out
     exact bodyPost_ret (v := .tuple #[.agg #[.int .i64 4, .int .i64 (k : Nat), .string (s.extract k (k + Tx.mrk s k)), .int .i64 0], .int .i64 ((k : Nat) + (Tx.mrk s k : Nat)), .int .i64 0]) (by simp [results, Tryz.results94, go_sem]) rfl ⟨by rw [HE]; rfl, ((((((below_two _ _ _ _).setCell (Nat.le_succ _) _).setCell (Nat.le_succ _) _).setCell (Nat.le_refl _) _).setCell (Nat.le_refl _) _).setCell (Nat.le_refl _) _).setCell (Nat.le_refl _) _⟩
   ·rw [tok_num s k hlt hl hd]
    generalize han : Tx.numA s k = an
    have HAN := hdn han
    clear han
    go_enter Tryz.func94, Tryz.ntmps94
    go_wp2_with (first | (go_at_call 125; refine (HS.out _).mono ?_; rintro e w' ⟨rfl, rfl⟩) | (go_at_call 126; refine (letter_any _ _).mono ?_; rintro e w' ⟨rfl, rfl⟩) | (go_at_call 127; refine (digit_any _ _).mono ?_; rintro e w' ⟨rfl, rfl⟩))
    clear hl hd hz
    go_loop [8] (fun v => ∃ j : Nat, k ≤ j ∧ j ≤ s.size ∧ v = .int .i64 j ∧ Hid (Tx.wend Tx.dgt s j = Tx.wend Tx.dgt s k)) (fun v => s.size - (intOf v).toNat)
    case atStart => exact ⟨k, Nat.le_refl _, hle, rfl, rfl⟩
    case round =>
     obtain ⟨j, hkj, hj, rfl, HR⟩ := hrel
     by_cases hin : ∃ h : j < s.size, Tx.dgt (s[j].toNat : Int) = true
     ·obtain ⟨hjt, hd⟩ := hin
      have HO := hdn (Tx.wend_in Tx.dgt s j hjt hd)
      go_wp2_with (go_at_call 127; refine (digit_any _ _).mono ?_; rintro e w' ⟨rfl, rfl⟩)
      go_round
      case rel => exact ⟨j + 1, by omega, by omega, by go_num, HO.out.trans HR.out⟩
      case measure => simp [intOf]; omega
     ·have HW : Hid (Tx.wend Tx.dgt s k = j) := hdn (by
       rw [← HR.out]
       by_cases hjt : j < s.size
       ·exact Tx.wend_out Tx.dgt s j hjt (by rw [Bool.eq_false_iff]; intro e; exact hin ⟨hjt, e⟩)
       ·exact Tx.wend_end Tx.dgt s j (by omega))
      have hcase : (∃ h : j < s.size, Tx.dgt (s[j].toNat : Int) = false) ∨ ¬ j < s.size := by
       by_cases hjt : j < s.size
       ·exact .inl ⟨hjt, by rw [Bool.eq_false_iff]; intro e; exact hin ⟨hjt, e⟩⟩
       ·exact .inr hjt
      clear hin HR
      by_cases h9 : 9 < j - k
      ·have HE : Hid (an = Tx.An.bad k 3) := hdn (by rw [← HAN.out]; unfold Tx.numA; rw [HW.out, if_pos h9])
       rcases hcase with ⟨hjt, hd⟩ | hjt
       all_goals
        go_wp2_with (go_at_call 127; refine (digit_any _ _).mono ?_; rintro e w' ⟨rfl, rfl⟩)
        replace HE := HE.out
        exact bodyPost_ret (v := .tuple #[.agg #[.int .i64 0, .int .i64 (k : Nat), .string ByteArray.empty, .int .i64 0], .int .i64 (k : Nat), .int .i64 3]) (by simp [results, Tryz.results94, go_sem]; rfl) rfl ⟨by rw [HE]; rfl, ((Below.refl _ _).alloc (Nat.le_refl _) _).alloc (by simp) _⟩
      ·have HE : Hid (an = Tx.An.good s 2 k j (Tx.val (s.extract k j).data.toList)) := hdn (by rw [← HAN.out]; unfold Tx.numA; rw [HW.out, if_neg h9])
       rcases hcase with ⟨hjt, hd⟩ | hjt
       all_goals
        go_wp2_with (go_at_call 127; refine (digit_any _ _).mono ?_; rintro e w' ⟨rfl, rfl⟩)
        try clear hd
        go_loopw [9] (fun v wr => ∃ q : Nat, k ≤ q ∧ q ≤ j ∧ v = .int .i64 q ∧ Hid (Below w.heap.size w wr) ∧ Hid (Blk wr w.heap.size 72 #[.int .i64 0, .int .i64 0, .string ByteArray.empty, .int .i64 0]) ∧ Hid (Blk wr (w.heap.size + 1) 72 #[.int .i64 2, .int .i64 k, .string (s.extract k j), .int .i64 (valTo s k q)])) (fun v _ => j - (Lib.intOf v).toNat)
        case atStart =>
         refine ⟨k, Nat.le_refl _, hkj, rfl, hdn (((Below.refl _ _).alloc (Nat.le_refl _) _).alloc (by simp) _), hdn ((Blk.new _ _ _).alloc _), hdn ?_⟩
         rw [valTo_start]
         have h := Blk.new (w.alloc (.cells #[.int .i64 0, .int .i64 0, .string ByteArray.empty, .int .i64 0] 72)) 72 #[.int .i64 2, .int .i64 k, .string (s.extract k j), .int .i64 0]
         rw [World.size_alloc] at h
         exact h
        case round =>
         obtain ⟨q, hkq, hqj, rfl, HB, HB1, HB2⟩ := hrel
         have hbd := valTo_bd s k j q HW.out hj (by omega) hkq hqj
         have hv0 := hbd.1
         have hv1 := hbd.2
         clear hbd
         have hsz := HB2.out.lt
         by_cases hqt : q < j
         ·have hdg := wend_all Tx.dgt s k q hkq (by rw [HW.out]; exact hqt) (by omega)
          have hqs : q < s.size := by omega
          have HV := hdn (valTo_step s k q hkq hqs)
          have hd0 : 48 ≤ s[q].toNat := by unfold Tx.dgt at hdg; simp at hdg; omega
          have hd1 : s[q].toNat ≤ 57 := by unfold Tx.dgt at hdg; simp at hdg; omega
          clear hdg
          have hc3 : wr.cell? ⟨w.heap.size + 1, 3, none⟩ = some (.int .i64 (valTo s k q)) := HB2.out.cell 3
          have hf3 : wr.frozen? ⟨w.heap.size + 1, 3, none⟩ = false := HB2.out.frozen 3
          go_wp2_with fail
          go_region
          go_wp2_with fail
          go_roundw
          case rel =>
           refine ⟨q + 1, by omega, by omega, by go_num, hdn ((HB.out.setCell (Nat.le_succ _) _).drew), hdn ?_, hdn ?_⟩
           ·exact HB1.out.far (p := ⟨w.heap.size + 1, 3, none⟩) (Nat.ne_of_lt (Nat.lt_succ_self _)) _
           ·rw [HV.out]; exact HB2.out.set_ 3 _
          case measure => simp [Lib.intOf]; omega
         ·obtain rfl : q = j := by omega
          have HQ := hdn (valTo_end s k q)
          have hc0 : wr.cell? ⟨w.heap.size + 1, 0, none⟩ = some (.int .i64 2) := HB2.out.cell 0
          have hc1 : wr.cell? ⟨w.heap.size + 1, 1, none⟩ = some (.int .i64 k) := HB2.out.cell 1
          have hc2 : wr.cell? ⟨w.heap.size + 1, 2, none⟩ = some (.string (s.extract k q)) := HB2.out.cell 2
          have hc3 : wr.cell? ⟨w.heap.size + 1, 3, none⟩ = some (.int .i64 (valTo s k q)) := HB2.out.cell 3
          have ha0 : wr.cell? ⟨w.heap.size, 0, none⟩ = some (.int .i64 0) := HB1.out.cell 0
          have ha1 : wr.cell? ⟨w.heap.size, 1, none⟩ = some (.int .i64 0) := HB1.out.cell 1
          have ha2 : wr.cell? ⟨w.heap.size, 2, none⟩ = some (.string ByteArray.empty) := HB1.out.cell 2
          have ha3 : wr.cell? ⟨w.heap.size, 3, none⟩ = some (.int .i64 0) := HB1.out.cell 3
          have hf : ∀ o, wr.frozen? ⟨w.heap.size, o, none⟩ = false := HB1.out.frozen
          go_wp2_with fail
          replace HE := HE.out
          rw [← HQ.out] at HE
          exact bodyPost_ret (v := .tuple #[.agg #[.int .i64 2, .int .i64 (k : Nat), .string (s.extract k q), .int .i64 (valTo s k q)], .int .i64 (q : Nat), .int .i64 0]) (by simp [results, Tryz.results94, go_sem, ha0, ha1, ha2, ha3]) rfl ⟨by rw [HE]; rfl, (((HB.out.setCell (Nat.le_refl _) _).setCell (Nat.le_refl _) _).setCell (Nat.le_refl _) _).setCell (Nat.le_refl _) _⟩
  ·rw [tok_word s k hlt hl]
   generalize han : Tx.wordA s k = an
   have HAN := hdn han
   clear han
   go_enter Tryz.func94, Tryz.ntmps94
   go_wp2_with (first | (go_at_call 125; refine (HS.out _).mono ?_; rintro e w' ⟨rfl, rfl⟩) | (go_at_call 126; refine (letter_any _ _).mono ?_; rintro e w' ⟨rfl, rfl⟩))
   clear hl hz
   go_loop [8] (fun v => ∃ j : Nat, k ≤ j ∧ j ≤ s.size ∧ v = .int .i64 j ∧ Hid (Tx.wend Tx.wrd s j = Tx.wend Tx.wrd s k)) (fun v => s.size - (intOf v).toNat)
   case atStart => exact ⟨k, Nat.le_refl _, hle, rfl, rfl⟩
   case round =>
    obtain ⟨j, hkj, hj, rfl, HR⟩ := hrel
    by_cases hin : ∃ h : j < s.size, Tx.wrd (s[j].toNat : Int) = true
    ·obtain ⟨hjt, hw⟩ := hin
     have HO := hdn (Tx.wend_in Tx.wrd s j hjt hw)
     have hw2 : Tx.ltr (s[j].toNat : Int) = true ∨ (Tx.ltr (s[j].toNat : Int) = false ∧ Tx.dgt (s[j].toNat : Int) = true) := by
      unfold Tx.wrd at hw
      cases h1 : Tx.ltr (s[j].toNat : Int)
      ·rw [h1] at hw; exact .inr ⟨rfl, by simpa using hw⟩
      ·exact .inl rfl
     clear hw
     rcases hw2 with h1 | ⟨h1, h2⟩
     all_goals
      go_wp2_with (first | (go_at_call 126; refine (letter_any _ _).mono ?_; rintro e w' ⟨rfl, rfl⟩) | (go_at_call 127; refine (digit_any _ _).mono ?_; rintro e w' ⟨rfl, rfl⟩))
      go_round
      case rel => exact ⟨j + 1, by omega, by omega, by go_num, HO.out.trans HR.out⟩
      case measure => simp [intOf]; omega
    ·have HW : Hid (Tx.wend Tx.wrd s k = j) := hdn (by
      rw [← HR.out]
      by_cases hjt : j < s.size
      ·exact Tx.wend_out Tx.wrd s j hjt (by rw [Bool.eq_false_iff]; intro e; exact hin ⟨hjt, e⟩)
      ·exact Tx.wend_end Tx.wrd s j (by omega))
     have hcase : (∃ h : j < s.size, Tx.ltr (s[j].toNat : Int) = false ∧ Tx.dgt (s[j].toNat : Int) = false) ∨ ¬ j < s.size := by
      by_cases hjt : j < s.size
      ·have hw : Tx.wrd (s[j].toNat : Int) = false := by rw [Bool.eq_false_iff]; intro e; exact hin ⟨hjt, e⟩
       unfold Tx.wrd at hw
       rw [Bool.or_eq_false_iff] at hw
       exact .inl ⟨hjt, hw⟩
      ·exact .inr hjt
     clear hin HR
     by_cases h16 : 16 < j - k
     ·have HE : Hid (an = Tx.An.bad k 3) := hdn (by rw [← HAN.out]; unfold Tx.wordA; rw [HW.out, if_pos h16])
      rcases hcase with ⟨hjt, h1, h2⟩ | hjt
      all_goals
       go_wp2_with (first | (go_at_call 126; refine (letter_any _ _).mono ?_; rintro e w' ⟨rfl, rfl⟩) | (go_at_call 127; refine (digit_any _ _).mono ?_; rintro e w' ⟨rfl, rfl⟩))
       replace HE := HE.out
       exact bodyPost_ret (v := .tuple #[.agg #[.int .i64 0, .int .i64 (k : Nat), .string ByteArray.empty, .int .i64 0], .int .i64 (k : Nat), .int .i64 3]) (by simp [results, Tryz.results94, go_sem]; rfl) rfl ⟨by rw [HE]; rfl, ((Below.refl _ _).alloc (Nat.le_refl _) _).alloc (by simp) _⟩
     ·cases hk : Tx.isKey (s.extract k j)
      ·have HE : Hid (an = Tx.An.good s 1 k j 0) := hdn (by rw [← HAN.out]; unfold Tx.wordA; rw [HW.out, if_neg h16, hk]; rfl)
       rcases hcase with ⟨hjt, h1, h2⟩ | hjt
       all_goals
        go_wp2_with (first | (go_at_call 126; refine (letter_any _ _).mono ?_; rintro e w' ⟨rfl, rfl⟩) | (go_at_call 127; refine (digit_any _ _).mono ?_; rintro e w' ⟨rfl, rfl⟩) | (go_at_call 128; refine (isKeyRef_any _ _).mono ?_; rintro e w1 ⟨rfl, hb⟩; obtain ⟨hc, hf⟩ := bcell hb; have hz1 : w.heap.size + 1 < w1.heap.size := (by have := hb.size; simp at this; omega); have HB := hdn hb; clear hb))
        have hB1 : Blk w1 w.heap.size 72 #[.int .i64 0, .int .i64 0, .string ByteArray.empty, .int .i64 0] := ((Blk.new _ _ _).alloc _).below HB.out (by simp; omega)
        have ha0 : w1.cell? ⟨w.heap.size, 0, none⟩ = some (.int .i64 0) := hB1.cell 0
        have ha1 : w1.cell? ⟨w.heap.size, 1, none⟩ = some (.int .i64 0) := hB1.cell 1
        have ha2 : w1.cell? ⟨w.heap.size, 2, none⟩ = some (.string ByteArray.empty) := hB1.cell 2
        have ha3 : w1.cell? ⟨w.heap.size, 3, none⟩ = some (.int .i64 0) := hB1.cell 3
        replace HE := HE.out
        exact bodyPost_ret (v := .tuple #[.agg #[.int .i64 1, .int .i64 (k : Nat), .string (s.extract k j), .int .i64 0], .int .i64 (j : Nat), .int .i64 0]) (by simp [results, Tryz.results94, go_sem, ha0, ha1, ha2, ha3]) rfl ⟨by rw [HE]; rfl, ((((below_call HB.out).setCell (Nat.le_refl _) _).setCell (Nat.le_refl _) _).setCell (Nat.le_refl _) _).setCell (Nat.le_refl _) _⟩
      ·have HE : Hid (an = Tx.An.good s 3 k j 0) := hdn (by rw [← HAN.out]; unfold Tx.wordA; rw [HW.out, if_neg h16, hk]; rfl)
       rcases hcase with ⟨hjt, h1, h2⟩ | hjt
       all_goals
        go_wp2_with (first | (go_at_call 126; refine (letter_any _ _).mono ?_; rintro e w' ⟨rfl, rfl⟩) | (go_at_call 127; refine (digit_any _ _).mono ?_; rintro e w' ⟨rfl, rfl⟩) | (go_at_call 128; refine (isKeyRef_any _ _).mono ?_; rintro e w1 ⟨rfl, hb⟩; obtain ⟨hc, hf⟩ := bcell hb; have hz1 : w.heap.size + 1 < w1.heap.size := (by have := hb.size; simp at this; omega); have HB := hdn hb; clear hb))
        have hB1 : Blk w1 w.heap.size 72 #[.int .i64 0, .int .i64 0, .string ByteArray.empty, .int .i64 0] := ((Blk.new _ _ _).alloc _).below HB.out (by simp; omega)
        have ha0 : w1.cell? ⟨w.heap.size, 0, none⟩ = some (.int .i64 0) := hB1.cell 0
        have ha1 : w1.cell? ⟨w.heap.size, 1, none⟩ = some (.int .i64 0) := hB1.cell 1
        have ha2 : w1.cell? ⟨w.heap.size, 2, none⟩ = some (.string ByteArray.empty) := hB1.cell 2
        have ha3 : w1.cell? ⟨w.heap.size, 3, none⟩ = some (.int .i64 0) := hB1.cell 3
        replace HE := HE.out
        exact bodyPost_ret (v := .tuple #[.agg #[.int .i64 3, .int .i64 (k : Nat), .string (s.extract k j), .int .i64 0], .int .i64 (j : Nat), .int .i64 0]) (by simp [results, Tryz.results94, go_sem, ha0, ha1, ha2, ha3]) rfl ⟨by rw [HE]; rfl, (((((below_call HB.out).setCell (Nat.le_succ _) _).setCell (Nat.le_refl _) _).setCell (Nat.le_refl _) _).setCell (Nat.le_refl _) _).setCell (Nat.le_refl _) _⟩
 ·rw [tok_end s k hlt]
  unfold Tx.An.bad
  obtain rfl : k = s.size := by omega
  clear hlt hle
  go_enter Tryz.func94, Tryz.ntmps94
  go_wp2_with (go_at_call 125; refine (HS.out _).mono ?_; rintro e w' ⟨rfl, rfl⟩)
  exact bodyPost_ret (v := .tuple #[.agg #[.int .i64 0, .int .i64 (s.size : Nat), .string ByteArray.empty, .int .i64 0], .int .i64 (s.size : Nat), .int .i64 0]) (by simp [results, Tryz.results94, go_sem]; rfl) rfl ⟨rfl, ((Below.refl _ _).alloc (Nat.le_refl _) _).alloc (by simp) _⟩
end Go.Proofs.YtdlchhimkelinaaGreatDoor
namespace Go.Proofs.YtdlchhimkelinaaGreatDoor
namespace Tx
theorem wend_more (p : Int → Bool) (s : ByteArray) (k : Nat) (h : k < s.size) (hp : p (s[k].toNat : Int) = true) : k + 1 ≤ wend p s k := by
 rw [← wend_in p s k h hp]; exact wend_ge p s (k + 1)
theorem tok_stop_le (s : ByteArray) (k : Nat) (hk : k ≤ s.size) : (tok s k).stop ≤ s.size := by
 unfold tok
 split
 ·rename_i h
  split
  ·unfold wordA; split
   ·exact hk
   ·exact wend_le wrd s k hk
  ·split
   ·unfold numA; split
    ·exact hk
    ·exact wend_le dgt s k hk
   ·unfold markA; split
    ·exact hk
    ·exact mrk_le s k h
 ·exact hk
theorem tok_adv (s : ByteArray) (k : Nat) (he : (tok s k).err = 0) (hn : (tok s k).sg.kind ≠ 0) : k < (tok s k).stop := by
 unfold tok at he hn ⊢
 split at hn
 ·rename_i h
  rw [dif_pos h] at he ⊢
  split at hn
  ·rename_i hl
   rw [if_pos hl] at he ⊢
   unfold wordA at he ⊢
   split at he
   ·exact absurd (show (3 : Int) = 0 from he) (by decide)
   ·rename_i h16
    rw [if_neg h16]
    exact wend_more wrd s k h (by unfold wrd; rw [hl]; rfl)
  ·rename_i hl
   rw [if_neg hl] at he ⊢
   split at hn
   ·rename_i hd
    rw [if_pos hd] at he ⊢
    unfold numA at he ⊢
    split at he
    ·exact absurd (show (3 : Int) = 0 from he) (by decide)
    ·rename_i h9
     rw [if_neg h9]
     exact wend_more dgt s k h hd
   ·rename_i hd
    rw [if_neg hd] at he ⊢
    unfold markA at he ⊢
    split at he
    ·exact absurd (show (4 : Int) = 0 from he) (by decide)
    ·rename_i hm
     rw [if_neg hm]
     show k < k + mrk s k
     omega
 ·exact absurd rfl hn
theorem nx_stop_le (s : ByteArray) (i : Nat) (hi : i ≤ s.size) : (nx s i).stop ≤ s.size := tok_stop_le s _ (skp_le s i hi)
theorem nx_adv (s : ByteArray) (i : Nat) (he : (nx s i).err = 0) (hn : (nx s i).sg.kind ≠ 0) : i < (nx s i).stop :=
 Nat.lt_of_le_of_lt (skp_ge s i) (tok_adv s _ he hn)
/-- All signs from i on, behind those that were read. -/
def go : Nat → ByteArray → Nat → List Sg → List Sg × Nat × Int
 | 0, _, _, acc => (acc, 0, 0)
 | f + 1, s, i, acc => if (nx s i).err = 0 then (if (nx s i).sg.kind = 0 then (acc ++ [(nx s i).sg], 0, 0) else go f s (nx s i).stop (acc ++ [(nx s i).sg])) else ([], (nx s i).stop, (nx s i).err)
def alls (s : ByteArray) : List Sg × Nat × Int := if 65536 < s.size then ([], 0, 3) else go (s.size + 1) s 0 []
/-- A sign's cells. -/
def cells (g : Sg) : List Value := [.int .i64 g.kind, .int .i64 g.pos, .string g.text, .int .i64 g.num]
theorem cells_snoc (l : List Sg) (a : Sg) : (l ++ [a]).flatMap cells = l.flatMap cells ++ cells a := by
 rw [List.flatMap_append]; simp
theorem cells_at (l : List Sg) : ∀ (k : Nat) (hk : k < l.length) (j : Nat), j < 4 → (l.flatMap cells)[k * 4 + j]? = (cells l[k])[j]? := by
 induction l with
 | nil => intro k hk; simp at hk
 | cons a l ih =>
  intro k hk j hj
  rw [List.flatMap_cons]
  have h4 : (cells a).length = 4 := rfl
  match k with
  | 0 => rw [List.getElem?_append_left (by omega)]; simp
  | k + 1 =>
   rw [List.getElem?_append_right (by omega), h4, show (k + 1) * 4 + j - 4 = k * 4 + j by omega, ih k (by simpa using hk) j hj]
   simp
end Tx
end Go.Proofs.YtdlchhimkelinaaGreatDoor
namespace Go.Proofs.YtdlchhimkelinaaGreatDoor
open Go.RowKit
def AllPost (T : TypeId) (s : ByteArray) (w : World) (e : Ending) (w' : World) : Prop :=
 ∃ v, e = .returned (.tuple #[v, .int .i64 (Tx.alls s).2.1, .int .i64 (Tx.alls s).2.2]) ∧ w'.ownsRow w.heap.size T 4 v (Tx.alls s).1.length ((Tx.alls s).1.flatMap Tx.cells) ∧ Below w.heap.size w w'
theorem info33 : (Tryz.prog.info? 72).map (fun i => (i.zero, i.size, i.bytes)) = some (some (.agg #[.int .i64 0, .int .i64 0, .string ByteArray.empty, .int .i64 0]), 4, 40) := by kernel_rfl
theorem own_below {w w' : World} {B : Nat} {e : TypeId} {k : Nat} {v : Value} {n : Nat} {xs : List Value} (h : w.ownsRow B e k v n xs) (hb : Below w.heap.size w w') : w'.ownsRow B e k v n xs :=
 h.kept (w' := w') (row := none) ⟨hb.os, hb.tape, hb.output, hb.size, fun i hi _ => hb.block i hi⟩ (by cases v.ownBlock <;> simp)
theorem sign_new (w : World) (o : Obj) (a : Tx.Sg) (T : TypeId) : ∀ j u, (Tx.cells a)[j]? = some u →
  ((w.alloc o).alloc (.cells #[.int .i64 a.kind, .int .i64 a.pos, .string a.text, .int .i64 a.num] T)).cell? ((⟨w.heap.size + 1, 0, none⟩ : Addr).add j) = some u := by
 intro j u hj
 have h := Blk.new (w.alloc o) T #[.int .i64 a.kind, .int .i64 a.pos, .string a.text, .int .i64 a.num]
 rw [World.size_alloc] at h
 rw [show (⟨w.heap.size + 1, 0, none⟩ : Addr).add j = ⟨w.heap.size + 1, j, none⟩ by simp [Addr.add]; intro h; exact h.symm, h.cell j]
 rw [← hj]; simp [Tx.cells]
theorem sign_one (a : Tx.Sg) : ∀ u ∈ Tx.cells a, u.oneCell' = true := by
 intro u hu
 simp only [Tx.cells, List.mem_cons, List.not_mem_nil, or_false] at hu
 rcases hu with rfl | rfl | rfl | rfl <;> rfl
theorem sign_kept {w w3 : World} {v : Value} {a : Tx.Sg} {T : TypeId} {o : Obj} (h : ((w.alloc (.cells #[.int .i64 a.kind, .int .i64 a.pos, .string a.text, .int .i64 a.num] T)).alloc o).grownBy w3 v.ownBlock) (hn : ∀ k, v.ownBlock = some k → k < w.heap.size) :
  w3.cell? ⟨w.heap.size, 0, none⟩ = some (.int .i64 a.kind) := by
 have hB := (Blk.new w T #[.int .i64 a.kind, .int .i64 a.pos, .string a.text, .int .i64 a.num]).alloc o
 have h3 : Blk w3 w.heap.size T #[.int .i64 a.kind, .int .i64 a.pos, .string a.text, .int .i64 a.num] :=
  (h.block w.heap.size (by simp; omega) (fun e => by have := hn _ e.symm; omega)).trans hB
 exact h3.cell 0
theorem refAll_any (s : ByteArray) (w : World) (hs : s.size ≤ 5000000) :
  Calls Tryz.prog 49 #[.string s] w (AllPost 72 s w) := by
 by_cases hl : 65536 < s.size
 ·have HE : Hid (Tx.alls s = ([], 0, 3)) := hdn (by unfold Tx.alls; rw [if_pos hl])
  go_enter Tryz.func49, Tryz.ntmps49
  go_wp2_with fail
  refine bodyPost_ret (results_tmp3 rfl _ _ _) rfl ⟨.slice none 0 0, ?_, ?_, Below.refl _ _⟩
  ·rw [HE.out]; rfl
  ·rw [HE.out]; exact World.ownsRow_nil _ _ _ _
 ·obtain ⟨i0, hi0, hz0, hz1, hz2⟩ := info_parts info33
  have HI := hdn hi0; have HZ0 := hdn hz0; have HZ1 := hdn hz1; have HZ2 := hdn hz2
  clear hi0 hz0 hz1 hz2
  have HA : Hid (Tx.alls s = Tx.go (s.size + 1) s 0 []) := hdn (by unfold Tx.alls; rw [if_neg hl])
  go_enter Tryz.func49, Tryz.ntmps49
  go_wp2_with fail
  clear hl
  go_loopw [5, 6] (fun v i wr => ∃ (at_ f : Nat) (acc : List Tx.Sg), i = .int .i64 at_ ∧ at_ ≤ s.size ∧ s.size < at_ + f ∧ Hid (acc.length ≤ at_) ∧ Hid (Tx.go (s.size + 1) s 0 [] = Tx.go f s at_ acc) ∧ Hid (wr.ownsRow w.heap.size 72 4 v acc.length (acc.flatMap Tx.cells)) ∧ Hid (Below w.heap.size w wr)) (fun _ i _ => s.size - (Lib.intOf i).toNat)
  case atStart => exact ⟨0, s.size + 1, [], rfl, Nat.zero_le _, by omega, hdn (Nat.le_refl _), hdn rfl, hdn (World.ownsRow_nil _ _ _ _), hdn (Below.refl _ _)⟩
  case round =>
   obtain ⟨at_, f, acc, rfl, hat, hf, HL, HR, HO, HB⟩ := hrel
   have hnx := refNext_any s at_ wr hs
   have HST := hdn (Tx.nx_stop_le s at_ hat)
   have HAD := hdn (Tx.nx_adv s at_)
   have HGO : Hid (Tx.go f s at_ acc = if (Tx.nx s at_).err = 0 then (if (Tx.nx s at_).sg.kind = 0 then (acc ++ [(Tx.nx s at_).sg], 0, 0) else Tx.go (f - 1) s (Tx.nx s at_).stop (acc ++ [(Tx.nx s at_).sg])) else ([], (Tx.nx s at_).stop, (Tx.nx s at_).err)) := hdn (by
    obtain ⟨f, rfl⟩ : ∃ g, f = g + 1 := ⟨f - 1, by omega⟩
    rfl)
   rw [held_of s at_ hat] at hnx
   generalize Tx.nx s at_ = a at hnx HST HAD HGO
   have HN := hdn hnx
   clear hnx
   go_wp2_with fail
   refine (HN.out).mono ?_; rintro e w1 ⟨rfl, hb⟩
   have HB1 := hdn hb
   clear hb
   have hz : w.heap.size ≤ w1.heap.size := Nat.le_trans HB.out.size HB1.out.size
   by_cases he : a.err = 0
   ·have he' : (a.err != 0) = false := by rw [he]; rfl
    have HE := hdn he
    clear he
    have HO1 := hdn (own_below HO.out HB1.out)
    have HNE : Hid (∀ k, u5.ownBlock = some k → k < w1.heap.size) := hdn (fun k hk => Nat.lt_of_lt_of_le (HO.out.lt k hk).2 HB1.out.size)
    cases hk0 : (a.sg.kind == 0)
    ·have hkne : a.sg.kind ≠ 0 := by intro e; rw [e] at hk0; cases hk0
     have hadv := HAD.out HE.out hkne
     have hstl := HST.out
     clear hkne
     go_wp2_with (at_builtin; refine wpList_append_own _ rfl (.tmp 24) (.tmp 26) 68 rfl w.heap.size 72 i0 (.agg #[.int .i64 0, .int .i64 0, .string ByteArray.empty, .int .i64 0]) 4 40 Tryz.underlying68 HI.out HZ0.out HZ1.out HZ2.out rfl (by decide) _ acc.length (acc.flatMap Tx.cells) rfl ((HO1.out.alloc _).alloc _) ⟨w1.heap.size + 1, 0, none⟩ 1 1 (Tx.cells a.sg) rfl rfl (sign_new _ _ _ _) (sign_one _) (by have := HL.out; unfold maxLen; omega) (by have := HL.out; omega) (by simp; omega) ?_; intro v' w3 hown' hgrow3 hnil3; have HO3 := hdn hown'; have hcc : w3.cell? ⟨w1.heap.size, 0, none⟩ = some (.int .i64 a.sg.kind) := sign_kept hgrow3 HNE.out; have HB3 : Hid (Below w.heap.size w w3) := hdn ((((HB.out.trans (HB1.out.mono HB.out.size)).alloc hz _).alloc (by simp; omega) _).grown hgrow3 (by simp; omega) (fun q hq => (HO.out.lt q hq).1)); clear hown' hgrow3 hnil3)
     have HCC := hdn hcc
     go_roundw
     case rel =>
      refine ⟨a.stop, f - 1, acc ++ [a.sg], rfl, hstl, by omega, hdn (by have := HL.out; simp; omega), hdn ?_, hdn ?_, hdn ?_⟩
      ·rw [HR.out, HGO.out, if_pos HE.out, if_neg (by intro e; rw [e] at hk0; cases hk0)]
      ·rw [Tx.cells_snoc, List.length_append]; exact HO3.out
      ·exact HB3.out
     case measure => simp [Lib.intOf]; omega
    ·go_wp2_with (at_builtin; refine wpList_append_own _ rfl (.tmp 24) (.tmp 26) 68 rfl w.heap.size 72 i0 (.agg #[.int .i64 0, .int .i64 0, .string ByteArray.empty, .int .i64 0]) 4 40 Tryz.underlying68 HI.out HZ0.out HZ1.out HZ2.out rfl (by decide) _ acc.length (acc.flatMap Tx.cells) rfl ((HO1.out.alloc _).alloc _) ⟨w1.heap.size + 1, 0, none⟩ 1 1 (Tx.cells a.sg) rfl rfl (sign_new _ _ _ _) (sign_one _) (by have := HL.out; unfold maxLen; omega) (by have := HL.out; omega) (by simp; omega) ?_; intro v' w3 hown' hgrow3 hnil3; have HO3 := hdn hown'; have hcc : w3.cell? ⟨w1.heap.size, 0, none⟩ = some (.int .i64 a.sg.kind) := sign_kept hgrow3 HNE.out; have HB3 : Hid (Below w.heap.size w w3) := hdn ((((HB.out.trans (HB1.out.mono HB.out.size)).alloc hz _).alloc (by simp; omega) _).grown hgrow3 (by simp; omega) (fun q hq => (HO.out.lt q hq).1)); clear hown' hgrow3 hnil3)
     refine bodyPost_ret (results_tmp3 rfl _ _ _) rfl ⟨v', ?_, ?_, HB3.out⟩
     ·rw [HA.out, HR.out, HGO.out, if_pos HE.out, if_pos (by rw [beq_iff_eq] at hk0; exact hk0)]; rfl
     ·rw [HA.out, HR.out, HGO.out, if_pos HE.out, if_pos (by rw [beq_iff_eq] at hk0; exact hk0)]
      show World.ownsRow _ _ _ _ _ (acc ++ [a.sg]).length ((acc ++ [a.sg]).flatMap Tx.cells)
      rw [Tx.cells_snoc, List.length_append]; exact HO3.out
   ·have he' : (a.err != 0) = true := by rw [bne_iff_ne]; exact he
    have HE := hdn he
    clear he
    go_wp2_with fail
    refine bodyPost_ret (results_tmp3 rfl _ _ _) rfl ⟨.slice none 0 0, ?_, ?_, ?_⟩
    ·rw [HA.out, HR.out, HGO.out, if_neg HE.out]; rfl
    ·rw [HA.out, HR.out, HGO.out, if_neg HE.out]; exact World.ownsRow_nil _ _ _ _
    ·exact (HB.out.trans (HB1.out.mono HB.out.size)).alloc (Nat.le_trans HB.out.size HB1.out.size) _
end Go.Proofs.YtdlchhimkelinaaGreatDoor
namespace Go.Proofs.YtdlchhimkelinaaGreatDoor
open Go.RowKit Go.Sort
/-! What is left when places and addresses are struck. -/
def Sl.er {α : Type} (f : α → α) (s : Sl α) : Sl α := ⟨none, 0, s.l.map f⟩
def Hp.er (x : Hp) : Hp := ⟨x.name, 0⟩
def Pth.er (x : Pth) : Pth := ⟨x.name, 0, x.hops.er Hp.er⟩
def Tm.er (x : Tm) : Tm := ⟨x.name, x.n, 0⟩
def Vl.er (x : Vl) : Vl := ⟨x.kind, 0, x.path.er, x.type, x.left.er, x.right.er⟩
def Cd.er (x : Cd) : Cd := ⟨x.kind, 0, x.left.er, x.right.er⟩
def Hd.er (x : Hd) : Hd := ⟨x.kind, 0, x.place.er, x.value.er, x.cond.er, x.name, x.args.er Vl.er, x.both⟩
def SL.er : SL → SL
 | .nil => .nil
 | .cons h _ _ t _ _ e r => .cons h.er none 0 t.er none 0 e.er r.er
def Dc.er (x : Dc) : Dc := ⟨x.type, x.name, 0⟩
def Sr.er (x : Sr) : Sr := ⟨x.name, 0, x.fields.er Dc.er⟩
def Pc.er (x : Pc) : Pc := ⟨x.name, 0, 0, x.params.er Dc.er, x.locals_.er Dc.er, none, 0, x.body.er⟩
def Pg.er (x : Pg) : Pg := ⟨x.structs.er Sr.er, x.globals.er Dc.er, x.procs.er Pc.er⟩
theorem sameL_er {α : Type} {f : α → α → Bool} {g : α → α} (h : ∀ a b, f a b = f (g a) (g b)) : ∀ (l m : List α), sameL f l m = sameL f (l.map g) (m.map g)
 | [], [] => rfl
 | a :: l, b :: m => by simp only [sameL, List.map_cons]; rw [h a b, sameL_er h l m]
 | [], _ :: _ => rfl
 | _ :: _, [] => rfl
theorem sameHp_er (a b : Hp) : sameHp a b = sameHp a.er b.er := rfl
theorem samePth_er (a b : Pth) : samePth a b = samePth a.er b.er := by
 simp only [samePth, Pth.er, Sl.er]; rw [sameL_er sameHp_er]
theorem sameTm_er (a b : Tm) : sameTm a b = sameTm a.er b.er := rfl
theorem sameVl_er (a b : Vl) : sameVl a b = sameVl a.er b.er := by
 simp only [sameVl, Vl.er]; rw [samePth_er, sameTm_er a.left, sameTm_er a.right]
theorem sameCd_er (a b : Cd) : sameCd a b = sameCd a.er b.er := by
 simp only [sameCd, Cd.er]; rw [sameVl_er a.left, sameVl_er a.right]
theorem sameHd_er (a b : Hd) : sameHd a b = sameHd a.er b.er := by
 simp only [sameHd, Hd.er, Sl.er]; rw [samePth_er, sameVl_er a.value, sameCd_er, sameL_er sameVl_er]
theorem sameSL_er : ∀ (a b : SL), sameSL a b = sameSL a.er b.er
 | .nil, .nil => rfl
 | .cons h tp tc t ep ec e r, .cons h' tp' tc' t' ep' ec' e' r' => by
  simp only [sameSL, SL.er]; rw [sameHd_er, sameSL_er t t', sameSL_er e e', sameSL_er r r']
 | .nil, .cons _ _ _ _ _ _ _ _ => rfl
 | .cons _ _ _ _ _ _ _ _, .nil => rfl
theorem sameHp_refl (a : Hp) : sameHp a a = true := by simp [sameHp]
theorem samePth_refl (a : Pth) : samePth a a = true := by simp [samePth, sameL_refl _ (fun x _ => sameHp_refl x)]
theorem sameTm_refl (a : Tm) : sameTm a a = true := by simp [sameTm]
theorem sameVl_refl (a : Vl) : sameVl a a = true := by simp [sameVl, samePth_refl, sameTm_refl]
theorem sameCd_refl (a : Cd) : sameCd a a = true := by simp [sameCd, sameVl_refl]
theorem sameHd_refl (a : Hd) : sameHd a a = true := by simp [sameHd, samePth_refl, sameVl_refl, sameCd_refl, sameL_refl _ (fun x _ => sameVl_refl x)]
theorem sameSL_refl : ∀ (a : SL), sameSL a a = true
 | .nil => rfl
 | .cons h tp tc t ep ec e r => by simp only [sameSL]; rw [sameHd_refl, sameSL_refl t, sameSL_refl e, sameSL_refl r]; rfl
/-! No places. -/
/-- Items make a list of statements. -/
def SL.of : List It → SL
 | [] => .nil
 | x :: l => .cons x.h x.tp x.tc x.t x.ep x.ec x.e (SL.of l)
def It.er (x : It) : It := ⟨x.h.er, none, 0, x.t.er, none, 0, x.e.er⟩
/-! Worlds with blocks struck out. -/
/-- The world without the blocks that are struck. -/
def mask (S : Nat → Bool) (w : World) : World := { w with heap := w.heap.mapIdx fun i o => if S i then .cells #[] 0 else o }
/-- What can be read in one world can be read in the other. -/
def Ext (w w' : World) : Prop := ∀ b o v, w.cell? ⟨b, o, none⟩ = some v → w'.cell? ⟨b, o, none⟩ = some v
theorem Ext.refl (w : World) : Ext w w := fun _ _ _ h => h
theorem Ext.trans {a b c : World} (h : Ext a b) (k : Ext b c) : Ext a c := fun _ _ _ x => k _ _ _ (h _ _ _ x)
theorem mask_cell {S : Nat → Bool} {w : World} {b o : Nat} : (mask S w).cell? ⟨b, o, none⟩ = if S b then none else w.cell? ⟨b, o, none⟩ := by
 unfold mask World.cell?
 simp only [Array.getElem?_mapIdx]
 cases hb : w.heap[b]? with
 | none => simp
 | some ob =>
  simp only [Option.map_some]
  by_cases hs : S b = true
  ·simp [hs]
  ·simp [hs]
theorem Ext.mask (S : Nat → Bool) (w : World) : Ext (mask S w) w := fun b o v h => by
 rw [mask_cell] at h
 split at h
 ·cases h
 ·exact h
/-- From one struck world to another. -/
theorem Ext.of_mask {S T : Nat → Bool} {w w' : World} (h : ∀ b, S b = false → b < w.heap.size → T b = false ∧ w'.heap[b]? = w.heap[b]?) : Ext (YtdlchhimkelinaaGreatDoor.mask S w) (YtdlchhimkelinaaGreatDoor.mask T w') := fun b o v hc => by
 rw [mask_cell] at hc ⊢
 split at hc
 ·cases hc
 ·rename_i hs
  have hs' : S b = false := by simpa using hs
  have hlt := World.block_lt_of_cell? w _ hc
  obtain ⟨h1, h2⟩ := h b hs' hlt
  rw [if_neg (by simp [h1])]
  exact (World.cell?_of_block (w := w) h2).trans hc
theorem rangeAt_ext {w w' : World} (h : Ext w w') {b o : Nat} {cs : List Value} (hr : w.rangeAt b o cs) : w'.rangeAt b o cs := fun j v hv => h _ _ _ (hr j v hv)
theorem slLies_ext {α : Type} {w w' : World} {size bytes : Nat} {cells : α → List Value} {R R' : α → Prop} {s : Sl α} (h : Ext w w') (hs : slLies w size bytes cells R s) (hR : ∀ x, R x → R' x) : slLies w' size bytes cells R' s := by
 obtain ⟨hl, hs⟩ := hs
 refine ⟨hl, ?_⟩
 rcases hs with hs | ⟨b, o, hp, hx⟩
 ·exact .inl hs
 ·exact .inr ⟨b, o, hp, fun k x hk => ⟨rangeAt_ext h (hx k x hk).1, hR x (hx k x hk).2⟩⟩
theorem hopsLie_ext {w w' : World} (h : Ext w w') {s : Sl Hp} (hs : hopsLie w s) : hopsLie w' s := slLies_ext h hs (fun _ h => h)
theorem vlLies_ext {w w' : World} (h : Ext w w') {v : Vl} (hs : vlLies w v) : vlLies w' v := hopsLie_ext h hs
theorem argsLie_ext {w w' : World} (h : Ext w w') {s : Sl Vl} (hs : argsLie w s) : argsLie w' s := slLies_ext h hs (fun _ hv => vlLies_ext h hv)
theorem hdLies_ext {w w' : World} (h : Ext w w') {x : Hd} (H : hdLies w x) : hdLies w' x :=
 ⟨hopsLie_ext h H.1, vlLies_ext h H.2.1, vlLies_ext h H.2.2.1, vlLies_ext h H.2.2.2.1, argsLie_ext h H.2.2.2.2.1, H.2.2.2.2.2⟩
theorem lies_ext {w w' : World} (hx : Ext w w') : ∀ (l : SL) (b o : Nat), lies w l b o → lies w' l b o
 | .nil, _, _, _ => trivial
 | .cons h tp tc t ep ec e r, b, o, H => by
  obtain ⟨h1, h2, ⟨l3, h3⟩, ⟨l4, h4⟩, h5⟩ := H
  refine ⟨rangeAt_ext hx h1, hdLies_ext hx h2, ⟨l3, ?_⟩, ⟨l4, ?_⟩, lies_ext hx r b _ h5⟩
  ·rcases h3 with h | ⟨b', o', hp, h⟩
   ·exact .inl h
   ·exact .inr ⟨b', o', hp, lies_ext hx t b' o' h⟩
  ·rcases h4 with h | ⟨b', o', hp, h⟩
   ·exact .inl h
   ·exact .inr ⟨b', o', hp, lies_ext hx e b' o' h⟩
theorem sLies_ext {w w' : World} (hx : Ext w w') {p : Option Addr} {l : SL} (h : sLies w p l) : sLies w' p l := by
 obtain ⟨hl, h⟩ := h
 refine ⟨hl, ?_⟩
 rcases h with h | ⟨b, o, hp, h⟩
 ·exact .inl h
 ·exact .inr ⟨b, o, hp, lies_ext hx l b o h⟩
theorem itLies_ext {w w' : World} (hx : Ext w w') {x : It} (h : itLies w x) : itLies w' x := ⟨hdLies_ext hx h.1, sLies_ext hx h.2.1, sLies_ext hx h.2.2⟩
theorem declsLie_ext {w w' : World} (h : Ext w w') {s : Sl Dc} (hs : declsLie w s) : declsLie w' s := slLies_ext h hs (fun _ h => h)
theorem srsLie_ext {w w' : World} (h : Ext w w') {s : Sl Sr} (hs : srsLie w s) : srsLie w' s := slLies_ext h hs (fun _ hv => declsLie_ext h hv)
theorem pcLies_ext {w w' : World} (h : Ext w w') {x : Pc} (hs : pcLies w x) : pcLies w' x := ⟨declsLie_ext h hs.1, declsLie_ext h hs.2.1, sLies_ext h hs.2.2⟩
theorem pcsLie_ext {w w' : World} (h : Ext w w') {s : Sl Pc} (hs : pcsLie w s) : pcsLie w' s := slLies_ext h hs (fun _ hv => pcLies_ext h hv)
theorem pgLies_ext {w w' : World} (h : Ext w w') {p : Pg} (hs : pgLies w p) : pgLies w' p := ⟨srsLie_ext h hs.1, declsLie_ext h hs.2.1, pcsLie_ext h hs.2.2⟩
/-- The blocks that were there are struck: what lies in the rest is new. -/
def fresh (B : Nat) (w : World) : World := mask (fun b => decide (b < B)) w
theorem fresh_mono {B B' : Nat} (h : B' ≤ B) (w : World) : Ext (fresh B w) (fresh B' w) := Ext.of_mask (fun b hb _ => by
 simp only [decide_eq_false_iff_not] at hb ⊢
 exact ⟨by omega, trivial⟩)
theorem fresh_below {B : Nat} {w w' : World} (h : Below w.heap.size w w') : Ext (fresh B w) (fresh B w') := Ext.of_mask (fun b hb hlt => ⟨hb, h.block b hlt⟩)
end Go.Proofs.YtdlchhimkelinaaGreatDoor
namespace Go.Proofs.YtdlchhimkelinaaGreatDoor
open Go.RowKit Go.Sort
theorem below_drew {B : Nat} {w w' : World} (h : Below B w w') : Below B w w'.drew := below_drewN_ h 1
/-- A block that is the call's own, whole. -/
def Bk (w : World) (g : Nat) (t : TypeId) (cs : Array Value) : Prop := w.heap[g]? = some (.cells cs t (0, 0))
theorem Bk.set_ {w : World} {g : Nat} {t : TypeId} {cs : Array Value} (h : Bk w g t cs) (i : Nat) (u : Value) : Bk (w.setCell ⟨g, i, none⟩ u) g t (cs.setIfInBounds i u) := by
 unfold Bk at h ⊢
 simp [World.setCell, Array.getElem?_modify, h]
theorem Bk.far {w : World} {g : Nat} {t : TypeId} {cs : Array Value} (h : Bk w g t cs) {p : Addr} (hp : g ≠ p.block) (u : Value) : Bk (w.setCell p u) g t cs := (Below.heap_setCell w p u g hp).trans h
theorem Bk.cell {w : World} {g : Nat} {t : TypeId} {cs : Array Value} (h : Bk w g t cs) (i : Nat) : w.cell? ⟨g, i, none⟩ = cs[i]? := cell_of_row w g i cs t (0, 0) h
theorem grownBy_setC (w : World) (a : Addr) (v : Value) : w.grownBy (w.setCell a v) (some a.block) :=
 ⟨rfl, rfl, rfl, by simp [World.setCell], fun i _ hne => Below.heap_setCell w a v i (fun e => hne (by rw [e]))⟩
theorem Bk.frozen {w : World} {g : Nat} {t : TypeId} {cs : Array Value} (h : Bk w g t cs) (i : Nat) : w.frozen? ⟨g, i, none⟩ = false := frozen_of_row w g i cs t h
theorem Bk.below {B : Nat} {w w' : World} {g : Nat} {t : TypeId} {cs : Array Value} (h : Bk w g t cs) (hb : Below B w w') (hg : g < B) : Bk w' g t cs := (hb.block g hg).trans h
end Go.Proofs.YtdlchhimkelinaaGreatDoor
namespace Go.Proofs.YtdlchhimkelinaaGreatDoor
open Go.RowKit Go.Sort
/-- The signs of a text that was read to its end: just the last one is the End, which has no text. -/
structure Good (l : List Tx.Sg) : Prop where
 fin : ∀ k x, l[k]? = some x → (x.kind = 0 ↔ k + 1 = l.length)
 none : ∀ k x, l[k]? = some x → k + 1 = l.length → x.text = ByteArray.empty
 len : l.length ≤ 6000000
/-- The parser in block pb, its signs in block sb. -/
structure PS (w : World) (pb sb cap : Nat) (l : List Tx.Sg) (i : Nat) (o b : Int) : Prop where
 blk : Bk w pb 123 #[.slice (some ⟨sb, 0, Option.none⟩) l.length cap, .int .i64 i, .int .i64 o, .int .i64 b]
 row : ∀ k x, l[k]? = some x → w.rangeAt sb (k * 4) [.int .i64 x.kind, .int .i64 x.pos, .string x.text, .int .i64 x.num]
 ne : sb ≠ pb
 lt : i < l.length
theorem PS.below {w w' : World} {pb sb cap : Nat} {l : List Tx.Sg} {i : Nat} {o b : Int} (h : PS w pb sb cap l i o b) (hb : Below w.heap.size w w') : PS w' pb sb cap l i o b :=
 ⟨h.blk.below hb (Array.getElem?_eq_some_iff.1 h.blk).1, fun k x hx => rangeAt_below (h.row k x hx) hb, h.ne, h.lt⟩
theorem PS.pb_lt {w : World} {pb sb cap : Nat} {l : List Tx.Sg} {i : Nat} {o b : Int} (h : PS w pb sb cap l i o b) : pb < w.heap.size := (Array.getElem?_eq_some_iff.1 h.blk).1
/-- The sign that comes next. -/
theorem PS.sign {w : World} {pb sb cap : Nat} {l : List Tx.Sg} {i : Nat} {o b : Int} (h : PS w pb sb cap l i o b) {x : Tx.Sg} (hx : l[i]? = some x) :
  w.cell? ⟨sb, i * 4, none⟩ = some (.int .i64 x.kind) ∧ w.cell? ⟨sb, i * 4 + 1, none⟩ = some (.int .i64 x.pos) ∧ w.cell? ⟨sb, i * 4 + 2, none⟩ = some (.string x.text) ∧ w.cell? ⟨sb, i * 4 + 3, none⟩ = some (.int .i64 x.num) := by
 have hr := h.row i x hx
 exact ⟨by have := cell_at hr 0 _ rfl; rwa [Nat.add_zero] at this, cell_at hr 1 _ rfl, cell_at hr 2 _ rfl, cell_at hr 3 _ rfl⟩
theorem ahead_any (x : Tx.Sg) {pb sb cap : Nat} {l : List Tx.Sg} {i : Nat} {o b : Int} (w : World) (h : PS w pb sb cap l i o b) (hg : Good l) (hx : l[i]? = some x) :
  Calls Tryz.prog 58 #[.pointer (some ⟨pb, 0, none⟩)] w fun e w' => e = .returned (.agg #[.int .i64 x.kind, .int .i64 x.pos, .string x.text, .int .i64 x.num]) ∧ Below w.heap.size w w' := by
 have hl : l.length ≤ 6000000 := hg.len
 have hi : i < l.length := h.lt
 obtain ⟨wA, hwA⟩ : ∃ wA : World, wA = w.alloc (.cells #[.int .i64 0, .int .i64 0, .string ByteArray.empty, .int .i64 0] 106) := ⟨_, rfl⟩
 have hn : Below w.heap.size w wA := by rw [hwA]; exact (Below.refl _ _).alloc (Nat.le_refl _) _
 have hk : Bk wA w.heap.size 106 #[.int .i64 0, .int .i64 0, .string ByteArray.empty, .int .i64 0] := by rw [hwA]; exact heap_alloc_new _ _
 have hb := (h.below hn).blk
 have p0 : wA.cell? ⟨pb, 0, none⟩ = some (.slice (some ⟨sb, 0, none⟩) l.length cap) := hb.cell 0
 have p1 : wA.cell? ⟨pb, 1, none⟩ = some (.int .i64 i) := hb.cell 1
 obtain ⟨c0, c1, c2, c3⟩ := (h.below hn).sign hx
 have z0 : wA.cell? ⟨w.heap.size, 0, none⟩ = some (.int .i64 0) := hk.cell 0
 have z1 : wA.cell? ⟨w.heap.size, 1, none⟩ = some (.int .i64 0) := hk.cell 1
 have z2 : wA.cell? ⟨w.heap.size, 2, none⟩ = some (.string ByteArray.empty) := hk.cell 2
 have z3 : wA.cell? ⟨w.heap.size, 3, none⟩ = some (.int .i64 0) := hk.cell 3
 have f0 := hk.frozen 0
 have f1 := hk.frozen 1
 have f2 := hk.frozen 2
 have f3 := hk.frozen 3
 have hi0 : (0 : Int) ≤ (i : Int) := Int.natCast_nonneg _
 have hi1 : (i : Int) < (l.length : Int) := by omega
 have HN := hdn hn
 have HK := hdn hk
 clear h hx hg hn hb hk
 go_enter Tryz.func58, Tryz.ntmps58
 go_wp2_with fail
 change Code.wp _ _ _ _ (w.alloc (.cells #[.int .i64 0, .int .i64 0, .string ByteArray.empty, .int .i64 0] 106))
 rw [← hwA]
 clear hwA
 go_region
 go_wp2_with fail
 have hB : Bk ((((wA.setCell ⟨w.heap.size, 0, none⟩ (.int .i64 x.kind)).setCell ⟨w.heap.size, 1, none⟩ (.int .i64 x.pos)).setCell ⟨w.heap.size, 2, none⟩ (.string x.text)).setCell ⟨w.heap.size, 3, none⟩ (.int .i64 x.num)).drew w.heap.size 106 #[.int .i64 x.kind, .int .i64 x.pos, .string x.text, .int .i64 x.num] := ((((HK.out).set_ 0 _).set_ 1 _).set_ 2 _).set_ 3 _
 have hW := below_drew (((((HN.out).setCell (p := ⟨w.heap.size, 0, none⟩) (Nat.le_refl _) (.int .i64 x.kind)).setCell (p := ⟨w.heap.size, 1, none⟩) (Nat.le_refl _) (.int .i64 x.pos)).setCell (p := ⟨w.heap.size, 2, none⟩) (Nat.le_refl _) (.string x.text)).setCell (p := ⟨w.heap.size, 3, none⟩) (Nat.le_refl _) (.int .i64 x.num))
 generalize ((((wA.setCell ⟨w.heap.size, 0, none⟩ (.int .i64 x.kind)).setCell ⟨w.heap.size, 1, none⟩ (.int .i64 x.pos)).setCell ⟨w.heap.size, 2, none⟩ (.string x.text)).setCell ⟨w.heap.size, 3, none⟩ (.int .i64 x.num)).drew = w4 at hB hW ⊢
 have e0 := hB.cell 0
 have e1 := hB.cell 1
 have e2 := hB.cell 2
 have e3 := hB.cell 3
 exact bodyPost_ret (v := .agg #[.int .i64 x.kind, .int .i64 x.pos, .string x.text, .int .i64 x.num]) (by simp [results, Tryz.results58, go_sem, e0, e1, e2, e3]) rfl ⟨rfl, hW⟩
theorem field79_0 (k : Int) (b c d : Value) (w : World) : (Instr.field 106 (.agg #[.int .i64 k, b, c, d]) 0).run Tryz.prog w = .ok (.int .i64 k) w := by kernel_rfl
theorem field79_1 (k : Int) (a c d : Value) (w : World) : (Instr.field 106 (.agg #[a, .int .i64 k, c, d]) 1).run Tryz.prog w = .ok (.int .i64 k) w := by kernel_rfl
theorem field79_2 (s : ByteArray) (a b d : Value) (w : World) : (Instr.field 106 (.agg #[a, b, .string s, d]) 2).run Tryz.prog w = .ok (.string s) w := by kernel_rfl
theorem field79_3 (k : Int) (a b c : Value) (w : World) : (Instr.field 106 (.agg #[a, b, c, .int .i64 k]) 3).run Tryz.prog w = .ok (.int .i64 k) w := by kernel_rfl
attribute [local go_sem] field79_0 field79_1 field79_2 field79_3
theorem stands_any (x : Tx.Sg) (s : ByteArray) {pb sb cap : Nat} {l : List Tx.Sg} {i : Nat} {o b : Int} (w : World) (h : PS w pb sb cap l i o b) (hg : Good l) (hx : l[i]? = some x) :
  Calls Tryz.prog 136 #[.pointer (some ⟨pb, 0, none⟩), .string s] w fun e w' => e = .returned (.bool (x.text.toList == s.toList)) ∧ Below w.heap.size w w' := by
 have HA := hdn (ahead_any x w h hg hx)
 clear h hg hx
 go_enter Tryz.func136, Tryz.ntmps136
 go_wp2_with fail
 refine (HA.out).mono ?_; rintro en w1 ⟨rfl, hb⟩
 have HB := hdn hb
 clear hb
 go_wp2_with fail
 go_ret
 exact ⟨rfl, HB.out⟩
end Go.Proofs.YtdlchhimkelinaaGreatDoor
namespace Go.Proofs.YtdlchhimkelinaaGreatDoor
open Go.RowKit Go.Sort
attribute [local go_sem] field79_0 field79_1 field79_2 field79_3
/-- What the parser panics with. -/
def faultAt (p err : Int) : Ending := .panicked [{ v := .iface 120 (.agg #[.int .i64 p, .int .i64 err]), recovered := false }]
theorem Good.more {l : List Tx.Sg} (hg : Good l) {i : Nat} {x : Tx.Sg} (hx : l[i]? = some x) (hk : x.kind ≠ 0) : i + 1 < l.length := by
 have hi := (List.getElem?_eq_some_iff.1 hx).1
 have : ¬ i + 1 = l.length := fun e => hk ((hg.fin i x hx).2 e)
 omega
theorem Good.kind {l : List Tx.Sg} (hg : Good l) {i : Nat} {x : Tx.Sg} {s : ByteArray} (hx : l[i]? = some x) (ht : (x.text.toList == s.toList) = true) (hs : s.toList.length ≠ 0) : x.kind ≠ 0 := fun h0 => by
 have h1 := (hg.fin i x hx).1 h0
 have h2 := hg.none i x hx h1
 rw [h2, beq_iff_eq] at ht
 rw [← ht] at hs
 exact hs (by rw [Lib.toList_data]; rfl)
/-- The parser goes one sign further. -/
theorem PS.step {w : World} {pb sb cap : Nat} {l : List Tx.Sg} {i : Nat} {o b : Int} (h : PS w pb sb cap l i o b) (hi : i + 1 < l.length) : PS (w.setCell ⟨pb, 1, none⟩ (.int .i64 ((i + 1 : Nat) : Int))) pb sb cap l (i + 1) o b :=
 ⟨h.blk.set_ 1 _, fun k x hx j v hv => (World.cell?_setCell_other _ _ _ _ (by intro e; injection e with e; exact h.ne e.symm)).trans (h.row k x hx j v hv), h.ne, hi⟩
theorem PS.far {w w' : World} {pb sb cap g : Nat} {l : List Tx.Sg} {i : Nat} {o b : Int} (h : PS w pb sb cap l i o b) (hb : w.grownBy w' (some g)) (h1 : g ≠ pb) (h2 : g ≠ sb) : PS w' pb sb cap l i o b :=
 ⟨(hb.block pb h.pb_lt (by intro e; injection e with e; exact h1 e.symm)).trans h.blk, fun k x hx j v hv => hb.cell (h.row k x hx j v hv) (by intro e; injection e with e; exact h2 e.symm), h.ne, h.lt⟩
theorem PS.sb_lt {w : World} {pb sb cap : Nat} {l : List Tx.Sg} {i : Nat} {o b : Int} (h : PS w pb sb cap l i o b) : sb < w.heap.size := by
 have hi := h.lt
 have := World.block_lt_of_cell? w _ (h.row i l[i] (List.getElem?_eq_getElem hi) 0 _ rfl)
 exact this
theorem grownBy_tr {a b c : World} {r : Option Nat} (h : a.grownBy b r) (k : b.grownBy c r) : a.grownBy c r :=
 ⟨k.os.trans h.os, k.tape.trans h.tape, k.output.trans h.output, Nat.le_trans h.size k.size, fun i hi hne => (k.block i (Nat.lt_of_lt_of_le hi h.size) hne).trans (h.block i hi hne)⟩
theorem take_any (x : Tx.Sg) {pb sb cap : Nat} {l : List Tx.Sg} {i : Nat} {o b : Int} (w : World) (h : PS w pb sb cap l i o b) (hg : Good l) (hx : l[i]? = some x) (hk : x.kind ≠ 0) :
  Calls Tryz.prog 137 #[.pointer (some ⟨pb, 0, none⟩)] w fun e w' => e = .returned (.agg #[.int .i64 x.kind, .int .i64 x.pos, .string x.text, .int .i64 x.num]) ∧ PS w' pb sb cap l (i + 1) o b ∧ w.grownBy w' (some pb) := by
 have hl : l.length ≤ 6000000 := hg.len
 have hi : i + 1 < l.length := hg.more hx hk
 have hn : Below w.heap.size w (w.alloc (.cells #[.int .i64 0, .int .i64 0, .string ByteArray.empty, .int .i64 0] 106)) := (Below.refl _ _).alloc (Nat.le_refl _) _
 have hk0 : Bk (w.alloc (.cells #[.int .i64 0, .int .i64 0, .string ByteArray.empty, .int .i64 0] 106)) w.heap.size 106 #[.int .i64 0, .int .i64 0, .string ByteArray.empty, .int .i64 0] := heap_alloc_new _ _
 have HP0 := hdn (h.below hn)
 have HA := hdn (ahead_any x _ (h.below hn) hg hx)
 have HN := hdn hn; have HK := hdn hk0
 have HNE : Hid (w.heap.size ≠ pb ∧ w.heap.size ≠ sb) := hdn ⟨fun e => by have := h.pb_lt; omega, fun e => by have := h.sb_lt; omega⟩
 have HZ : Hid ((w.alloc (.cells #[.int .i64 0, .int .i64 0, .string ByteArray.empty, .int .i64 0] 106)).heap.size = w.heap.size + 1) := hdn (by simp)
 have HI := hdn hi
 clear h hg hx hk hn hk0
 go_enter Tryz.func137, Tryz.ntmps137
 go_wp2_with fail
 refine (HA.out).mono ?_; rintro en w1 ⟨rfl, hb⟩
 generalize w.alloc (.cells #[.int .i64 0, .int .i64 0, .string ByteArray.empty, .int .i64 0] 106) = wA at HP0 HA HN HK HZ hb
 have HW1 : Hid (Below w.heap.size w w1) := hdn (HN.out.trans (hb.mono HN.out.size))
 have HK1 := hdn (HK.out.below hb (by rw [HZ.out]; omega))
 have HP1 := hdn (HP0.out.below hb)
 clear hb
 go_upto_region 2 with fail
 have hm : Below w1.heap.size w1 (w1.alloc (.cells #[.int .i64 x.kind, .int .i64 x.pos, .string x.text, .int .i64 x.num] 106)) := (Below.refl _ _).alloc (Nat.le_refl _) _
 have HP2 := hdn (HP1.out.below hm)
 have HKR := hdn (HK1.out.below hm (Array.getElem?_eq_some_iff.1 HK1.out).1)
 have HKT : Hid (Bk (w1.alloc (.cells #[.int .i64 x.kind, .int .i64 x.pos, .string x.text, .int .i64 x.num] 106)) w1.heap.size 106 #[.int .i64 x.kind, .int .i64 x.pos, .string x.text, .int .i64 x.num]) := hdn (heap_alloc_new _ _)
 have HW2 : Hid (Below w.heap.size w (w1.alloc (.cells #[.int .i64 x.kind, .int .i64 x.pos, .string x.text, .int .i64 x.num] 106))) := hdn (HW1.out.trans (hm.mono HW1.out.size))
 have HTP : Hid (w1.heap.size ≠ pb ∧ w1.heap.size ≠ w.heap.size) := hdn ⟨fun e => by have := HP1.out.pb_lt; omega, fun e => by have := (Array.getElem?_eq_some_iff.1 HK1.out).1; omega⟩
 clear hm
 obtain ⟨T, hT⟩ : ∃ T, T = w1.heap.size := ⟨_, rfl⟩
 rw [← hT] at HKT HTP ⊢
 clear hT
 generalize w1.alloc (.cells #[.int .i64 x.kind, .int .i64 x.pos, .string x.text, .int .i64 x.num] 106) = w2 at HP2 HKR HKT HW2 ⊢
 have p1 : w2.cell? ⟨pb, 1, none⟩ = some (.int .i64 i) := HP2.out.blk.cell 1
 have g1 := HP2.out.blk.frozen 1
 go_upto_region 3 with fail
 have hgb := grownBy_setC w2 ⟨pb, 1, none⟩ (.int .i64 ((i + 1 : Nat) : Int))
 have HP3 : Hid (PS (w2.setCell ⟨pb, 1, none⟩ (.int .i64 ((i : Int) + 1))) pb sb cap l (i + 1) o b) := hdn (HP2.out.step HI.out)
 have HG3 : Hid (w.grownBy (w2.setCell ⟨pb, 1, none⟩ (.int .i64 ((i : Int) + 1))) (some pb)) := hdn ⟨hgb.os.trans HW2.out.os, hgb.tape.trans HW2.out.tape, hgb.output.trans HW2.out.output, Nat.le_trans HW2.out.size hgb.size, fun k hk hne => (hgb.block k (Nat.lt_of_lt_of_le hk HW2.out.size) hne).trans (HW2.out.block k hk)⟩
 have HKR3 : Hid (Bk (w2.setCell ⟨pb, 1, none⟩ (.int .i64 ((i : Int) + 1))) w.heap.size 106 #[.int .i64 0, .int .i64 0, .string ByteArray.empty, .int .i64 0]) := hdn (HKR.out.far (p := ⟨pb, 1, none⟩) HNE.out.1 _)
 have HKT3 : Hid (Bk (w2.setCell ⟨pb, 1, none⟩ (.int .i64 ((i : Int) + 1))) T 106 #[.int .i64 x.kind, .int .i64 x.pos, .string x.text, .int .i64 x.num]) := hdn (HKT.out.far (p := ⟨pb, 1, none⟩) HTP.out.1 _)
 clear hgb p1 g1
 generalize w2.setCell ⟨pb, 1, none⟩ (.int .i64 ((i : Int) + 1)) = w3 at HP3 HG3 HKR3 HKT3 ⊢
 have t0 : w3.cell? ⟨T, 0, none⟩ = some (.int .i64 x.kind) := HKT3.out.cell 0
 have t1 : w3.cell? ⟨T, 1, none⟩ = some (.int .i64 x.pos) := HKT3.out.cell 1
 have t2 : w3.cell? ⟨T, 2, none⟩ = some (.string x.text) := HKT3.out.cell 2
 have t3 : w3.cell? ⟨T, 3, none⟩ = some (.int .i64 x.num) := HKT3.out.cell 3
 have r0 : w3.cell? ⟨w.heap.size, 0, none⟩ = some (.int .i64 0) := HKR3.out.cell 0
 have r1 : w3.cell? ⟨w.heap.size, 1, none⟩ = some (.int .i64 0) := HKR3.out.cell 1
 have r2 : w3.cell? ⟨w.heap.size, 2, none⟩ = some (.string ByteArray.empty) := HKR3.out.cell 2
 have r3 : w3.cell? ⟨w.heap.size, 3, none⟩ = some (.int .i64 0) := HKR3.out.cell 3
 have f0 := HKR3.out.frozen 0
 have f1 := HKR3.out.frozen 1
 have f2 := HKR3.out.frozen 2
 have f3 := HKR3.out.frozen 3
 go_wp2_with fail
 clear t0 t1 t2 t3 r0 r1 r2 r3 f0 f1 f2 f3
 have hB : Bk ((((w3.setCell ⟨w.heap.size, 0, none⟩ (.int .i64 x.kind)).setCell ⟨w.heap.size, 1, none⟩ (.int .i64 x.pos)).setCell ⟨w.heap.size, 2, none⟩ (.string x.text)).setCell ⟨w.heap.size, 3, none⟩ (.int .i64 x.num)) w.heap.size 106 #[.int .i64 x.kind, .int .i64 x.pos, .string x.text, .int .i64 x.num] := (((HKR3.out.set_ 0 _).set_ 1 _).set_ 2 _).set_ 3 _
 have hF : w3.grownBy ((((w3.setCell ⟨w.heap.size, 0, none⟩ (.int .i64 x.kind)).setCell ⟨w.heap.size, 1, none⟩ (.int .i64 x.pos)).setCell ⟨w.heap.size, 2, none⟩ (.string x.text)).setCell ⟨w.heap.size, 3, none⟩ (.int .i64 x.num)) (some w.heap.size) := grownBy_tr (grownBy_tr (grownBy_tr (grownBy_setC _ ⟨w.heap.size, 0, none⟩ _) (grownBy_setC _ ⟨w.heap.size, 1, none⟩ _)) (grownBy_setC _ ⟨w.heap.size, 2, none⟩ _)) (grownBy_setC _ ⟨w.heap.size, 3, none⟩ _)
 generalize (((w3.setCell ⟨w.heap.size, 0, none⟩ (.int .i64 x.kind)).setCell ⟨w.heap.size, 1, none⟩ (.int .i64 x.pos)).setCell ⟨w.heap.size, 2, none⟩ (.string x.text)).setCell ⟨w.heap.size, 3, none⟩ (.int .i64 x.num) = w4 at hB hF ⊢
 have e0 := hB.cell 0
 have e1 := hB.cell 1
 have e2 := hB.cell 2
 have e3 := hB.cell 3
 exact bodyPost_ret (v := .agg #[.int .i64 x.kind, .int .i64 x.pos, .string x.text, .int .i64 x.num]) (by simp [results, Tryz.results137, go_sem, e0, e1, e2, e3]) rfl ⟨rfl, HP3.out.far hF HNE.out.1 HNE.out.2, ⟨hF.os.trans HG3.out.os, hF.tape.trans HG3.out.tape, hF.output.trans HG3.out.output, Nat.le_trans HG3.out.size hF.size, fun k hk hne => (hF.block k (Nat.lt_of_lt_of_le hk HG3.out.size) (by intro e; injection e with e; omega)).trans (HG3.out.block k hk hne)⟩⟩
end Go.Proofs.YtdlchhimkelinaaGreatDoor
namespace Go.Proofs.YtdlchhimkelinaaGreatDoor
open Go.RowKit Go.Sort
attribute [local go_sem] field79_0 field79_1 field79_2 field79_3
theorem grownBy_of {a b : World} (h : Below a.heap.size a b) (r : Option Nat) : a.grownBy b r := ⟨h.os, h.tape, h.output, h.size, fun i hi _ => h.block i hi⟩
theorem below_grown {a b c : World} {r : Option Nat} (h : Below a.heap.size a b) (k : b.grownBy c r) : a.grownBy c r := grownBy_tr (grownBy_of h r) k
section
variable {pb sb cap : Nat} {l : List Tx.Sg} {i : Nat} {o b : Int}
/-- The end of a call that hands back a sign through a result of its own. -/
theorem sign_result {w2 : World} {x : Tx.Sg} {R : Nat} (hk : Bk w2 R 106 #[.int .i64 0, .int .i64 0, .string ByteArray.empty, .int .i64 0]) :
  Bk ((((w2.setCell ⟨R, 0, none⟩ (.int .i64 x.kind)).setCell ⟨R, 1, none⟩ (.int .i64 x.pos)).setCell ⟨R, 2, none⟩ (.string x.text)).setCell ⟨R, 3, none⟩ (.int .i64 x.num)) R 106 #[.int .i64 x.kind, .int .i64 x.pos, .string x.text, .int .i64 x.num] ∧
  w2.grownBy ((((w2.setCell ⟨R, 0, none⟩ (.int .i64 x.kind)).setCell ⟨R, 1, none⟩ (.int .i64 x.pos)).setCell ⟨R, 2, none⟩ (.string x.text)).setCell ⟨R, 3, none⟩ (.int .i64 x.num)) (some R) :=
 ⟨(((hk.set_ 0 _).set_ 1 _).set_ 2 _).set_ 3 _, grownBy_tr (grownBy_tr (grownBy_tr (grownBy_setC _ ⟨R, 0, none⟩ _) (grownBy_setC _ ⟨R, 1, none⟩ _)) (grownBy_setC _ ⟨R, 2, none⟩ _)) (grownBy_setC _ ⟨R, 3, none⟩ _)⟩
theorem grownBy_own {w wA w2 w4 : World} {pb : Nat} (h1 : Below w.heap.size w wA) (h2 : wA.grownBy w2 (some pb)) (h3 : w2.grownBy w4 (some w.heap.size)) : w.grownBy w4 (some pb) :=
 ⟨h3.os.trans (h2.os.trans h1.os), h3.tape.trans (h2.tape.trans h1.tape), h3.output.trans (h2.output.trans h1.output), Nat.le_trans h1.size (Nat.le_trans h2.size h3.size), fun k hk hne =>
  (h3.block k (Nat.lt_of_lt_of_le hk (Nat.le_trans h1.size h2.size)) (by intro e; injection e with e; omega)).trans ((h2.block k (Nat.lt_of_lt_of_le hk h1.size) hne).trans (h1.block k hk))⟩
theorem must_yes (x : Tx.Sg) (s : ByteArray) (w : World) (h : PS w pb sb cap l i o b) (hg : Good l) (hx : l[i]? = some x) (ht : (x.text.toList == s.toList) = true) (hs : s.toList.length ≠ 0) :
  Calls Tryz.prog 98 #[.pointer (some ⟨pb, 0, none⟩), .string s] w fun e w' => e = .returned (.agg #[.int .i64 x.kind, .int .i64 x.pos, .string x.text, .int .i64 x.num]) ∧ PS w' pb sb cap l (i + 1) o b ∧ w.grownBy w' (some pb) := by
 have hn : Below w.heap.size w (w.alloc (.cells #[.int .i64 0, .int .i64 0, .string ByteArray.empty, .int .i64 0] 106)) := (Below.refl _ _).alloc (Nat.le_refl _) _
 have HK : Hid (Bk (w.alloc (.cells #[.int .i64 0, .int .i64 0, .string ByteArray.empty, .int .i64 0] 106)) w.heap.size 106 #[.int .i64 0, .int .i64 0, .string ByteArray.empty, .int .i64 0]) := hdn (heap_alloc_new _ _)
 have HZ : Hid ((w.alloc (.cells #[.int .i64 0, .int .i64 0, .string ByteArray.empty, .int .i64 0] 106)).heap.size = w.heap.size + 1) := hdn (by simp)
 have HNE : Hid (w.heap.size ≠ pb ∧ w.heap.size ≠ sb) := hdn ⟨fun e => by have := h.pb_lt; omega, fun e => by have := h.sb_lt; omega⟩
 have HN := hdn hn
 have hp := h.below hn
 generalize hwA : w.alloc (.cells #[.int .i64 0, .int .i64 0, .string ByteArray.empty, .int .i64 0] 106) = wA at HK HZ HN hp
 have HA : Hid (Calls Tryz.prog 136 #[.pointer (some ⟨pb, 0, none⟩), .string s] wA fun e w' => e = .returned (.bool true) ∧ Below wA.heap.size wA w') := hdn ((stands_any x s wA hp hg hx).mono fun e w' ⟨h1, h2⟩ => ⟨by rw [h1, ht], h2⟩)
 have HT : Hid (∀ w', Below wA.heap.size wA w' → Calls Tryz.prog 137 #[.pointer (some ⟨pb, 0, none⟩)] w' fun e w'' => e = .returned (.agg #[.int .i64 x.kind, .int .i64 x.pos, .string x.text, .int .i64 x.num]) ∧ PS w'' pb sb cap l (i + 1) o b ∧ w'.grownBy w'' (some pb)) := hdn (fun w' hb => take_any x w' (hp.below hb) hg hx (hg.kind hx ht hs))
 clear h hg hx ht hs hp hn
 go_enter Tryz.func98, Tryz.ntmps98
 go_wp2_with fail
 rw [show w.alloc (.cells #[.int .i64 0, .int .i64 0, .string ⟨#[]⟩, .int .i64 0] 106) = wA from hwA]
 clear hwA
 refine (HA.out).mono ?_; rintro en w1 ⟨rfl, hb⟩
 have HB := hdn hb
 clear hb
 go_wp2_with fail
 refine (HT.out w1 HB.out).mono ?_; rintro en w2 ⟨rfl, h2, h3⟩
 have H2 := hdn h2; have H3 := hdn (below_grown HB.out h3)
 have HK2 : Hid (Bk w2 w.heap.size 106 #[.int .i64 0, .int .i64 0, .string ByteArray.empty, .int .i64 0]) := hdn ((H3.out.block _ (by rw [HZ.out]; omega) (by intro e; injection e with e; exact HNE.out.1 e)).trans HK.out)
 clear h2 h3
 have r0 : w2.cell? ⟨w.heap.size, 0, none⟩ = some (.int .i64 0) := HK2.out.cell 0
 have r1 : w2.cell? ⟨w.heap.size, 1, none⟩ = some (.int .i64 0) := HK2.out.cell 1
 have r2 : w2.cell? ⟨w.heap.size, 2, none⟩ = some (.string ByteArray.empty) := HK2.out.cell 2
 have r3 : w2.cell? ⟨w.heap.size, 3, none⟩ = some (.int .i64 0) := HK2.out.cell 3
 have f0 := HK2.out.frozen 0
 have f1 := HK2.out.frozen 1
 have f2 := HK2.out.frozen 2
 have f3 := HK2.out.frozen 3
 go_wp2_with fail
 clear r0 r1 r2 r3 f0 f1 f2 f3
 obtain ⟨hB, hF⟩ := sign_result (x := x) HK2.out
 generalize (((w2.setCell ⟨w.heap.size, 0, none⟩ (.int .i64 x.kind)).setCell ⟨w.heap.size, 1, none⟩ (.int .i64 x.pos)).setCell ⟨w.heap.size, 2, none⟩ (.string x.text)).setCell ⟨w.heap.size, 3, none⟩ (.int .i64 x.num) = w4 at hB hF ⊢
 have e0 := hB.cell 0
 have e1 := hB.cell 1
 have e2 := hB.cell 2
 have e3 := hB.cell 3
 exact bodyPost_ret (v := .agg #[.int .i64 x.kind, .int .i64 x.pos, .string x.text, .int .i64 x.num]) (by simp [results, Tryz.results98, go_sem, e0, e1, e2, e3]) rfl ⟨rfl, H2.out.far hF HNE.out.1 HNE.out.2, grownBy_own HN.out H3.out hF⟩
end
end Go.Proofs.YtdlchhimkelinaaGreatDoor
