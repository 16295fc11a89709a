/-
  DERIVED. The walk of 'the sign that comes next': the document's.
-/
import Derived.Test.YtlpnkllhpienhaaDoorNextP
namespace Go.Proofs.YtlpnkllhpienhaaDoor
open Go.RowKit

theorem below_two (w : World) (o1 o2 : Obj) (m : Nat) : Below w.heap.size w (((w.alloc o1).alloc o2).drewN m) := by
  have h := ((Below.refl w.heap.size w).alloc (Nat.le_refl _) o1).alloc (by simp) o2
  exact ⟨h.os, h.tape, h.output, h.size, h.block⟩

def Blk (w : World) (g : Nat) (t : TypeId) (cs : Array Value) : Prop := w.heap[g]? = some (.cells cs t (0, 0))
section
variable {w w' : World} {g : Nat} {t : TypeId} {cs : Array Value}
theorem Blk.lt (h : Blk w g t cs) : g < w.heap.size := by
  rcases Nat.lt_or_ge g w.heap.size with hlt | hge
  · exact hlt
  · unfold Blk at h; rw [Array.getElem?_eq_none hge] at h; cases h
theorem Blk.cell (h : Blk w g t cs) (i : Nat) : w.cell? ⟨g, i, none⟩ = cs[i]? := cell_of_row w g i cs t (0, 0) h
theorem Blk.frozen (h : Blk w g t cs) (i : Nat) : w.frozen? ⟨g, i, none⟩ = false := by
  unfold Blk at h
  simp [World.frozen?, h]
theorem Blk.new (w : World) (t : TypeId) (cs : Array Value) : Blk (w.alloc (.cells cs t)) w.heap.size t cs := heap_alloc_new w _
theorem Blk.drewN (h : Blk w g t cs) (n : Nat) : Blk (w.drewN n) g t cs := h
theorem Blk.alloc (h : Blk w g t cs) (o : Obj) : Blk (w.alloc o) g t cs := (Below.heap_alloc w o g h.lt).trans h
theorem Blk.set_ (h : Blk w g t cs) (i : Nat) (u : Value) : Blk (w.setCell ⟨g, i, none⟩ u) g t (cs.setIfInBounds i u) := by
  unfold Blk at h ⊢
  simp [World.setCell, Array.getElem?_modify, h]
theorem Blk.far (h : Blk w g t cs) {p : Addr} (hp : g ≠ p.block) (u : Value) : Blk (w.setCell p u) g t cs := (Below.heap_setCell w p u g hp).trans h
theorem Blk.below {B : Nat} (h : Blk w g t cs) (hb : Below B w w') (hg : g < B) : Blk w' g t cs := (hb.block g hg).trans h
end
theorem below_drewN {B : Nat} {a w : World} (h : Below B a w) (n : Nat) : Below B a (w.drewN n) := ⟨h.os, h.tape, h.output, h.size, h.block⟩

theorem below_call {w w1 : World} {o1 o2 : Obj} (hb : Below ((w.alloc o1).alloc o2).heap.size ((w.alloc o1).alloc o2) w1) : Below w.heap.size w w1 :=
  (((Below.refl _ _).alloc (Nat.le_refl _) _).alloc (by simp) _).trans (hb.mono (by simp; omega))
theorem wend_all (p : Int → Bool) (s : ByteArray) (i q : Nat) (hi : i ≤ q) (hq : q < Tx.wend p s i) (h : q < s.size) : p (s[q].toNat : Int) = true := by
  apply run_take p (s.data.toList.drop i)
  rw [List.mem_take_iff_getElem]
  unfold Tx.wend at hq
  refine ⟨q - i, ?_, ?_⟩
  · rw [List.length_drop, Tx.len_eq]; omega
  · rw [List.getElem_drop]
    simp only [show i + (q - i) = q by omega]
    rfl
/-- What the digits from k up to q say. -/
def valTo (s : ByteArray) (k q : Nat) : Int := Tx.val ((s.data.toList.drop k).take (q - k))
theorem valTo_start (s : ByteArray) (k : Nat) : valTo s k k = 0 := by unfold valTo; rw [Nat.sub_self]; rfl
theorem valTo_step (s : ByteArray) (k q : Nat) (hk : k ≤ q) (h : q < s.size) : valTo s k (q + 1) = valTo s k q * 10 + (s[q].toNat - 48) := by
  unfold valTo
  rw [show q + 1 - k = (q - k) + 1 by omega, List.take_succ_eq_append_getElem (by rw [List.length_drop, Tx.len_eq]; omega)]
  unfold Tx.val
  rw [List.foldl_append, List.getElem_drop]
  simp only [List.foldl_cons, List.foldl_nil, show k + (q - k) = q by omega]
  rw [Int.mul_comm]
  rfl
theorem valTo_end (s : ByteArray) (k j : Nat) : valTo s k j = Tx.val (s.extract k j).data.toList := by unfold valTo; rw [part_list]
theorem valTo_bd (s : ByteArray) (k j q : Nat) (hw : Tx.wend Tx.dgt s k = j) (hj : j ≤ s.size) (h9 : j - k ≤ 9) (hk : k ≤ q) (hq : q ≤ j) : 0 ≤ valTo s k q ∧ valTo s k q < 1000000000 := by
  have h := val_small (s.extract k j) (by rw [← hw]; exact digs_part s k) (by rw [part_size _ _ _ hj]; omega) (q - k) (by rw [part_size _ _ _ hj]; omega)
  rw [part_list, List.take_take, Nat.min_eq_left (by omega)] at h
  exact h

set_option maxHeartbeats 1600000 in
set_option maxRecDepth 100000 in
theorem refNext_any (s : ByteArray) (i : Int) (w : World) (hs : s.size ≤ 5000000) :
    Calls Tryd.prog 9 #[.string s, .int .i64 i] w fun e w' =>
      e = .returned (.tuple #[.agg #[.int .i64 (Tx.nx s (held s i)).sg.kind, .int .i64 (Tx.nx s (held s i)).sg.pos, .string (Tx.nx s (held s i)).sg.text, .int .i64 (Tx.nx s (held s i)).sg.num], .int .i64 (Tx.nx s (held s i)).stop, .int .i64 (Tx.nx s (held s i)).err]) ∧ Below w.heap.size w w' := by
  have hn : Tx.nx s (held s i) = Tx.tok s (Tx.skp s (held s i)) := rfl
  rw [hn]
  clear hn
  have hle := Tx.skp_le s (held s i) (held_le s i)
  have hskip := fun w => blankHeld_any s i w hs
  generalize Tx.skp s (held s i) = k at hle hskip ⊢
  have HS := Lib.hid hskip
  clear hskip
  by_cases hlt : k < s.size
  · have hz : ((k : Int) == (s.size : Int)) = false := by rw [Bool.eq_false_iff]; intro e; rw [beq_iff_eq] at e; omega
    cases hl : Tx.ltr (s[k].toNat : Int)
    · cases hd : Tx.dgt (s[k].toNat : Int)
      · rw [tok_mark s k hlt hl hd]
        generalize han : Tx.markA s k = an
        have HAN := Lib.hid han
        clear han
        have hml := Tx.mrk_le s k hlt
        by_cases h0 : Tx.mrk s k = 0
        · have HE : Hid (an = Tx.An.bad k 4) := Lib.hid (by rw [← HAN.out]; unfold Tx.markA; rw [if_pos h0])
          have hz0 : ((Tx.mrk s k : Int) == 0) = true := by rw [h0]; rfl
          clear h0
          go_enter Tryd.func9, Tryd.ntmps9
          go_wp2_with (first | (go_at_call 16; refine (HS.out _).mono ?_; rintro e w' ⟨rfl, rfl⟩) | (go_at_call 17; refine (letter_any _ _).mono ?_; rintro e w' ⟨rfl, rfl⟩) | (go_at_call 18; refine (digit_any _ _).mono ?_; rintro e w' ⟨rfl, rfl⟩) | (go_at_call 20; refine (refMark_any s k _ hs hlt).mono ?_; rintro e w' ⟨rfl, m, rfl⟩))
          replace HE := HE.out
          exact bodyPost_ret (v := .tuple #[.agg #[.int .i64 0, .int .i64 (k : Nat), .string ByteArray.empty, .int .i64 0], .int .i64 (k : Nat), .int .i64 4]) (by simp [results, Tryd.results9, go_sem]; rfl) rfl ⟨by rw [HE]; rfl, ((((below_two _ _ _ _).setCell (Nat.le_refl _) _).setCell (Nat.le_refl _) _).setCell (Nat.le_refl _) _).setCell (Nat.le_refl _) _⟩
        · have HE : Hid (an = Tx.An.good s 4 k (k + Tx.mrk s k) 0) := Lib.hid (by rw [← HAN.out]; unfold Tx.markA; rw [if_neg h0])
          have hz0 : ((Tx.mrk s k : Int) == 0) = false := by rw [Bool.eq_false_iff]; intro e; rw [beq_iff_eq] at e; exact h0 (by omega)
          clear h0
          go_enter Tryd.func9, Tryd.ntmps9
          go_wp2_with (first | (go_at_call 16; refine (HS.out _).mono ?_; rintro e w' ⟨rfl, rfl⟩) | (go_at_call 17; refine (letter_any _ _).mono ?_; rintro e w' ⟨rfl, rfl⟩) | (go_at_call 18; refine (digit_any _ _).mono ?_; rintro e w' ⟨rfl, rfl⟩) | (go_at_call 20; refine (refMark_any s k _ hs hlt).mono ?_; rintro e w' ⟨rfl, m, rfl⟩))
          replace HE := HE.out
          exact bodyPost_ret (v := .tuple #[.agg #[.int .i64 4, .int .i64 (k : Nat), .string (s.extract k (k + Tx.mrk s k)), .int .i64 0], .int .i64 ((k : Nat) + (Tx.mrk s k : Nat)), .int .i64 0]) (by simp [results, Tryd.results9, go_sem]) rfl ⟨by rw [HE]; rfl, ((((((below_two _ _ _ _).setCell (Nat.le_succ _) _).setCell (Nat.le_succ _) _).setCell (Nat.le_refl _) _).setCell (Nat.le_refl _) _).setCell (Nat.le_refl _) _).setCell (Nat.le_refl _) _⟩
      · rw [tok_num s k hlt hl hd]
        generalize han : Tx.numA s k = an
        have HAN := Lib.hid han
        clear han
        go_enter Tryd.func9, Tryd.ntmps9
        go_wp2_with (first | (go_at_call 16; refine (HS.out _).mono ?_; rintro e w' ⟨rfl, rfl⟩) | (go_at_call 17; refine (letter_any _ _).mono ?_; rintro e w' ⟨rfl, rfl⟩) | (go_at_call 18; refine (digit_any _ _).mono ?_; rintro e w' ⟨rfl, rfl⟩))
        clear hl hd hz
        go_loop [8] (fun v => ∃ j : Nat, k ≤ j ∧ j ≤ s.size ∧ v = .int .i64 j ∧ Hid (Tx.wend Tx.dgt s j = Tx.wend Tx.dgt s k)) (fun v => s.size - (intOf v).toNat)
        case atStart => exact ⟨k, Nat.le_refl _, hle, rfl, rfl⟩
        case round =>
          obtain ⟨j, hkj, hj, rfl, HR⟩ := hrel
          by_cases hin : ∃ h : j < s.size, Tx.dgt (s[j].toNat : Int) = true
          · obtain ⟨hjt, hd⟩ := hin
            have HO := Lib.hid (Tx.wend_in Tx.dgt s j hjt hd)
            go_wp2_with (go_at_call 18; refine (digit_any _ _).mono ?_; rintro e w' ⟨rfl, rfl⟩)
            go_round
            case rel => exact ⟨j + 1, by omega, by omega, by go_num, HO.out.trans HR.out⟩
            case measure => simp [intOf]; omega
          · have HW : Hid (Tx.wend Tx.dgt s k = j) := Lib.hid (by
              rw [← HR.out]
              by_cases hjt : j < s.size
              · exact Tx.wend_out Tx.dgt s j hjt (by rw [Bool.eq_false_iff]; intro e; exact hin ⟨hjt, e⟩)
              · exact Tx.wend_end Tx.dgt s j (by omega))
            have hcase : (∃ h : j < s.size, Tx.dgt (s[j].toNat : Int) = false) ∨ ¬ j < s.size := by
              by_cases hjt : j < s.size
              · exact .inl ⟨hjt, by rw [Bool.eq_false_iff]; intro e; exact hin ⟨hjt, e⟩⟩
              · exact .inr hjt
            clear hin HR
            by_cases h9 : 9 < j - k
            · have HE : Hid (an = Tx.An.bad k 3) := Lib.hid (by rw [← HAN.out]; unfold Tx.numA; rw [HW.out, if_pos h9])
              rcases hcase with ⟨hjt, hd⟩ | hjt
              all_goals
                go_wp2_with (go_at_call 18; refine (digit_any _ _).mono ?_; rintro e w' ⟨rfl, rfl⟩)
                replace HE := HE.out
                exact bodyPost_ret (v := .tuple #[.agg #[.int .i64 0, .int .i64 (k : Nat), .string ByteArray.empty, .int .i64 0], .int .i64 (k : Nat), .int .i64 3]) (by simp [results, Tryd.results9, go_sem]; rfl) rfl ⟨by rw [HE]; rfl, ((Below.refl _ _).alloc (Nat.le_refl _) _).alloc (by simp) _⟩
            · have HE : Hid (an = Tx.An.good s 2 k j (Tx.val (s.extract k j).data.toList)) := Lib.hid (by rw [← HAN.out]; unfold Tx.numA; rw [HW.out, if_neg h9])
              rcases hcase with ⟨hjt, hd⟩ | hjt
              all_goals
                go_wp2_with (go_at_call 18; refine (digit_any _ _).mono ?_; rintro e w' ⟨rfl, rfl⟩)
                try clear hd
                go_loopw [9] (fun v wr => ∃ q : Nat, k ≤ q ∧ q ≤ j ∧ v = .int .i64 q ∧ Hid (Below w.heap.size w wr) ∧ Hid (Blk wr w.heap.size 28 #[.int .i64 0, .int .i64 0, .string ByteArray.empty, .int .i64 0]) ∧ Hid (Blk wr (w.heap.size + 1) 28 #[.int .i64 2, .int .i64 k, .string (s.extract k j), .int .i64 (valTo s k q)])) (fun v _ => j - (Lib.intOf v).toNat)
                case atStart =>
                  refine ⟨k, Nat.le_refl _, hkj, rfl, Lib.hid (((Below.refl _ _).alloc (Nat.le_refl _) _).alloc (by simp) _), Lib.hid ((Blk.new _ _ _).alloc _), Lib.hid ?_⟩
                  rw [valTo_start]
                  have h := Blk.new (w.alloc (.cells #[.int .i64 0, .int .i64 0, .string ByteArray.empty, .int .i64 0] 28)) 28 #[.int .i64 2, .int .i64 k, .string (s.extract k j), .int .i64 0]
                  rw [World.size_alloc] at h
                  exact h
                case round =>
                  obtain ⟨q, hkq, hqj, rfl, HB, HB1, HB2⟩ := hrel
                  have hbd := valTo_bd s k j q HW.out hj (by omega) hkq hqj
                  have hv0 := hbd.1
                  have hv1 := hbd.2
                  clear hbd
                  have hsz := HB2.out.lt
                  by_cases hqt : q < j
                  · have hdg := wend_all Tx.dgt s k q hkq (by rw [HW.out]; exact hqt) (by omega)
                    have hqs : q < s.size := by omega
                    have HV := Lib.hid (valTo_step s k q hkq hqs)
                    have hd0 : 48 ≤ s[q].toNat := by unfold Tx.dgt at hdg; simp at hdg; omega
                    have hd1 : s[q].toNat ≤ 57 := by unfold Tx.dgt at hdg; simp at hdg; omega
                    clear hdg
                    have hc3 : wr.cell? ⟨w.heap.size + 1, 3, none⟩ = some (.int .i64 (valTo s k q)) := HB2.out.cell 3
                    have hf3 : wr.frozen? ⟨w.heap.size + 1, 3, none⟩ = false := HB2.out.frozen 3
                    go_wp2_with fail
                    go_region
                    go_wp2_with fail
                    go_roundw
                    case rel =>
                      refine ⟨q + 1, by omega, by omega, by go_num, Lib.hid ((HB.out.setCell (Nat.le_succ _) _).drew), Lib.hid ?_, Lib.hid ?_⟩
                      · exact HB1.out.far (p := ⟨w.heap.size + 1, 3, none⟩) (Nat.ne_of_lt (Nat.lt_succ_self _)) _
                      · rw [HV.out]; exact HB2.out.set_ 3 _
                    case measure => simp [Lib.intOf]; omega
                  · obtain rfl : q = j := by omega
                    have HQ := Lib.hid (valTo_end s k q)
                    have hc0 : wr.cell? ⟨w.heap.size + 1, 0, none⟩ = some (.int .i64 2) := HB2.out.cell 0
                    have hc1 : wr.cell? ⟨w.heap.size + 1, 1, none⟩ = some (.int .i64 k) := HB2.out.cell 1
                    have hc2 : wr.cell? ⟨w.heap.size + 1, 2, none⟩ = some (.string (s.extract k q)) := HB2.out.cell 2
                    have hc3 : wr.cell? ⟨w.heap.size + 1, 3, none⟩ = some (.int .i64 (valTo s k q)) := HB2.out.cell 3
                    have ha0 : wr.cell? ⟨w.heap.size, 0, none⟩ = some (.int .i64 0) := HB1.out.cell 0
                    have ha1 : wr.cell? ⟨w.heap.size, 1, none⟩ = some (.int .i64 0) := HB1.out.cell 1
                    have ha2 : wr.cell? ⟨w.heap.size, 2, none⟩ = some (.string ByteArray.empty) := HB1.out.cell 2
                    have ha3 : wr.cell? ⟨w.heap.size, 3, none⟩ = some (.int .i64 0) := HB1.out.cell 3
                    have hf : ∀ o, wr.frozen? ⟨w.heap.size, o, none⟩ = false := HB1.out.frozen
                    go_wp2_with fail
                    replace HE := HE.out
                    rw [← HQ.out] at HE
                    exact bodyPost_ret (v := .tuple #[.agg #[.int .i64 2, .int .i64 (k : Nat), .string (s.extract k q), .int .i64 (valTo s k q)], .int .i64 (q : Nat), .int .i64 0]) (by simp [results, Tryd.results9, go_sem, ha0, ha1, ha2, ha3]) rfl ⟨by rw [HE]; rfl, (((HB.out.setCell (Nat.le_refl _) _).setCell (Nat.le_refl _) _).setCell (Nat.le_refl _) _).setCell (Nat.le_refl _) _⟩
    · rw [tok_word s k hlt hl]
      generalize han : Tx.wordA s k = an
      have HAN := Lib.hid han
      clear han
      go_enter Tryd.func9, Tryd.ntmps9
      go_wp2_with (first | (go_at_call 16; refine (HS.out _).mono ?_; rintro e w' ⟨rfl, rfl⟩) | (go_at_call 17; refine (letter_any _ _).mono ?_; rintro e w' ⟨rfl, rfl⟩))
      clear hl hz
      go_loop [8] (fun v => ∃ j : Nat, k ≤ j ∧ j ≤ s.size ∧ v = .int .i64 j ∧ Hid (Tx.wend Tx.wrd s j = Tx.wend Tx.wrd s k)) (fun v => s.size - (intOf v).toNat)
      case atStart => exact ⟨k, Nat.le_refl _, hle, rfl, rfl⟩
      case round =>
        obtain ⟨j, hkj, hj, rfl, HR⟩ := hrel
        by_cases hin : ∃ h : j < s.size, Tx.wrd (s[j].toNat : Int) = true
        · obtain ⟨hjt, hw⟩ := hin
          have HO := Lib.hid (Tx.wend_in Tx.wrd s j hjt hw)
          have hw2 : Tx.ltr (s[j].toNat : Int) = true ∨ (Tx.ltr (s[j].toNat : Int) = false ∧ Tx.dgt (s[j].toNat : Int) = true) := by
            unfold Tx.wrd at hw
            cases h1 : Tx.ltr (s[j].toNat : Int)
            · rw [h1] at hw; exact .inr ⟨rfl, by simpa using hw⟩
            · exact .inl rfl
          clear hw
          rcases hw2 with h1 | ⟨h1, h2⟩
          all_goals
            go_wp2_with (first | (go_at_call 17; refine (letter_any _ _).mono ?_; rintro e w' ⟨rfl, rfl⟩) | (go_at_call 18; refine (digit_any _ _).mono ?_; rintro e w' ⟨rfl, rfl⟩))
            go_round
            case rel => exact ⟨j + 1, by omega, by omega, by go_num, HO.out.trans HR.out⟩
            case measure => simp [intOf]; omega
        · have HW : Hid (Tx.wend Tx.wrd s k = j) := Lib.hid (by
            rw [← HR.out]
            by_cases hjt : j < s.size
            · exact Tx.wend_out Tx.wrd s j hjt (by rw [Bool.eq_false_iff]; intro e; exact hin ⟨hjt, e⟩)
            · exact Tx.wend_end Tx.wrd s j (by omega))
          have hcase : (∃ h : j < s.size, Tx.ltr (s[j].toNat : Int) = false ∧ Tx.dgt (s[j].toNat : Int) = false) ∨ ¬ j < s.size := by
            by_cases hjt : j < s.size
            · have hw : Tx.wrd (s[j].toNat : Int) = false := by rw [Bool.eq_false_iff]; intro e; exact hin ⟨hjt, e⟩
              unfold Tx.wrd at hw
              rw [Bool.or_eq_false_iff] at hw
              exact .inl ⟨hjt, hw⟩
            · exact .inr hjt
          clear hin HR
          by_cases h16 : 16 < j - k
          · have HE : Hid (an = Tx.An.bad k 3) := Lib.hid (by rw [← HAN.out]; unfold Tx.wordA; rw [HW.out, if_pos h16])
            rcases hcase with ⟨hjt, h1, h2⟩ | hjt
            all_goals
              go_wp2_with (first | (go_at_call 17; refine (letter_any _ _).mono ?_; rintro e w' ⟨rfl, rfl⟩) | (go_at_call 18; refine (digit_any _ _).mono ?_; rintro e w' ⟨rfl, rfl⟩))
              replace HE := HE.out
              exact bodyPost_ret (v := .tuple #[.agg #[.int .i64 0, .int .i64 (k : Nat), .string ByteArray.empty, .int .i64 0], .int .i64 (k : Nat), .int .i64 3]) (by simp [results, Tryd.results9, go_sem]; rfl) rfl ⟨by rw [HE]; rfl, ((Below.refl _ _).alloc (Nat.le_refl _) _).alloc (by simp) _⟩
          · cases hk : Tx.isKey (s.extract k j)
            · have HE : Hid (an = Tx.An.good s 1 k j 0) := Lib.hid (by rw [← HAN.out]; unfold Tx.wordA; rw [HW.out, if_neg h16, hk]; rfl)
              rcases hcase with ⟨hjt, h1, h2⟩ | hjt
              all_goals
                go_wp2_with (first | (go_at_call 17; refine (letter_any _ _).mono ?_; rintro e w' ⟨rfl, rfl⟩) | (go_at_call 18; refine (digit_any _ _).mono ?_; rintro e w' ⟨rfl, rfl⟩) | (go_at_call 19; refine (isKeyRef_any _ _).mono ?_; rintro e w1 ⟨rfl, hb⟩; obtain ⟨hc, hf⟩ := bcell hb; have hz1 : w.heap.size + 1 < w1.heap.size := (by have := hb.size; simp at this; omega); have HB := Lib.hid hb; clear hb))
                have hB1 : Blk w1 w.heap.size 28 #[.int .i64 0, .int .i64 0, .string ByteArray.empty, .int .i64 0] := ((Blk.new _ _ _).alloc _).below HB.out (by simp; omega)
                have ha0 : w1.cell? ⟨w.heap.size, 0, none⟩ = some (.int .i64 0) := hB1.cell 0
                have ha1 : w1.cell? ⟨w.heap.size, 1, none⟩ = some (.int .i64 0) := hB1.cell 1
                have ha2 : w1.cell? ⟨w.heap.size, 2, none⟩ = some (.string ByteArray.empty) := hB1.cell 2
                have ha3 : w1.cell? ⟨w.heap.size, 3, none⟩ = some (.int .i64 0) := hB1.cell 3
                replace HE := HE.out
                exact bodyPost_ret (v := .tuple #[.agg #[.int .i64 1, .int .i64 (k : Nat), .string (s.extract k j), .int .i64 0], .int .i64 (j : Nat), .int .i64 0]) (by simp [results, Tryd.results9, go_sem, ha0, ha1, ha2, ha3]) rfl ⟨by rw [HE]; rfl, ((((below_call HB.out).setCell (Nat.le_refl _) _).setCell (Nat.le_refl _) _).setCell (Nat.le_refl _) _).setCell (Nat.le_refl _) _⟩
            · have HE : Hid (an = Tx.An.good s 3 k j 0) := Lib.hid (by rw [← HAN.out]; unfold Tx.wordA; rw [HW.out, if_neg h16, hk]; rfl)
              rcases hcase with ⟨hjt, h1, h2⟩ | hjt
              all_goals
                go_wp2_with (first | (go_at_call 17; refine (letter_any _ _).mono ?_; rintro e w' ⟨rfl, rfl⟩) | (go_at_call 18; refine (digit_any _ _).mono ?_; rintro e w' ⟨rfl, rfl⟩) | (go_at_call 19; refine (isKeyRef_any _ _).mono ?_; rintro e w1 ⟨rfl, hb⟩; obtain ⟨hc, hf⟩ := bcell hb; have hz1 : w.heap.size + 1 < w1.heap.size := (by have := hb.size; simp at this; omega); have HB := Lib.hid hb; clear hb))
                have hB1 : Blk w1 w.heap.size 28 #[.int .i64 0, .int .i64 0, .string ByteArray.empty, .int .i64 0] := ((Blk.new _ _ _).alloc _).below HB.out (by simp; omega)
                have ha0 : w1.cell? ⟨w.heap.size, 0, none⟩ = some (.int .i64 0) := hB1.cell 0
                have ha1 : w1.cell? ⟨w.heap.size, 1, none⟩ = some (.int .i64 0) := hB1.cell 1
                have ha2 : w1.cell? ⟨w.heap.size, 2, none⟩ = some (.string ByteArray.empty) := hB1.cell 2
                have ha3 : w1.cell? ⟨w.heap.size, 3, none⟩ = some (.int .i64 0) := hB1.cell 3
                replace HE := HE.out
                exact bodyPost_ret (v := .tuple #[.agg #[.int .i64 3, .int .i64 (k : Nat), .string (s.extract k j), .int .i64 0], .int .i64 (j : Nat), .int .i64 0]) (by simp [results, Tryd.results9, go_sem, ha0, ha1, ha2, ha3]) rfl ⟨by rw [HE]; rfl, (((((below_call HB.out).setCell (Nat.le_succ _) _).setCell (Nat.le_refl _) _).setCell (Nat.le_refl _) _).setCell (Nat.le_refl _) _).setCell (Nat.le_refl _) _⟩
  · rw [tok_end s k hlt]
    unfold Tx.An.bad
    obtain rfl : k = s.size := by omega
    clear hlt hle
    go_enter Tryd.func9, Tryd.ntmps9
    go_wp2_with (go_at_call 16; refine (HS.out _).mono ?_; rintro e w' ⟨rfl, rfl⟩)
    exact bodyPost_ret (v := .tuple #[.agg #[.int .i64 0, .int .i64 (s.size : Nat), .string ByteArray.empty, .int .i64 0], .int .i64 (s.size : Nat), .int .i64 0]) (by simp [results, Tryd.results9, go_sem]; rfl) rfl ⟨rfl, ((Below.refl _ _).alloc (Nat.le_refl _) _).alloc (by simp) _⟩

end Go.Proofs.YtlpnkllhpienhaaDoor
