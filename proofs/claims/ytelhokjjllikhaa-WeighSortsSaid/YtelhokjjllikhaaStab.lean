/-
  DERIVED. The walk of sort.stable_func over a row of floats of any length up to a thousand.
-/
import Derived.Test.YtelhokjjllikhaaSymAll
import Derived.Test.YtelhokjjllikhaaBlk
namespace Go.Proofs.Ytelhokjjllikhaa
open Go.RowKit Go.Sort

theorem perm_in (a b n : Nat) (d c c' : Array Nat) (h : PermIn 0 n d c) (h2 : PermIn a b c c') (hb : b ≤ n) (hn : n ≤ d.size) : PermIn 0 n d c' :=
  permIn_trans _ _ _ _ _ h (permIn_mono _ _ a b 0 n (by omega) hb (by rw [h.1]; exact hn) h2)

set_option maxRecDepth 100000 in
set_option maxHeartbeats 3200000 in
theorem stable_w (g : Nat) (lb : Array Value) (sf : Nat) (sb : Array Value) (blk off : Nat) (d : Array Nat) (W : World) (E : Env g lb sf sb blk off d W) (n : Nat) (hn : n = d.size) :
    Calls Try.prog 29 #[.agg #[.func (.func g) #[] lb, .func (.func sf) #[] sb], .int .i64 n] W fun e w' => e = .returned (.tuple #[]) ∧ ∃ d', SW encF W blk off d' w' ∧ PermIn 0 n d d' ∧ Fl.Srt 0 n d' := by
  have hsm := E.small
  have hbW := E.inside
  have hSW := (SW.start E.row).alloc (.cells #[.func (.func g) #[] lb, .func (.func sf) #[] sb] 49)
  have HN := Lib.hid hn
  have hn1 : n ≤ d.size := by omega
  clear hn
  go_enter Try.func29, Try.ntmps29
  go_wp2
  go_loopw [5, 6] (fun va vb wr => ∃ (t a : Nat) (c : Array Nat), va = .int .i64 a ∧ vb = .int .i64 ((a : Int) + 20) ∧ a ≤ n ∧ Hid (a = t * 20) ∧ SW encF W blk off c wr ∧ Hid (PermIn 0 n d c) ∧
      Hid (∀ u i j, u < t → u * 20 ≤ i → i < j → j < u * 20 + 20 → Fl.key c[i]! ≤ Fl.key c[j]!) ∧
      W.heap.size < wr.heap.size ∧ wr.cell? ⟨W.heap.size, 0, none⟩ = some (.func (.func g) #[] lb) ∧ wr.cell? ⟨W.heap.size, 1, none⟩ = some (.func (.func sf) #[] sb)) (fun va _ _ => 2000 - (intOf va).toNat)
  case atStart => exact ⟨0, 0, d, rfl, rfl, by omega, rfl, hSW, permIn_refl _ _ _, fun u i j h => by omega, by simp, by simp, by simp⟩
  case round =>
    obtain ⟨t, a, c, rfl, rfl, ht, ha, hw, hP, hD, hz, hc0, hc1⟩ := hrel
    have hcs : c.size = d.size := hP.out.1
    have E1 := E.on hw hcs
    have HW := Lib.hid hw
    have HCS := Lib.hid hcs
    have hcn : n ≤ c.size := by omega
    clear hw hSW hcs
    by_cases hlt : a + 20 ≤ n
    · have hc := fun A B hA hB => insSort_w g lb sf sb blk off c wr E1 a (a + 20) A B hA hB (by omega) (by omega)
      have HC := Lib.hid hc
      clear hc
      go_wp2_with fail
      refine (HC.out _ _ rfl (by omega)).mono ?_
      rintro e w2 ⟨rfl, c2, hs2, hp2, hr2⟩
      have hz2 : W.heap.size < w2.heap.size := by have := hs2.le; omega
      have hc02 : w2.cell? ⟨W.heap.size, 0, none⟩ = some (.func (.func g) #[] lb) := by rw [sw_cell hs2 _ _ (by omega) hz]; exact hc0
      have hc12 : w2.cell? ⟨W.heap.size, 1, none⟩ = some (.func (.func sf) #[] sb) := by rw [sw_cell hs2 _ _ (by omega) hz]; exact hc1
      have HS2 := Lib.hid hs2
      have HP2 := Lib.hid hp2
      have HR2 := Lib.hid hr2
      clear hs2 hp2 hr2 HC
      go_wp2
      go_roundw
      case rel =>
        have hae : a = t * 20 := ha.out
        refine ⟨t + 1, a + 20, c2, int_eq (by omega), int_eq (by omega), hlt, (by show a + 20 = (t + 1) * 20; omega), sw_trans HW.out HS2.out E.inside HP2.out.1, perm_in _ _ _ _ _ _ hP.out HP2.out hlt hn1, ?_, hz2, hc02, hc12⟩
        have p := HP2.out
        have r := HR2.out
        rw [hae] at p r
        exact Fl.low_step t c c2 hD.out p r
      case measure => simp [intOf]; omega
    · have hc := fun A B hA hB => insSort_w g lb sf sb blk off c wr E1 a n A B hA hB (by omega) (by omega)
      have HC := Lib.hid hc
      clear hc
      go_wp2_with fail
      refine (HC.out _ _ rfl rfl).mono ?_
      rintro e w2 ⟨rfl, c2, hs2, hp2, hr2⟩
      have hz2 : W.heap.size < w2.heap.size := by have := hs2.le; omega
      have hc02 : w2.cell? ⟨W.heap.size, 0, none⟩ = some (.func (.func g) #[] lb) := by rw [sw_cell hs2 _ _ (by omega) hz]; exact hc0
      have hc12 : w2.cell? ⟨W.heap.size, 1, none⟩ = some (.func (.func sf) #[] sb) := by rw [sw_cell hs2 _ _ (by omega) hz]; exact hc1
      have HB2 : Hid (Fl.Blk 20 n c2) := by
        have hae : a = t * 20 := ha.out
        rw [hae] at hp2 hr2
        exact Fl.blk_first n t c c2 hD.out (by omega) hp2 hr2
      have HS2 := Lib.hid (sw_trans HW.out hs2 E.inside hp2.1)
      have HP2 := Lib.hid (perm_in _ _ _ _ _ _ hP.out hp2 (Nat.le_refl _) hn1)
      clear hs2 hp2 hr2 HC hc0 hc1 hz HW E1 hD hP HCS hcn
      go_wp2_with fail
      obtain ⟨wo, hwo⟩ : ∃ wo : World, wo = w2 := ⟨_, rfl⟩
      subst hwo
      go_loopw [4] (fun vb wr => ∃ (bs : Nat) (c : Array Nat), vb = .int .i64 bs ∧ 1 ≤ bs ∧ bs ≤ 2000 ∧ SW encF W blk off c wr ∧ Hid (PermIn 0 n d c) ∧ Hid (Fl.Blk bs n c) ∧
        W.heap.size < wr.heap.size ∧ wr.cell? ⟨W.heap.size, 0, none⟩ = some (.func (.func g) #[] lb) ∧ wr.cell? ⟨W.heap.size, 1, none⟩ = some (.func (.func sf) #[] sb)) (fun vb _ => 4000 - (intOf vb).toNat)
      case atStart => exact ⟨20, c2, rfl, by omega, by omega, HS2.out, HP2.out, HB2.out, hz2, hc02, hc12⟩
      case round =>
        clear HS2 HP2 HB2 hz2 hc02 hc12
        obtain ⟨bs, c, rfl, hb1, hb2, hw, hP, hB, hz, hc0, hc1⟩ := hrel
        by_cases hlt : bs < n
        · have HW := Lib.hid hw
          clear hw
          go_wp2_with fail
          obtain ⟨wo2, hwo2⟩ : ∃ wo2 : World, wo2 = wr := ⟨_, rfl⟩
          subst hwo2
          go_loopw [5, 6] (fun va vb wr => ∃ (t a : Nat) (c : Array Nat), va = .int .i64 a ∧ vb = .int .i64 ((a : Int) + 2 * bs) ∧ a ≤ n ∧ SW encF W blk off c wr ∧ Hid (PermIn 0 n d c) ∧ Hid (Fl.Mid bs n t a c) ∧
            W.heap.size < wr.heap.size ∧ wr.cell? ⟨W.heap.size, 0, none⟩ = some (.func (.func g) #[] lb) ∧ wr.cell? ⟨W.heap.size, 1, none⟩ = some (.func (.func sf) #[] sb)) (fun va _ _ => 2000 - (intOf va).toNat)
          case atStart => exact ⟨0, 0, c, rfl, int_eq (by omega), by omega, HW.out, hP.out, Fl.mid_start _ _ _ hB.out, hz, hc0, hc1⟩
          case round =>
            clear HW hP hB hz hc0 hc1
            obtain ⟨t, a, c, rfl, rfl, ht, hw, hP, hM, hz, hc0, hc1⟩ := hrel
            have hcs : c.size = d.size := hP.out.1
            have E1 := E.on hw hcs
            have HW := Lib.hid hw
            have hcn : n ≤ c.size := by omega
            clear hw hcs
            by_cases hlt2 : a + 2 * bs ≤ n
            · have hc := fun A M B hA hMM hB => symMerge_w g lb sf sb blk off c wr E1 a (a + bs) (a + 2 * bs) A M B hA hMM hB (by omega) (by omega) (by omega)
                (Fl.mid_left bs n t a _ c hM.out (Nat.le_refl _) (by omega)) (Fl.mid_right bs n t a _ c hM.out (Nat.le_refl _) hlt2)
              have HC := Lib.hid hc
              clear hc
              go_wp2_with fail
              refine (HC.out _ _ _ rfl (by omega) (by omega)).mono ?_
              rintro e w3 ⟨rfl, c3, hs3, hp3, hr3⟩
              have hz3 : W.heap.size < w3.heap.size := by have := hs3.le; omega
              have hc03 : w3.cell? ⟨W.heap.size, 0, none⟩ = some (.func (.func g) #[] lb) := by rw [sw_cell hs3 _ _ (by omega) hz]; exact hc0
              have hc13 : w3.cell? ⟨W.heap.size, 1, none⟩ = some (.func (.func sf) #[] sb) := by rw [sw_cell hs3 _ _ (by omega) hz]; exact hc1
              have HS3 := Lib.hid (sw_trans HW.out hs3 E.inside hp3.1)
              have HP3 := Lib.hid (perm_in _ _ _ _ _ _ hP.out hp3 hlt2 hn1)
              have HM3 := Lib.hid (Fl.mid_step bs n t a c c3 hM.out hp3 hr3)
              clear hs3 hp3 hr3 HC E1 HW
              go_wp2
              go_roundw
              case rel => exact ⟨t + 1, a + 2 * bs, c3, int_eq (by omega), int_eq (by omega), hlt2, HS3.out, HP3.out, HM3.out, hz3, hc03, hc13⟩
              case measure => simp [intOf]; omega
            · by_cases hm : a + bs < n
              · have hc := fun A M B hA hMM hB => symMerge_w g lb sf sb blk off c wr E1 a (a + bs) n A M B hA hMM hB (by omega) (by omega) (by omega)
                  (Fl.mid_left bs n t a _ c hM.out (Nat.le_refl _) (by omega)) (Fl.mid_right bs n t a _ c hM.out (by omega) (Nat.le_refl _))
                have HC := Lib.hid hc
                clear hc
                go_wp2_with fail
                refine (HC.out _ _ _ rfl (by omega) rfl).mono ?_
                rintro e w3 ⟨rfl, c3, hs3, hp3, hr3⟩
                have hz3 : W.heap.size < w3.heap.size := by have := hs3.le; omega
                have hc03 : w3.cell? ⟨W.heap.size, 0, none⟩ = some (.func (.func g) #[] lb) := by rw [sw_cell hs3 _ _ (by omega) hz]; exact hc0
                have hc13 : w3.cell? ⟨W.heap.size, 1, none⟩ = some (.func (.func sf) #[] sb) := by rw [sw_cell hs3 _ _ (by omega) hz]; exact hc1
                have HS3 := Lib.hid (sw_trans HW.out hs3 E.inside hp3.1)
                have HP3 := Lib.hid (perm_in _ _ _ _ _ _ hP.out hp3 (Nat.le_refl _) hn1)
                have HB3 := Lib.hid (Fl.mid_end bs n t a c c3 hM.out (by omega) hp3 hr3)
                clear hs3 hp3 hr3 HC E1 HW
                go_wp2
                go_roundw
                case rel => exact ⟨bs * 2, c3, int_eq (by omega), by omega, by omega, HS3.out, HP3.out, HB3.out, hz3, hc03, hc13⟩
                case measure => simp [intOf]; omega
              · have HB3 := Lib.hid (Fl.mid_end bs n t a c c hM.out (by omega) (permIn_refl _ _ _) (Fl.mid_left bs n t a n c hM.out (by omega) (Nat.le_refl _)))
                go_wp2
                go_roundw
                case rel => exact ⟨bs * 2, c, int_eq (by omega), by omega, by omega, HW.out, hP.out, HB3.out, hz, hc0, hc1⟩
                case measure => simp [intOf]; omega
        · have HW := Lib.hid hw
          clear hw
          go_wp2
          go_end0
          exact ⟨rfl, c, HW.out, hP.out, Fl.blk_all bs n c hB.out (by omega)⟩

end Go.Proofs.Ytelhokjjllikhaa
