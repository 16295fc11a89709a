/-
  DERIVED. The walk of sort.symMerge_func where both runs are longer (the middle ahead of the second run).
-/
import Derived.Test.YtelhokjjllikhaaSym2
namespace Go.Proofs.Ytelhokjjllikhaa
open Go.RowKit Go.Sort

/-- What the merge does, for ranges shorter than n. -/
def MergesBelow (g : Nat) (lb : Array Value) (sf : Nat) (sb : Array Value) (blk off n : Nat) : Prop :=
  ∀ (d : Array Nat) (W : World), Env g lb sf sb blk off d W → ∀ (a m b : Nat) (A M B : Int), A = a → M = m → B = b → a < m → m < b → b ≤ d.size → b - a < n → Fl.Srt a m d → Fl.Srt m b d →
    Calls Try.prog 42 #[.agg #[.func (.func g) #[] lb, .func (.func sf) #[] sb], .int .i64 A, .int .i64 M, .int .i64 B] W fun e w' => e = .returned (.tuple #[]) ∧ ∃ d', SW encF W blk off d' w' ∧ PermIn a b d d' ∧ Fl.Srt a b d'

theorem Fl.Srt.congr {a b : Nat} {d d' : Array Nat} (h : Fl.Srt a b d) (he : ∀ k, a ≤ k → k < b → d'[k]! = d[k]!) : Fl.Srt a b d' := fun i j h1 h2 h3 => by
  rw [he i h1 (by omega), he j (by omega) h3]; exact h i j h1 h2 h3

set_option maxRecDepth 100000 in
set_option maxHeartbeats 6400000 in
theorem sym_hi (g : Nat) (lb : Array Value) (sf : Nat) (sb : Array Value) (blk off : Nat) (d : Array Nat) (W : World) (E : Env g lb sf sb blk off d W) (a m b : Nat) (hm : a + 1 < m) (hmb : m + 1 < b) (hb : b ≤ d.size)
    (h1 : Hid (Fl.Srt a m d)) (h2 : Hid (Fl.Srt m b d)) (IH : Hid (MergesBelow g lb sf sb blk off (b - a))) (hhi : (a + b) / 2 < m) :
    Calls Try.prog 42 #[.agg #[.func (.func g) #[] lb, .func (.func sf) #[] sb], .int .i64 a, .int .i64 m, .int .i64 b] W fun e w' => e = .returned (.tuple #[]) ∧ ∃ d', SW encF W blk off d' w' ∧ PermIn a b d d' ∧ Fl.Srt a b d' := by
  have u49 := run_underlying Try.underlying49
  have hsm := E.small
  have hbW := E.inside
  have hSW := (SW.start E.row).alloc (.cells #[.func (.func g) #[] lb, .func (.func sf) #[] sb] 49)
  have ht : ((m : Int) - a == 1) = false := by simp; omega
  have ht2 : ((b : Int) - m == 1) = false := by simp; omega
  have ht3 : decide (((a : Int) + b) / 2 < m) = true := by simp; omega
  go_enter Try.func42, Try.ntmps42
  go_wp2
  go_loopw [18, 19] (fun vs vr wr => ∃ (s r : Nat), vs = .int .i64 s ∧ vr = .int .i64 r ∧ (a + b) / 2 + m - b ≤ s ∧ s ≤ r ∧ r ≤ (a + b) / 2 ∧ SW encF W blk off d wr ∧
      Hid (∀ c, (a + b) / 2 + m - b ≤ c → c < s → Fl.key d[c]! ≤ Fl.key d[(a + b) / 2 + m - 1 - c]!) ∧ Hid (∀ c, r ≤ c → c < (a + b) / 2 → Fl.key d[(a + b) / 2 + m - 1 - c]! ≤ Fl.key d[c]!) ∧
      W.heap.size < wr.heap.size ∧ wr.cell? ⟨W.heap.size, 0, none⟩ = some (.func (.func g) #[] lb) ∧ wr.cell? ⟨W.heap.size, 1, none⟩ = some (.func (.func sf) #[] sb)) (fun vs vr _ => (intOf vr).toNat - (intOf vs).toNat)
  case atStart => exact ⟨(a + b) / 2 + m - b, (a + b) / 2, int_eq (by omega), int_eq (by omega), Nat.le_refl _, by omega, Nat.le_refl _, hSW, fun t p q => by omega, fun t p q => by omega, by simp, by simp, by simp⟩
  case round =>
    obtain ⟨s, r, rfl, rfl, hs, hsr, hr, hw, hL, hR, hz, hc0, hc1⟩ := hrel
    clear hSW
    by_cases hlt : s < r
    · have hE := E.eg
      have hl := hw.less E.less rfl ((a + b) / 2 + m - 1 - (s + r) / 2) ((s + r) / 2) (by omega) (by omega)
      rw [show (((s + r) / 2 : Nat) : Int) = ((s : Int) + r) / 2 by omega, show (((a + b) / 2 + m - 1 - (s + r) / 2 : Nat) : Int) = ((a : Int) + b) / 2 + m - 1 - ((s : Int) + r) / 2 by omega] at hl
      have HW := Lib.hid hw
      clear hw
      cases hv : Fl.less d[(a + b) / 2 + m - 1 - (s + r) / 2]! d[(s + r) / 2]! with
      | false =>
        rw [hv] at hl
        go_wp2_with (go_at_fn g; refine hl.mono ?_; rintro e w1 ⟨rfl, q, rfl⟩)
        go_roundw
        case rel =>
          refine ⟨(s + r) / 2 + 1, r, int_eq (by omega), rfl, by omega, by omega, hr, HW.out.drewN q, fun t p u => ?_, hR, hz, hc0, hc1⟩
          have k1 := (Fl.less_not _ _).1 hv
          have k2 := h1.out.le t ((s + r) / 2) (by omega) (by omega) (by omega)
          have k3 := h2.out.le ((a + b) / 2 + m - 1 - (s + r) / 2) ((a + b) / 2 + m - 1 - t) (by omega) (by omega) (by omega)
          omega
        case measure => simp [intOf]; omega
      | true =>
        rw [hv] at hl
        go_wp2_with (go_at_fn g; refine hl.mono ?_; rintro e w1 ⟨rfl, q, rfl⟩)
        go_roundw
        case rel =>
          refine ⟨s, (s + r) / 2, rfl, int_eq (by omega), hs, by omega, by omega, HW.out.drewN q, hL, fun t p u => ?_, hz, hc0, hc1⟩
          have k1 := (Fl.less_iff _ _).1 hv
          have k2 := h1.out.le ((s + r) / 2) t (by omega) p (by omega)
          have k3 := h2.out.le ((a + b) / 2 + m - 1 - t) ((a + b) / 2 + m - 1 - (s + r) / 2) (by omega) (by omega) (by omega)
          omega
        case measure => simp [intOf]; omega
    · obtain rfl : s = r := by omega
      have HW := Lib.hid hw
      clear hw
      by_cases hrot : s < (a + b) / 2
      · have hb1 : decide ((s : Int) < m) = true := by simp; omega
        have hb2 : decide ((m : Int) < ((a : Int) + b) / 2 + m - s) = true := by simp; omega
        have hT : Fl.RotF s m ((a + b) / 2 + m - s) d (fun k => if s ≤ k ∧ k < s + ((a + b) / 2 + m - s - m) then d[k - s + m]! else if s + ((a + b) / 2 + m - s - m) ≤ k ∧ k < (a + b) / 2 + m - s then d[k - ((a + b) / 2 + m - s - m)]! else d[k]!) := fun k => rfl
        have E2 := E.on HW.out rfl
        have hro := fun A B hA hB => rotate_w g lb sf sb blk off d wr E2 s m ((a + b) / 2 + m - s) A B _ hA hB (by omega) (by omega) (by omega) hT
        have HRO := Lib.hid hro
        clear hro hT
        go_wp2_with fail
        refine (HRO.out _ _ rfl (by omega)).mono ?_
        rintro e wc ⟨rfl, d1, hs1, hp1, hg1⟩
        have hz1 : W.heap.size < wc.heap.size := by have := hs1.le; omega
        have hc01 : wc.cell? ⟨W.heap.size, 0, none⟩ = some (.func (.func g) #[] lb) := by rw [sw_cell hs1 _ _ (by omega) hz]; exact hc0
        have hc11 : wc.cell? ⟨W.heap.size, 1, none⟩ = some (.func (.func sf) #[] sb) := by rw [sw_cell hs1 _ _ (by omega) hz]; exact hc1
        have hw1 : SW encF W blk off d1 wc := sw_trans HW.out hs1 E.inside hp1.1
        have hP1 : Hid (PermIn a b d d1) := permIn_mono _ _ _ _ _ _ (by omega) (by omega) hb hp1
        have hR1 : Hid (Fl.RotF s m ((a + b) / 2 + m - s) d (fun k => d1[k]!)) := fun k => hg1 k
        clear hs1 hp1 hg1 hb1 hb2 HRO hc0 hc1 hz E2
        have hpa := Fl.parted a m b ((a + b) / 2) s ((a + b) / 2 + m - s) ((a + b) / 2 + m - b) ((a + b) / 2) ((a + b) / 2 + m - 1) d d1 h1.out h2.out (by omega) (by omega) rfl (Or.inl ⟨hhi, rfl, rfl⟩) hs hr rfl rfl hL.out hR.out hR1.out
        have HPA := Lib.hid hpa
        have hd1 : d1.size = d.size := hP1.out.1
        have E1 := E.on hw1 hd1
        have HW1 := Lib.hid hw1
        clear hw1 hpa
        by_cases hca : a < s
        · by_cases hcm : s < (a + b) / 2
          · have hx1 : decide ((a : Int) < s) = true := by simp; omega
            have hx2 : decide ((s : Int) < ((a : Int) + b) / 2) = true := by simp; omega
            have hc := fun A M B hA hM hB => IH.out d1 wc E1 a s ((a + b) / 2) A M B hA hM hB (by omega) (by omega) (by omega) (by omega) HPA.out.s1 HPA.out.s2
            have HC := Lib.hid hc
            clear hc
            go_wp2_with fail
            refine (HC.out _ _ _ rfl rfl (by omega)).mono ?_
            rintro e w2 ⟨rfl, d2, hs2, hp2, hr2⟩
            have hz2 : W.heap.size < w2.heap.size := by have := hs2.le; omega
            have hc02 : w2.cell? ⟨W.heap.size, 0, none⟩ = some (.func (.func g) #[] lb) := by rw [sw_cell hs2 _ _ (by omega) hz1]; exact hc01
            have hc12 : w2.cell? ⟨W.heap.size, 1, none⟩ = some (.func (.func sf) #[] sb) := by rw [sw_cell hs2 _ _ (by omega) hz1]; exact hc11
            have hsw2 := sw_trans HW1.out hs2 E.inside hp2.1
            have hd2 : d2.size = d.size := by rw [hp2.1, hd1]
            have E22 := E.on hsw2 hd2
            have P2 := Lib.hid hp2
            have R2 := Lib.hid hr2
            have S3 : Hid (Fl.Srt ((a + b) / 2) ((a + b) / 2 + m - s) d2) := HPA.out.s3.congr fun k p _ => P2.out.2.1 k (Or.inr p)
            have S4 : Hid (Fl.Srt ((a + b) / 2 + m - s) b d2) := HPA.out.s4.congr fun k p _ => P2.out.2.1 k (Or.inr (by omega))
            have HW2 := Lib.hid hsw2
            clear hp2 hr2 hsw2 hs2 HC hc01 hc11 hz1 hx1 hx2 E1
            by_cases hcb : (a + b) / 2 + m < b + s
            · have hq1 : decide (((a : Int) + b) / 2 < ((a : Int) + b) / 2 + m - s) = true := by simp; omega
              have hq2 : decide (((a : Int) + b) / 2 + m - s < (b : Int)) = true := by simp; omega
              have hc := fun A M B hA hM hB => IH.out d2 _ E22 ((a + b) / 2) ((a + b) / 2 + m - s) b A M B hA hM hB (by omega) (by omega) (by omega) (by omega) S3.out S4.out
              have HC := Lib.hid hc
              clear hc
              go_wp2_with fail
              refine (HC.out _ _ _ (by omega) (by omega) rfl).mono ?_
              rintro e w3 ⟨rfl, d3, hs3, hp3, hr3⟩
              have HS3 := Lib.hid hs3
              have HP3 := Lib.hid hp3
              have HR3 := Lib.hid hr3
              clear hs3 hp3 hr3
              go_wp2
              go_end0
              have hj := Fl.joined a ((a + b) / 2) b d1 d2 d3 (by omega) (by omega) (by omega) HPA.out.cross P2.out R2.out HP3.out HR3.out
              exact ⟨rfl, d3, sw_trans HW2.out HS3.out E.inside HP3.out.1, permIn_trans _ _ _ _ _ hP1.out hj.1, hj.2⟩
            · have hq1 : decide (((a : Int) + b) / 2 < ((a : Int) + b) / 2 + m - s) = true := by simp; omega
              have hq2 : decide (((a : Int) + b) / 2 + m - s < (b : Int)) = false := by simp; omega
              go_wp2
              go_end0
              have hr3 : Fl.Srt ((a + b) / 2) b d2 := by
                have := S3.out
                rw [show (a + b) / 2 + m - s = b by omega] at this; exact this
              have hj := Fl.joined a ((a + b) / 2) b d1 d2 d2 (by omega) (by omega) (by omega) HPA.out.cross P2.out R2.out (permIn_refl _ _ _) hr3
              exact ⟨rfl, d2, HW2.out, permIn_trans _ _ _ _ _ hP1.out hj.1, hj.2⟩
          · have hx1 : decide ((a : Int) < s) = true := by simp; omega
            have hx2 : decide ((s : Int) < ((a : Int) + b) / 2) = false := by simp; omega
            have R2 : Hid (Fl.Srt a ((a + b) / 2) d1) := by
              have := HPA.out.s1
              rw [show s = (a + b) / 2 by omega] at this; exact this
            obtain ⟨d2, hd2e⟩ : ∃ d2, d2 = d1 := ⟨_, rfl⟩
            have R2 : Hid (Fl.Srt a ((a + b) / 2) d2) := by rw [hd2e]; exact R2
            have P2 : Hid (PermIn a ((a + b) / 2) d1 d2) := by rw [hd2e]; exact permIn_refl _ _ _
            have S3 : Hid (Fl.Srt ((a + b) / 2) ((a + b) / 2 + m - s) d2) := by rw [hd2e]; exact HPA.out.s3
            have S4 : Hid (Fl.Srt ((a + b) / 2 + m - s) b d2) := by rw [hd2e]; exact HPA.out.s4
            have HW2 : Hid (SW encF W blk off d2 wc) := by rw [hd2e]; exact HW1.out
            have E22 : Env g lb sf sb blk off d2 wc := by rw [hd2e]; exact E1
            have hd2 : d2.size = d.size := by rw [hd2e]; exact hd1
            have hz2 := hz1
            have hc02 := hc01
            have hc12 := hc11
            clear hd2e hz1 hc01 hc11 E1
            by_cases hcb : (a + b) / 2 + m < b + s
            · have hq1 : decide (((a : Int) + b) / 2 < ((a : Int) + b) / 2 + m - s) = true := by simp; omega
              have hq2 : decide (((a : Int) + b) / 2 + m - s < (b : Int)) = true := by simp; omega
              have hc := fun A M B hA hM hB => IH.out d2 _ E22 ((a + b) / 2) ((a + b) / 2 + m - s) b A M B hA hM hB (by omega) (by omega) (by omega) (by omega) S3.out S4.out
              have HC := Lib.hid hc
              clear hc
              go_wp2_with fail
              refine (HC.out _ _ _ (by omega) (by omega) rfl).mono ?_
              rintro e w3 ⟨rfl, d3, hs3, hp3, hr3⟩
              have HS3 := Lib.hid hs3
              have HP3 := Lib.hid hp3
              have HR3 := Lib.hid hr3
              clear hs3 hp3 hr3
              go_wp2
              go_end0
              have hj := Fl.joined a ((a + b) / 2) b d1 d2 d3 (by omega) (by omega) (by omega) HPA.out.cross P2.out R2.out HP3.out HR3.out
              exact ⟨rfl, d3, sw_trans HW2.out HS3.out E.inside HP3.out.1, permIn_trans _ _ _ _ _ hP1.out hj.1, hj.2⟩
            · have hq1 : decide (((a : Int) + b) / 2 < ((a : Int) + b) / 2 + m - s) = true := by simp; omega
              have hq2 : decide (((a : Int) + b) / 2 + m - s < (b : Int)) = false := by simp; omega
              go_wp2
              go_end0
              have hr3 : Fl.Srt ((a + b) / 2) b d2 := by
                have := S3.out
                rw [show (a + b) / 2 + m - s = b by omega] at this; exact this
              have hj := Fl.joined a ((a + b) / 2) b d1 d2 d2 (by omega) (by omega) (by omega) HPA.out.cross P2.out R2.out (permIn_refl _ _ _) hr3
              exact ⟨rfl, d2, HW2.out, permIn_trans _ _ _ _ _ hP1.out hj.1, hj.2⟩
        · have hx1 : decide ((a : Int) < s) = false := by simp; omega
          have R2 : Hid (Fl.Srt a ((a + b) / 2) d1) := by
            have := HPA.out.s2
            rw [show s = a by omega] at this; exact this
          obtain ⟨d2, hd2e⟩ : ∃ d2, d2 = d1 := ⟨_, rfl⟩
          have R2 : Hid (Fl.Srt a ((a + b) / 2) d2) := by rw [hd2e]; exact R2
          have P2 : Hid (PermIn a ((a + b) / 2) d1 d2) := by rw [hd2e]; exact permIn_refl _ _ _
          have S3 : Hid (Fl.Srt ((a + b) / 2) ((a + b) / 2 + m - s) d2) := by rw [hd2e]; exact HPA.out.s3
          have S4 : Hid (Fl.Srt ((a + b) / 2 + m - s) b d2) := by rw [hd2e]; exact HPA.out.s4
          have HW2 : Hid (SW encF W blk off d2 wc) := by rw [hd2e]; exact HW1.out
          have E22 : Env g lb sf sb blk off d2 wc := by rw [hd2e]; exact E1
          have hd2 : d2.size = d.size := by rw [hd2e]; exact hd1
          have hz2 := hz1
          have hc02 := hc01
          have hc12 := hc11
          clear hd2e hz1 hc01 hc11 E1
          by_cases hcb : (a + b) / 2 + m < b + s
          · have hq1 : decide (((a : Int) + b) / 2 < ((a : Int) + b) / 2 + m - s) = true := by simp; omega
            have hq2 : decide (((a : Int) + b) / 2 + m - s < (b : Int)) = true := by simp; omega
            have hc := fun A M B hA hM hB => IH.out d2 _ E22 ((a + b) / 2) ((a + b) / 2 + m - s) b A M B hA hM hB (by omega) (by omega) (by omega) (by omega) S3.out S4.out
            have HC := Lib.hid hc
            clear hc
            go_wp2_with fail
            refine (HC.out _ _ _ (by omega) (by omega) rfl).mono ?_
            rintro e w3 ⟨rfl, d3, hs3, hp3, hr3⟩
            have HS3 := Lib.hid hs3
            have HP3 := Lib.hid hp3
            have HR3 := Lib.hid hr3
            clear hs3 hp3 hr3
            go_wp2
            go_end0
            have hj := Fl.joined a ((a + b) / 2) b d1 d2 d3 (by omega) (by omega) (by omega) HPA.out.cross P2.out R2.out HP3.out HR3.out
            exact ⟨rfl, d3, sw_trans HW2.out HS3.out E.inside HP3.out.1, permIn_trans _ _ _ _ _ hP1.out hj.1, hj.2⟩
          · have hq1 : decide (((a : Int) + b) / 2 < ((a : Int) + b) / 2 + m - s) = true := by simp; omega
            have hq2 : decide (((a : Int) + b) / 2 + m - s < (b : Int)) = false := by simp; omega
            go_wp2
            go_end0
            have hr3 : Fl.Srt ((a + b) / 2) b d2 := by
              have := S3.out
              rw [show (a + b) / 2 + m - s = b by omega] at this; exact this
            have hj := Fl.joined a ((a + b) / 2) b d1 d2 d2 (by omega) (by omega) (by omega) HPA.out.cross P2.out R2.out (permIn_refl _ _ _) hr3
            exact ⟨rfl, d2, HW2.out, permIn_trans _ _ _ _ _ hP1.out hj.1, hj.2⟩
      · have hb1 : decide ((s : Int) < m) = true := by simp; omega
        have hb2 : decide ((m : Int) < ((a : Int) + b) / 2 + m - s) = false := by simp; omega
        obtain ⟨d1, hd1e⟩ : ∃ d1, d1 = d := ⟨_, rfl⟩
        have hw1 : SW encF W blk off d1 wr := by rw [hd1e]; exact HW.out
        have hP1 : Hid (PermIn a b d d1) := by rw [hd1e]; exact permIn_refl _ _ _
        have hR1 : Hid (Fl.RotF s m ((a + b) / 2 + m - s) d (fun k => d1[k]!)) := by rw [hd1e]; exact Fl.rot_same _ _ _ _ (by omega)
        have hz1 := hz
        have hc01 := hc0
        have hc11 := hc1
        clear hd1e hc0 hc1 hz
        have hpa := Fl.parted a m b ((a + b) / 2) s ((a + b) / 2 + m - s) ((a + b) / 2 + m - b) ((a + b) / 2) ((a + b) / 2 + m - 1) d d1 h1.out h2.out (by omega) (by omega) rfl (Or.inl ⟨hhi, rfl, rfl⟩) hs hr rfl rfl hL.out hR.out hR1.out
        have HPA := Lib.hid hpa
        have hd1 : d1.size = d.size := hP1.out.1
        have E1 := E.on hw1 hd1
        have HW1 := Lib.hid hw1
        clear hw1 hpa
        have hx1 : decide ((a : Int) < s) = true := by simp; omega
        have hx2 : decide ((s : Int) < ((a : Int) + b) / 2) = false := by simp; omega
        have R2 : Hid (Fl.Srt a ((a + b) / 2) d1) := by
          have := HPA.out.s1
          rw [show s = (a + b) / 2 by omega] at this; exact this
        obtain ⟨d2, hd2e⟩ : ∃ d2, d2 = d1 := ⟨_, rfl⟩
        have R2 : Hid (Fl.Srt a ((a + b) / 2) d2) := by rw [hd2e]; exact R2
        have P2 : Hid (PermIn a ((a + b) / 2) d1 d2) := by rw [hd2e]; exact permIn_refl _ _ _
        have S3 : Hid (Fl.Srt ((a + b) / 2) ((a + b) / 2 + m - s) d2) := by rw [hd2e]; exact HPA.out.s3
        have S4 : Hid (Fl.Srt ((a + b) / 2 + m - s) b d2) := by rw [hd2e]; exact HPA.out.s4
        have HW2 : Hid (SW encF W blk off d2 wr) := by rw [hd2e]; exact HW1.out
        have E22 : Env g lb sf sb blk off d2 wr := by rw [hd2e]; exact E1
        have hd2 : d2.size = d.size := by rw [hd2e]; exact hd1
        have hz2 := hz1
        have hc02 := hc01
        have hc12 := hc11
        clear hd2e hz1 hc01 hc11 E1

        have hq1 : decide (((a : Int) + b) / 2 < ((a : Int) + b) / 2 + m - s) = true := by simp; omega
        have hq2 : decide (((a : Int) + b) / 2 + m - s < (b : Int)) = true := by simp; omega
        have hc := fun A M B hA hM hB => IH.out d2 _ E22 ((a + b) / 2) ((a + b) / 2 + m - s) b A M B hA hM hB (by omega) (by omega) (by omega) (by omega) S3.out S4.out
        have HC := Lib.hid hc
        clear hc
        go_wp2_with fail
        refine (HC.out _ _ _ (by omega) (by omega) rfl).mono ?_
        rintro e w3 ⟨rfl, d3, hs3, hp3, hr3⟩
        have HS3 := Lib.hid hs3
        have HP3 := Lib.hid hp3
        have HR3 := Lib.hid hr3
        clear hs3 hp3 hr3
        go_wp2
        go_end0
        have hj := Fl.joined a ((a + b) / 2) b d1 d2 d3 (by omega) (by omega) (by omega) HPA.out.cross P2.out R2.out HP3.out HR3.out
        exact ⟨rfl, d3, sw_trans HW2.out HS3.out E.inside HP3.out.1, permIn_trans _ _ _ _ _ hP1.out hj.1, hj.2⟩

end Go.Proofs.Ytelhokjjllikhaa
