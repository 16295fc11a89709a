/-
  DERIVED. The walk of the web's first round.
-/
import Derived.Test.YtmhpaacjioeknaaGreatTl
namespace Go.Proofs.YtmhpaacjioeknaaGreat
open Go.RowKit Go.Maps Go.Sort Go.WideMaps
namespace Tj

theorem made3 (w : World) (n : Nat) (hn : n ≤ 1000) (o : Obj) (g : Nat) (hg : g = w.heap.size ∨ g = w.heap.size + 1 ∨ g = w.heap.size + 2) :
    OR ((((w.alloc (.cells (madeCells #[.int .i64 0] n) 3)).alloc (.cells (madeCells #[.int .i64 0] n) 3)).alloc (.cells (madeCells #[.int .i64 0] n) 3)).alloc o) w.heap.size (sl g n n) (List.replicate n 0) := by
  rcases hg with rfl | rfl | rfl
  · have h := made_or w n w.heap.size (Nat.le_refl _) hn
    exact ((World.ownsRow.alloc h _).alloc _).alloc _
  · have h := made_or (w.alloc (.cells (madeCells #[.int .i64 0] n) 3)) n w.heap.size (by simp) hn
    rw [World.size_alloc] at h
    exact (World.ownsRow.alloc h _).alloc _
  · have h := made_or ((w.alloc (.cells (madeCells #[.int .i64 0] n) 3)).alloc (.cells (madeCells #[.int .i64 0] n) 3)) n w.heap.size (by simp only [World.size_alloc]; omega) hn
    rw [World.size_alloc, World.size_alloc] at h
    exact World.ownsRow.alloc h _
def s0 (n : Nat) : St := ⟨0, List.replicate n 0, List.replicate n 0, List.replicate n 0, [], [], n⟩
theorem made_ss {w : World} {bw wb wc : Nat} {vs : List Value} {XS : List (List Int)} (h : Rws w bw wb vs XS) (hn : XS.length ≤ 1000) (rg lg dg : Nat)
    (hr : rg = w.heap.size ∨ rg = w.heap.size + 1 ∨ rg = w.heap.size + 2) (hl : lg = w.heap.size ∨ lg = w.heap.size + 1 ∨ lg = w.heap.size + 2) (hd : dg = w.heap.size ∨ dg = w.heap.size + 1 ∨ dg = w.heap.size + 2) (h1 : rg ≠ lg) (h2 : rg ≠ dg) (h3 : lg ≠ dg) :
    SS w ⟨w.heap.size + 1 + 1 + 1, wb, wc, rg, lg, dg, XS.length, XS.length, XS.length, bw, vs⟩ XS
      ((((w.alloc (.cells (madeCells #[.int .i64 0] XS.length) 3)).alloc (.cells (madeCells #[.int .i64 0] XS.length) 3)).alloc (.cells (madeCells #[.int .i64 0] XS.length) 3)).alloc
        (.cells #[.slice (some ⟨wb, 0, none⟩) XS.length wc, .int .i64 0, .slice (some ⟨rg, 0, none⟩) XS.length XS.length, .slice (some ⟨lg, 0, none⟩) XS.length XS.length, .slice (some ⟨dg, 0, none⟩) XS.length XS.length, .slice none 0 0, .slice none 0 0, .int .i64 XS.length] 82)) (.slice none 0 0) (.slice none 0 0) (s0 XS.length) := by
  have hb : Below w.heap.size w ((((w.alloc (.cells (madeCells #[.int .i64 0] XS.length) 3)).alloc (.cells (madeCells #[.int .i64 0] XS.length) 3)).alloc (.cells (madeCells #[.int .i64 0] XS.length) 3)).alloc
        (.cells #[.slice (some ⟨wb, 0, none⟩) XS.length wc, .int .i64 0, .slice (some ⟨rg, 0, none⟩) XS.length XS.length, .slice (some ⟨lg, 0, none⟩) XS.length XS.length, .slice (some ⟨dg, 0, none⟩) XS.length XS.length, .slice none 0 0, .slice none 0 0, .int .i64 XS.length] 82)) :=
    ((((Below.refl _ _).alloc (Nat.le_refl _) _).alloc (by simp) _).alloc (by simp only [World.size_alloc]; omega) _).alloc (by simp only [World.size_alloc]; omega) _
  refine ⟨h, hb, ?_, by simp [s0], by simp [s0], by simp [s0], made3 w _ hn _ rg hr, made3 w _ hn _ lg hl, made3 w _ hn _ dg hd, World.ownsRow_nil _ _ _ _, World.ownsRow_nil _ _ _ _, by show w.heap.size ≤ w.heap.size + 1 + 1 + 1; omega, by show w.heap.size ≤ rg; omega, by show w.heap.size ≤ lg; omega, by show w.heap.size ≤ dg; omega, ?_, ?_, ?_, ?_⟩
  · have := heap_alloc_new (((w.alloc (.cells (madeCells #[.int .i64 0] XS.length) 3)).alloc (.cells (madeCells #[.int .i64 0] XS.length) 3)).alloc (.cells (madeCells #[.int .i64 0] XS.length) 3)) (.cells #[.slice (some ⟨wb, 0, none⟩) XS.length wc, .int .i64 0, .slice (some ⟨rg, 0, none⟩) XS.length XS.length, .slice (some ⟨lg, 0, none⟩) XS.length XS.length, .slice (some ⟨dg, 0, none⟩) XS.length XS.length, .slice none 0 0, .slice none 0 0, .int .i64 XS.length] 82)
    rw [World.size_alloc, World.size_alloc, World.size_alloc] at this
    exact this
  · show w.heap.size + 1 + 1 + 1 ≠ rg ∧ w.heap.size + 1 + 1 + 1 ≠ lg ∧ w.heap.size + 1 + 1 + 1 ≠ dg ∧ rg ≠ lg ∧ rg ≠ dg ∧ lg ≠ dg
    omega
  · exact ⟨by simp [Value.ownBlock], by simp [Value.ownBlock], by simp [Value.ownBlock], by simp [Value.ownBlock]⟩
  · exact ⟨by simp [Value.ownBlock], by simp [Value.ownBlock], by simp [Value.ownBlock], by simp [Value.ownBlock]⟩
  · intro q hq; simp [Value.ownBlock] at hq
set_option maxHeartbeats 12800000 in
set_option maxRecDepth 100000 in
theorem round_m {w : World} {bw wb wc : Nat} {vs : List Value} {XS : List (List Int)} (h : Rws w bw wb vs XS) (hn : XS.length ≤ 1000) (hX : InR XS) (hR : ∀ xs ∈ XS, xs.length ≤ 10000) :
    Calls Tryz.prog 17 #[.slice (some ⟨wb, 0, none⟩) XS.length wc] w fun e w' => ∃ (f : Nat) (b : Bool), e = .returned (.tuple #[.int .i64 f, .bool b]) ∧ (b = true ↔ f < XS.length) ∧ (f < XS.length → Rt XS f f) ∧ (∀ u, u < XS.length → Rt XS u u → f ≤ u) ∧ Below w.heap.size w w' := by
  obtain ⟨ir, hir, hz0, hz1, hz2⟩ := info_parts info3
  have hmk : ∀ w : World, (Instr.makeSlice 33 (.int .i64 (XS.length : Int)) (.int .i64 (XS.length : Int))).run Tryz.prog w = .ok (.slice (some ⟨w.heap.size, 0, none⟩) XS.length XS.length) (w.alloc (.cells (madeCells #[.int .i64 0] XS.length) 3)) :=
    run_make_row 33 3 ir (.int .i64 0) Tryz.underlying33 hir hz0 hz1 rfl .i64 .i64 XS.length (by rw [hz2]; omega) (by omega)
  have HMS := Lib.hid (fun rg lg dg hr hl hd h1 h2 h3 => made_ss (wc := wc) h hn rg lg dg hr hl hd h1 h2 h3)
  have HI0 : Hid (Inv XS (s0 XS.length)) := Lib.hid (Inv.start XS hX hn)
  have HR := Lib.hid hR
  have hn' : (XS.length : Int) ≤ 1000 := by omega
  clear h hX hR hir hz0 hz1 hz2
  go_enter Tryz.func17, Tryz.ntmps17
  go_wp2_with fail
  go_region
  · obtain ⟨c, hc, HS1⟩ : ∃ c : Cn, w.heap.size + 1 + 1 + 1 = c.sb ∧ Hid (SS w c XS ((((w.alloc (.cells (madeCells #[.int .i64 0] XS.length) 3)).alloc (.cells (madeCells #[.int .i64 0] XS.length) 3)).alloc (.cells (madeCells #[.int .i64 0] XS.length) 3)).alloc (.cells #[.slice (some ⟨wb, 0, none⟩) XS.length wc, .int .i64 0, .slice (some ⟨w.heap.size, 0, none⟩) XS.length XS.length, .slice (some ⟨w.heap.size + 1, 0, none⟩) XS.length XS.length, .slice (some ⟨w.heap.size + 1 + 1, 0, none⟩) XS.length XS.length, .slice none 0 0, .slice none 0 0, .int .i64 XS.length] 82)).drew (.slice none 0 0) (.slice none 0 0) (s0 XS.length)) :=
      ⟨_, rfl, Lib.hid (HMS.out (w.heap.size) (w.heap.size + 1) (w.heap.size + 1 + 1) (by omega) (by omega) (by omega) (by omega) (by omega) (by omega)).drew⟩
    generalize ((((w.alloc (.cells (madeCells #[.int .i64 0] XS.length) 3)).alloc (.cells (madeCells #[.int .i64 0] XS.length) 3)).alloc (.cells (madeCells #[.int .i64 0] XS.length) 3)).alloc (.cells #[.slice (some ⟨wb, 0, none⟩) XS.length wc, .int .i64 0, .slice (some ⟨w.heap.size, 0, none⟩) XS.length XS.length, .slice (some ⟨w.heap.size + 1, 0, none⟩) XS.length XS.length, .slice (some ⟨w.heap.size + 1 + 1, 0, none⟩) XS.length XS.length, .slice none 0 0, .slice none 0 0, .int .i64 XS.length] 82)).drew = w1 at HS1 ⊢
    clear HMS hmk
    rw [hc]
    go_wp2_with fail
    go_loopw [5, 22] (fun _ sk wr => ∃ (k : Nat) (pv ov : Value) (t : St), sk = .int .i64 k ∧ k ≤ XS.length ∧ Hid (SS w c XS wr pv ov t) ∧ Hid (Inv XS t ∧ t.path = [] ∧ ∀ u, u < k → t.rk u ≠ 0)) (fun _ sk _ => XS.length - (Lib.intOf sk).toNat)
    case atStart => exact ⟨0, _, _, _, rfl, Nat.zero_le _, HS1, Lib.hid ⟨HI0.out, rfl, fun u hu => absurd hu (Nat.not_lt_zero _)⟩⟩
    case round =>
      clear HS1 HI0 hc
      obtain ⟨k, pv, ov, t, rfl, hk, HS, HI⟩ := hrel
      by_cases hkn : k < XS.length
      · have hkn' : (k : Int) < (XS.length : Int) := by omega
        obtain ⟨-, -, c2, -⟩ := HS.out.c1
        obtain ⟨cr0, -⟩ := or_cell HS.out.r HS.out.lr k hkn
        have cr : wr.cell? ⟨c.rg, k, none⟩ = some (.int .i64 (t.rk k)) := cr0
        clear cr0
        by_cases hz : t.rk k = 0
        · have HFR := Lib.hid (from_m HS.out HI.out.1 HI.out.2.1 hkn hz HR.out)
          rw [hz] at cr
          go_wp2_with (first | (go_at_call 34; refine (HFR.out).mono ?_; rintro en w4 ⟨rfl, pv4, ov4, t4, h4, h5, h6, h7, h8⟩; have H4 := Lib.hid h4; have H5 := Lib.hid (And.intro h5 (And.intro h6 (And.intro h7 h8))); clear h4 h5 h6 h7 h8))
          go_roundw
          case rel => exact ⟨k + 1, pv4, ov4, t4, by go_num, by omega, H4, Lib.hid ⟨H5.out.1, H5.out.2.1, fun u hu => by
            rcases Nat.lt_succ_iff_lt_or_eq.1 hu with q | q
            · exact H5.out.2.2.1 u (HI.out.2.2 u q)
            · rw [q]; exact H5.out.2.2.2⟩⟩
          case measure => simp [Lib.intOf]; omega
        · have HZ : Hid (∀ u, u = k → t.rk u ≠ 0) := Lib.hid (fun u q => by rw [q]; exact hz)
          generalize t.rk k = z at cr hz
          go_wp2_with fail
          go_roundw
          case rel => exact ⟨k + 1, pv, ov, t, by go_num, by omega, HS, Lib.hid ⟨HI.out.1, HI.out.2.1, fun u hu => by
            rcases Nat.lt_succ_iff_lt_or_eq.1 hu with q | q
            · exact HI.out.2.2 u q
            · exact HZ.out u q⟩⟩
          case measure => simp [Lib.intOf]; omega
      · have hke : k = XS.length := by omega
        have c7 : wr.drew.cell? ⟨c.sb, 7, none⟩ = some (.int .i64 (t.first : Int)) := HS.out.c1.2.2.2.2.2.2.2
        have HEN := Lib.hid (Inv.end_ HI.out.1 HI.out.2.1 (fun u hu => HI.out.2.2 u (by omega)))
        have HBW := Lib.hid (below_drew HS.out.fr)
        by_cases hfl : t.first < XS.length
        · have hfl' : (t.first : Int) < (XS.length : Int) := by omega
          have HFL := Lib.hid hfl
          subst hke
          go_wp2_with fail
          go_region
          all_goals
            go_wp2_with fail
            go_ret2
            exact ⟨_, true, rfl, ⟨fun _ => HFL.out, fun _ => rfl⟩, HEN.out.1, HEN.out.2, HBW.out⟩
        · have hfl' : ¬ (t.first : Int) < (XS.length : Int) := by omega
          have HFL := Lib.hid hfl
          subst hke
          go_wp2_with fail
          go_region
          all_goals
            go_wp2_with fail
            go_ret2
            exact ⟨_, false, rfl, ⟨fun q => absurd q (by decide), fun q => absurd q HFL.out⟩, HEN.out.1, HEN.out.2, HBW.out⟩
  · obtain ⟨c, hc, HS1⟩ : ∃ c : Cn, w.heap.size + 1 + 1 + 1 = c.sb ∧ Hid (SS w c XS ((((w.alloc (.cells (madeCells #[.int .i64 0] XS.length) 3)).alloc (.cells (madeCells #[.int .i64 0] XS.length) 3)).alloc (.cells (madeCells #[.int .i64 0] XS.length) 3)).alloc (.cells #[.slice (some ⟨wb, 0, none⟩) XS.length wc, .int .i64 0, .slice (some ⟨w.heap.size, 0, none⟩) XS.length XS.length, .slice (some ⟨w.heap.size + 1 + 1, 0, none⟩) XS.length XS.length, .slice (some ⟨w.heap.size + 1, 0, none⟩) XS.length XS.length, .slice none 0 0, .slice none 0 0, .int .i64 XS.length] 82)).drew (.slice none 0 0) (.slice none 0 0) (s0 XS.length)) :=
      ⟨_, rfl, Lib.hid (HMS.out (w.heap.size) (w.heap.size + 1 + 1) (w.heap.size + 1) (by omega) (by omega) (by omega) (by omega) (by omega) (by omega)).drew⟩
    generalize ((((w.alloc (.cells (madeCells #[.int .i64 0] XS.length) 3)).alloc (.cells (madeCells #[.int .i64 0] XS.length) 3)).alloc (.cells (madeCells #[.int .i64 0] XS.length) 3)).alloc (.cells #[.slice (some ⟨wb, 0, none⟩) XS.length wc, .int .i64 0, .slice (some ⟨w.heap.size, 0, none⟩) XS.length XS.length, .slice (some ⟨w.heap.size + 1 + 1, 0, none⟩) XS.length XS.length, .slice (some ⟨w.heap.size + 1, 0, none⟩) XS.length XS.length, .slice none 0 0, .slice none 0 0, .int .i64 XS.length] 82)).drew = w1 at HS1 ⊢
    clear HMS hmk
    rw [hc]
    go_wp2_with fail
    go_loopw [5, 22] (fun _ sk wr => ∃ (k : Nat) (pv ov : Value) (t : St), sk = .int .i64 k ∧ k ≤ XS.length ∧ Hid (SS w c XS wr pv ov t) ∧ Hid (Inv XS t ∧ t.path = [] ∧ ∀ u, u < k → t.rk u ≠ 0)) (fun _ sk _ => XS.length - (Lib.intOf sk).toNat)
    case atStart => exact ⟨0, _, _, _, rfl, Nat.zero_le _, HS1, Lib.hid ⟨HI0.out, rfl, fun u hu => absurd hu (Nat.not_lt_zero _)⟩⟩
    case round =>
      clear HS1 HI0 hc
      obtain ⟨k, pv, ov, t, rfl, hk, HS, HI⟩ := hrel
      by_cases hkn : k < XS.length
      · have hkn' : (k : Int) < (XS.length : Int) := by omega
        obtain ⟨-, -, c2, -⟩ := HS.out.c1
        obtain ⟨cr0, -⟩ := or_cell HS.out.r HS.out.lr k hkn
        have cr : wr.cell? ⟨c.rg, k, none⟩ = some (.int .i64 (t.rk k)) := cr0
        clear cr0
        by_cases hz : t.rk k = 0
        · have HFR := Lib.hid (from_m HS.out HI.out.1 HI.out.2.1 hkn hz HR.out)
          rw [hz] at cr
          go_wp2_with (first | (go_at_call 34; refine (HFR.out).mono ?_; rintro en w4 ⟨rfl, pv4, ov4, t4, h4, h5, h6, h7, h8⟩; have H4 := Lib.hid h4; have H5 := Lib.hid (And.intro h5 (And.intro h6 (And.intro h7 h8))); clear h4 h5 h6 h7 h8))
          go_roundw
          case rel => exact ⟨k + 1, pv4, ov4, t4, by go_num, by omega, H4, Lib.hid ⟨H5.out.1, H5.out.2.1, fun u hu => by
            rcases Nat.lt_succ_iff_lt_or_eq.1 hu with q | q
            · exact H5.out.2.2.1 u (HI.out.2.2 u q)
            · rw [q]; exact H5.out.2.2.2⟩⟩
          case measure => simp [Lib.intOf]; omega
        · have HZ : Hid (∀ u, u = k → t.rk u ≠ 0) := Lib.hid (fun u q => by rw [q]; exact hz)
          generalize t.rk k = z at cr hz
          go_wp2_with fail
          go_roundw
          case rel => exact ⟨k + 1, pv, ov, t, by go_num, by omega, HS, Lib.hid ⟨HI.out.1, HI.out.2.1, fun u hu => by
            rcases Nat.lt_succ_iff_lt_or_eq.1 hu with q | q
            · exact HI.out.2.2 u q
            · exact HZ.out u q⟩⟩
          case measure => simp [Lib.intOf]; omega
      · have hke : k = XS.length := by omega
        have c7 : wr.drew.cell? ⟨c.sb, 7, none⟩ = some (.int .i64 (t.first : Int)) := HS.out.c1.2.2.2.2.2.2.2
        have HEN := Lib.hid (Inv.end_ HI.out.1 HI.out.2.1 (fun u hu => HI.out.2.2 u (by omega)))
        have HBW := Lib.hid (below_drew HS.out.fr)
        by_cases hfl : t.first < XS.length
        · have hfl' : (t.first : Int) < (XS.length : Int) := by omega
          have HFL := Lib.hid hfl
          subst hke
          go_wp2_with fail
          go_region
          all_goals
            go_wp2_with fail
            go_ret2
            exact ⟨_, true, rfl, ⟨fun _ => HFL.out, fun _ => rfl⟩, HEN.out.1, HEN.out.2, HBW.out⟩
        · have hfl' : ¬ (t.first : Int) < (XS.length : Int) := by omega
          have HFL := Lib.hid hfl
          subst hke
          go_wp2_with fail
          go_region
          all_goals
            go_wp2_with fail
            go_ret2
            exact ⟨_, false, rfl, ⟨fun q => absurd q (by decide), fun q => absurd q HFL.out⟩, HEN.out.1, HEN.out.2, HBW.out⟩
  · obtain ⟨c, hc, HS1⟩ : ∃ c : Cn, w.heap.size + 1 + 1 + 1 = c.sb ∧ Hid (SS w c XS ((((w.alloc (.cells (madeCells #[.int .i64 0] XS.length) 3)).alloc (.cells (madeCells #[.int .i64 0] XS.length) 3)).alloc (.cells (madeCells #[.int .i64 0] XS.length) 3)).alloc (.cells #[.slice (some ⟨wb, 0, none⟩) XS.length wc, .int .i64 0, .slice (some ⟨w.heap.size + 1, 0, none⟩) XS.length XS.length, .slice (some ⟨w.heap.size, 0, none⟩) XS.length XS.length, .slice (some ⟨w.heap.size + 1 + 1, 0, none⟩) XS.length XS.length, .slice none 0 0, .slice none 0 0, .int .i64 XS.length] 82)).drew (.slice none 0 0) (.slice none 0 0) (s0 XS.length)) :=
      ⟨_, rfl, Lib.hid (HMS.out (w.heap.size + 1) (w.heap.size) (w.heap.size + 1 + 1) (by omega) (by omega) (by omega) (by omega) (by omega) (by omega)).drew⟩
    generalize ((((w.alloc (.cells (madeCells #[.int .i64 0] XS.length) 3)).alloc (.cells (madeCells #[.int .i64 0] XS.length) 3)).alloc (.cells (madeCells #[.int .i64 0] XS.length) 3)).alloc (.cells #[.slice (some ⟨wb, 0, none⟩) XS.length wc, .int .i64 0, .slice (some ⟨w.heap.size + 1, 0, none⟩) XS.length XS.length, .slice (some ⟨w.heap.size, 0, none⟩) XS.length XS.length, .slice (some ⟨w.heap.size + 1 + 1, 0, none⟩) XS.length XS.length, .slice none 0 0, .slice none 0 0, .int .i64 XS.length] 82)).drew = w1 at HS1 ⊢
    clear HMS hmk
    rw [hc]
    go_wp2_with fail
    go_loopw [5, 22] (fun _ sk wr => ∃ (k : Nat) (pv ov : Value) (t : St), sk = .int .i64 k ∧ k ≤ XS.length ∧ Hid (SS w c XS wr pv ov t) ∧ Hid (Inv XS t ∧ t.path = [] ∧ ∀ u, u < k → t.rk u ≠ 0)) (fun _ sk _ => XS.length - (Lib.intOf sk).toNat)
    case atStart => exact ⟨0, _, _, _, rfl, Nat.zero_le _, HS1, Lib.hid ⟨HI0.out, rfl, fun u hu => absurd hu (Nat.not_lt_zero _)⟩⟩
    case round =>
      clear HS1 HI0 hc
      obtain ⟨k, pv, ov, t, rfl, hk, HS, HI⟩ := hrel
      by_cases hkn : k < XS.length
      · have hkn' : (k : Int) < (XS.length : Int) := by omega
        obtain ⟨-, -, c2, -⟩ := HS.out.c1
        obtain ⟨cr0, -⟩ := or_cell HS.out.r HS.out.lr k hkn
        have cr : wr.cell? ⟨c.rg, k, none⟩ = some (.int .i64 (t.rk k)) := cr0
        clear cr0
        by_cases hz : t.rk k = 0
        · have HFR := Lib.hid (from_m HS.out HI.out.1 HI.out.2.1 hkn hz HR.out)
          rw [hz] at cr
          go_wp2_with (first | (go_at_call 34; refine (HFR.out).mono ?_; rintro en w4 ⟨rfl, pv4, ov4, t4, h4, h5, h6, h7, h8⟩; have H4 := Lib.hid h4; have H5 := Lib.hid (And.intro h5 (And.intro h6 (And.intro h7 h8))); clear h4 h5 h6 h7 h8))
          go_roundw
          case rel => exact ⟨k + 1, pv4, ov4, t4, by go_num, by omega, H4, Lib.hid ⟨H5.out.1, H5.out.2.1, fun u hu => by
            rcases Nat.lt_succ_iff_lt_or_eq.1 hu with q | q
            · exact H5.out.2.2.1 u (HI.out.2.2 u q)
            · rw [q]; exact H5.out.2.2.2⟩⟩
          case measure => simp [Lib.intOf]; omega
        · have HZ : Hid (∀ u, u = k → t.rk u ≠ 0) := Lib.hid (fun u q => by rw [q]; exact hz)
          generalize t.rk k = z at cr hz
          go_wp2_with fail
          go_roundw
          case rel => exact ⟨k + 1, pv, ov, t, by go_num, by omega, HS, Lib.hid ⟨HI.out.1, HI.out.2.1, fun u hu => by
            rcases Nat.lt_succ_iff_lt_or_eq.1 hu with q | q
            · exact HI.out.2.2 u q
            · exact HZ.out u q⟩⟩
          case measure => simp [Lib.intOf]; omega
      · have hke : k = XS.length := by omega
        have c7 : wr.drew.cell? ⟨c.sb, 7, none⟩ = some (.int .i64 (t.first : Int)) := HS.out.c1.2.2.2.2.2.2.2
        have HEN := Lib.hid (Inv.end_ HI.out.1 HI.out.2.1 (fun u hu => HI.out.2.2 u (by omega)))
        have HBW := Lib.hid (below_drew HS.out.fr)
        by_cases hfl : t.first < XS.length
        · have hfl' : (t.first : Int) < (XS.length : Int) := by omega
          have HFL := Lib.hid hfl
          subst hke
          go_wp2_with fail
          go_region
          all_goals
            go_wp2_with fail
            go_ret2
            exact ⟨_, true, rfl, ⟨fun _ => HFL.out, fun _ => rfl⟩, HEN.out.1, HEN.out.2, HBW.out⟩
        · have hfl' : ¬ (t.first : Int) < (XS.length : Int) := by omega
          have HFL := Lib.hid hfl
          subst hke
          go_wp2_with fail
          go_region
          all_goals
            go_wp2_with fail
            go_ret2
            exact ⟨_, false, rfl, ⟨fun q => absurd q (by decide), fun q => absurd q HFL.out⟩, HEN.out.1, HEN.out.2, HBW.out⟩
  · obtain ⟨c, hc, HS1⟩ : ∃ c : Cn, w.heap.size + 1 + 1 + 1 = c.sb ∧ Hid (SS w c XS ((((w.alloc (.cells (madeCells #[.int .i64 0] XS.length) 3)).alloc (.cells (madeCells #[.int .i64 0] XS.length) 3)).alloc (.cells (madeCells #[.int .i64 0] XS.length) 3)).alloc (.cells #[.slice (some ⟨wb, 0, none⟩) XS.length wc, .int .i64 0, .slice (some ⟨w.heap.size + 1 + 1, 0, none⟩) XS.length XS.length, .slice (some ⟨w.heap.size, 0, none⟩) XS.length XS.length, .slice (some ⟨w.heap.size + 1, 0, none⟩) XS.length XS.length, .slice none 0 0, .slice none 0 0, .int .i64 XS.length] 82)).drew (.slice none 0 0) (.slice none 0 0) (s0 XS.length)) :=
      ⟨_, rfl, Lib.hid (HMS.out (w.heap.size + 1 + 1) (w.heap.size) (w.heap.size + 1) (by omega) (by omega) (by omega) (by omega) (by omega) (by omega)).drew⟩
    generalize ((((w.alloc (.cells (madeCells #[.int .i64 0] XS.length) 3)).alloc (.cells (madeCells #[.int .i64 0] XS.length) 3)).alloc (.cells (madeCells #[.int .i64 0] XS.length) 3)).alloc (.cells #[.slice (some ⟨wb, 0, none⟩) XS.length wc, .int .i64 0, .slice (some ⟨w.heap.size + 1 + 1, 0, none⟩) XS.length XS.length, .slice (some ⟨w.heap.size, 0, none⟩) XS.length XS.length, .slice (some ⟨w.heap.size + 1, 0, none⟩) XS.length XS.length, .slice none 0 0, .slice none 0 0, .int .i64 XS.length] 82)).drew = w1 at HS1 ⊢
    clear HMS hmk
    rw [hc]
    go_wp2_with fail
    go_loopw [5, 22] (fun _ sk wr => ∃ (k : Nat) (pv ov : Value) (t : St), sk = .int .i64 k ∧ k ≤ XS.length ∧ Hid (SS w c XS wr pv ov t) ∧ Hid (Inv XS t ∧ t.path = [] ∧ ∀ u, u < k → t.rk u ≠ 0)) (fun _ sk _ => XS.length - (Lib.intOf sk).toNat)
    case atStart => exact ⟨0, _, _, _, rfl, Nat.zero_le _, HS1, Lib.hid ⟨HI0.out, rfl, fun u hu => absurd hu (Nat.not_lt_zero _)⟩⟩
    case round =>
      clear HS1 HI0 hc
      obtain ⟨k, pv, ov, t, rfl, hk, HS, HI⟩ := hrel
      by_cases hkn : k < XS.length
      · have hkn' : (k : Int) < (XS.length : Int) := by omega
        obtain ⟨-, -, c2, -⟩ := HS.out.c1
        obtain ⟨cr0, -⟩ := or_cell HS.out.r HS.out.lr k hkn
        have cr : wr.cell? ⟨c.rg, k, none⟩ = some (.int .i64 (t.rk k)) := cr0
        clear cr0
        by_cases hz : t.rk k = 0
        · have HFR := Lib.hid (from_m HS.out HI.out.1 HI.out.2.1 hkn hz HR.out)
          rw [hz] at cr
          go_wp2_with (first | (go_at_call 34; refine (HFR.out).mono ?_; rintro en w4 ⟨rfl, pv4, ov4, t4, h4, h5, h6, h7, h8⟩; have H4 := Lib.hid h4; have H5 := Lib.hid (And.intro h5 (And.intro h6 (And.intro h7 h8))); clear h4 h5 h6 h7 h8))
          go_roundw
          case rel => exact ⟨k + 1, pv4, ov4, t4, by go_num, by omega, H4, Lib.hid ⟨H5.out.1, H5.out.2.1, fun u hu => by
            rcases Nat.lt_succ_iff_lt_or_eq.1 hu with q | q
            · exact H5.out.2.2.1 u (HI.out.2.2 u q)
            · rw [q]; exact H5.out.2.2.2⟩⟩
          case measure => simp [Lib.intOf]; omega
        · have HZ : Hid (∀ u, u = k → t.rk u ≠ 0) := Lib.hid (fun u q => by rw [q]; exact hz)
          generalize t.rk k = z at cr hz
          go_wp2_with fail
          go_roundw
          case rel => exact ⟨k + 1, pv, ov, t, by go_num, by omega, HS, Lib.hid ⟨HI.out.1, HI.out.2.1, fun u hu => by
            rcases Nat.lt_succ_iff_lt_or_eq.1 hu with q | q
            · exact HI.out.2.2 u q
            · exact HZ.out u q⟩⟩
          case measure => simp [Lib.intOf]; omega
      · have hke : k = XS.length := by omega
        have c7 : wr.drew.cell? ⟨c.sb, 7, none⟩ = some (.int .i64 (t.first : Int)) := HS.out.c1.2.2.2.2.2.2.2
        have HEN := Lib.hid (Inv.end_ HI.out.1 HI.out.2.1 (fun u hu => HI.out.2.2 u (by omega)))
        have HBW := Lib.hid (below_drew HS.out.fr)
        by_cases hfl : t.first < XS.length
        · have hfl' : (t.first : Int) < (XS.length : Int) := by omega
          have HFL := Lib.hid hfl
          subst hke
          go_wp2_with fail
          go_region
          all_goals
            go_wp2_with fail
            go_ret2
            exact ⟨_, true, rfl, ⟨fun _ => HFL.out, fun _ => rfl⟩, HEN.out.1, HEN.out.2, HBW.out⟩
        · have hfl' : ¬ (t.first : Int) < (XS.length : Int) := by omega
          have HFL := Lib.hid hfl
          subst hke
          go_wp2_with fail
          go_region
          all_goals
            go_wp2_with fail
            go_ret2
            exact ⟨_, false, rfl, ⟨fun q => absurd q (by decide), fun q => absurd q HFL.out⟩, HEN.out.1, HEN.out.2, HBW.out⟩
  · obtain ⟨c, hc, HS1⟩ : ∃ c : Cn, w.heap.size + 1 + 1 + 1 = c.sb ∧ Hid (SS w c XS ((((w.alloc (.cells (madeCells #[.int .i64 0] XS.length) 3)).alloc (.cells (madeCells #[.int .i64 0] XS.length) 3)).alloc (.cells (madeCells #[.int .i64 0] XS.length) 3)).alloc (.cells #[.slice (some ⟨wb, 0, none⟩) XS.length wc, .int .i64 0, .slice (some ⟨w.heap.size + 1, 0, none⟩) XS.length XS.length, .slice (some ⟨w.heap.size + 1 + 1, 0, none⟩) XS.length XS.length, .slice (some ⟨w.heap.size, 0, none⟩) XS.length XS.length, .slice none 0 0, .slice none 0 0, .int .i64 XS.length] 82)).drew (.slice none 0 0) (.slice none 0 0) (s0 XS.length)) :=
      ⟨_, rfl, Lib.hid (HMS.out (w.heap.size + 1) (w.heap.size + 1 + 1) (w.heap.size) (by omega) (by omega) (by omega) (by omega) (by omega) (by omega)).drew⟩
    generalize ((((w.alloc (.cells (madeCells #[.int .i64 0] XS.length) 3)).alloc (.cells (madeCells #[.int .i64 0] XS.length) 3)).alloc (.cells (madeCells #[.int .i64 0] XS.length) 3)).alloc (.cells #[.slice (some ⟨wb, 0, none⟩) XS.length wc, .int .i64 0, .slice (some ⟨w.heap.size + 1, 0, none⟩) XS.length XS.length, .slice (some ⟨w.heap.size + 1 + 1, 0, none⟩) XS.length XS.length, .slice (some ⟨w.heap.size, 0, none⟩) XS.length XS.length, .slice none 0 0, .slice none 0 0, .int .i64 XS.length] 82)).drew = w1 at HS1 ⊢
    clear HMS hmk
    rw [hc]
    go_wp2_with fail
    go_loopw [5, 22] (fun _ sk wr => ∃ (k : Nat) (pv ov : Value) (t : St), sk = .int .i64 k ∧ k ≤ XS.length ∧ Hid (SS w c XS wr pv ov t) ∧ Hid (Inv XS t ∧ t.path = [] ∧ ∀ u, u < k → t.rk u ≠ 0)) (fun _ sk _ => XS.length - (Lib.intOf sk).toNat)
    case atStart => exact ⟨0, _, _, _, rfl, Nat.zero_le _, HS1, Lib.hid ⟨HI0.out, rfl, fun u hu => absurd hu (Nat.not_lt_zero _)⟩⟩
    case round =>
      clear HS1 HI0 hc
      obtain ⟨k, pv, ov, t, rfl, hk, HS, HI⟩ := hrel
      by_cases hkn : k < XS.length
      · have hkn' : (k : Int) < (XS.length : Int) := by omega
        obtain ⟨-, -, c2, -⟩ := HS.out.c1
        obtain ⟨cr0, -⟩ := or_cell HS.out.r HS.out.lr k hkn
        have cr : wr.cell? ⟨c.rg, k, none⟩ = some (.int .i64 (t.rk k)) := cr0
        clear cr0
        by_cases hz : t.rk k = 0
        · have HFR := Lib.hid (from_m HS.out HI.out.1 HI.out.2.1 hkn hz HR.out)
          rw [hz] at cr
          go_wp2_with (first | (go_at_call 34; refine (HFR.out).mono ?_; rintro en w4 ⟨rfl, pv4, ov4, t4, h4, h5, h6, h7, h8⟩; have H4 := Lib.hid h4; have H5 := Lib.hid (And.intro h5 (And.intro h6 (And.intro h7 h8))); clear h4 h5 h6 h7 h8))
          go_roundw
          case rel => exact ⟨k + 1, pv4, ov4, t4, by go_num, by omega, H4, Lib.hid ⟨H5.out.1, H5.out.2.1, fun u hu => by
            rcases Nat.lt_succ_iff_lt_or_eq.1 hu with q | q
            · exact H5.out.2.2.1 u (HI.out.2.2 u q)
            · rw [q]; exact H5.out.2.2.2⟩⟩
          case measure => simp [Lib.intOf]; omega
        · have HZ : Hid (∀ u, u = k → t.rk u ≠ 0) := Lib.hid (fun u q => by rw [q]; exact hz)
          generalize t.rk k = z at cr hz
          go_wp2_with fail
          go_roundw
          case rel => exact ⟨k + 1, pv, ov, t, by go_num, by omega, HS, Lib.hid ⟨HI.out.1, HI.out.2.1, fun u hu => by
            rcases Nat.lt_succ_iff_lt_or_eq.1 hu with q | q
            · exact HI.out.2.2 u q
            · exact HZ.out u q⟩⟩
          case measure => simp [Lib.intOf]; omega
      · have hke : k = XS.length := by omega
        have c7 : wr.drew.cell? ⟨c.sb, 7, none⟩ = some (.int .i64 (t.first : Int)) := HS.out.c1.2.2.2.2.2.2.2
        have HEN := Lib.hid (Inv.end_ HI.out.1 HI.out.2.1 (fun u hu => HI.out.2.2 u (by omega)))
        have HBW := Lib.hid (below_drew HS.out.fr)
        by_cases hfl : t.first < XS.length
        · have hfl' : (t.first : Int) < (XS.length : Int) := by omega
          have HFL := Lib.hid hfl
          subst hke
          go_wp2_with fail
          go_region
          all_goals
            go_wp2_with fail
            go_ret2
            exact ⟨_, true, rfl, ⟨fun _ => HFL.out, fun _ => rfl⟩, HEN.out.1, HEN.out.2, HBW.out⟩
        · have hfl' : ¬ (t.first : Int) < (XS.length : Int) := by omega
          have HFL := Lib.hid hfl
          subst hke
          go_wp2_with fail
          go_region
          all_goals
            go_wp2_with fail
            go_ret2
            exact ⟨_, false, rfl, ⟨fun q => absurd q (by decide), fun q => absurd q HFL.out⟩, HEN.out.1, HEN.out.2, HBW.out⟩
  · obtain ⟨c, hc, HS1⟩ : ∃ c : Cn, w.heap.size + 1 + 1 + 1 = c.sb ∧ Hid (SS w c XS ((((w.alloc (.cells (madeCells #[.int .i64 0] XS.length) 3)).alloc (.cells (madeCells #[.int .i64 0] XS.length) 3)).alloc (.cells (madeCells #[.int .i64 0] XS.length) 3)).alloc (.cells #[.slice (some ⟨wb, 0, none⟩) XS.length wc, .int .i64 0, .slice (some ⟨w.heap.size + 1 + 1, 0, none⟩) XS.length XS.length, .slice (some ⟨w.heap.size + 1, 0, none⟩) XS.length XS.length, .slice (some ⟨w.heap.size, 0, none⟩) XS.length XS.length, .slice none 0 0, .slice none 0 0, .int .i64 XS.length] 82)).drew (.slice none 0 0) (.slice none 0 0) (s0 XS.length)) :=
      ⟨_, rfl, Lib.hid (HMS.out (w.heap.size + 1 + 1) (w.heap.size + 1) (w.heap.size) (by omega) (by omega) (by omega) (by omega) (by omega) (by omega)).drew⟩
    generalize ((((w.alloc (.cells (madeCells #[.int .i64 0] XS.length) 3)).alloc (.cells (madeCells #[.int .i64 0] XS.length) 3)).alloc (.cells (madeCells #[.int .i64 0] XS.length) 3)).alloc (.cells #[.slice (some ⟨wb, 0, none⟩) XS.length wc, .int .i64 0, .slice (some ⟨w.heap.size + 1 + 1, 0, none⟩) XS.length XS.length, .slice (some ⟨w.heap.size + 1, 0, none⟩) XS.length XS.length, .slice (some ⟨w.heap.size, 0, none⟩) XS.length XS.length, .slice none 0 0, .slice none 0 0, .int .i64 XS.length] 82)).drew = w1 at HS1 ⊢
    clear HMS hmk
    rw [hc]
    go_wp2_with fail
    go_loopw [5, 22] (fun _ sk wr => ∃ (k : Nat) (pv ov : Value) (t : St), sk = .int .i64 k ∧ k ≤ XS.length ∧ Hid (SS w c XS wr pv ov t) ∧ Hid (Inv XS t ∧ t.path = [] ∧ ∀ u, u < k → t.rk u ≠ 0)) (fun _ sk _ => XS.length - (Lib.intOf sk).toNat)
    case atStart => exact ⟨0, _, _, _, rfl, Nat.zero_le _, HS1, Lib.hid ⟨HI0.out, rfl, fun u hu => absurd hu (Nat.not_lt_zero _)⟩⟩
    case round =>
      clear HS1 HI0 hc
      obtain ⟨k, pv, ov, t, rfl, hk, HS, HI⟩ := hrel
      by_cases hkn : k < XS.length
      · have hkn' : (k : Int) < (XS.length : Int) := by omega
        obtain ⟨-, -, c2, -⟩ := HS.out.c1
        obtain ⟨cr0, -⟩ := or_cell HS.out.r HS.out.lr k hkn
        have cr : wr.cell? ⟨c.rg, k, none⟩ = some (.int .i64 (t.rk k)) := cr0
        clear cr0
        by_cases hz : t.rk k = 0
        · have HFR := Lib.hid (from_m HS.out HI.out.1 HI.out.2.1 hkn hz HR.out)
          rw [hz] at cr
          go_wp2_with (first | (go_at_call 34; refine (HFR.out).mono ?_; rintro en w4 ⟨rfl, pv4, ov4, t4, h4, h5, h6, h7, h8⟩; have H4 := Lib.hid h4; have H5 := Lib.hid (And.intro h5 (And.intro h6 (And.intro h7 h8))); clear h4 h5 h6 h7 h8))
          go_roundw
          case rel => exact ⟨k + 1, pv4, ov4, t4, by go_num, by omega, H4, Lib.hid ⟨H5.out.1, H5.out.2.1, fun u hu => by
            rcases Nat.lt_succ_iff_lt_or_eq.1 hu with q | q
            · exact H5.out.2.2.1 u (HI.out.2.2 u q)
            · rw [q]; exact H5.out.2.2.2⟩⟩
          case measure => simp [Lib.intOf]; omega
        · have HZ : Hid (∀ u, u = k → t.rk u ≠ 0) := Lib.hid (fun u q => by rw [q]; exact hz)
          generalize t.rk k = z at cr hz
          go_wp2_with fail
          go_roundw
          case rel => exact ⟨k + 1, pv, ov, t, by go_num, by omega, HS, Lib.hid ⟨HI.out.1, HI.out.2.1, fun u hu => by
            rcases Nat.lt_succ_iff_lt_or_eq.1 hu with q | q
            · exact HI.out.2.2 u q
            · exact HZ.out u q⟩⟩
          case measure => simp [Lib.intOf]; omega
      · have hke : k = XS.length := by omega
        have c7 : wr.drew.cell? ⟨c.sb, 7, none⟩ = some (.int .i64 (t.first : Int)) := HS.out.c1.2.2.2.2.2.2.2
        have HEN := Lib.hid (Inv.end_ HI.out.1 HI.out.2.1 (fun u hu => HI.out.2.2 u (by omega)))
        have HBW := Lib.hid (below_drew HS.out.fr)
        by_cases hfl : t.first < XS.length
        · have hfl' : (t.first : Int) < (XS.length : Int) := by omega
          have HFL := Lib.hid hfl
          subst hke
          go_wp2_with fail
          go_region
          all_goals
            go_wp2_with fail
            go_ret2
            exact ⟨_, true, rfl, ⟨fun _ => HFL.out, fun _ => rfl⟩, HEN.out.1, HEN.out.2, HBW.out⟩
        · have hfl' : ¬ (t.first : Int) < (XS.length : Int) := by omega
          have HFL := Lib.hid hfl
          subst hke
          go_wp2_with fail
          go_region
          all_goals
            go_wp2_with fail
            go_ret2
            exact ⟨_, false, rfl, ⟨fun q => absurd q (by decide), fun q => absurd q HFL.out⟩, HEN.out.1, HEN.out.2, HBW.out⟩
end Tj
end Go.Proofs.YtmhpaacjioeknaaGreat
