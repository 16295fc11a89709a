/-
  DERIVED. The walks of 'are they the same': the law's own 'small'.
-/
import Derived.Test.YtjkgkigfmcegoaaWt
import Derived.Test.YtjkgkigfmcegoaaRf
namespace Go.Proofs.Ytjkgkigfmcegoaa
open Go.RowKit Go.Sort

def SomeBool (w : World) (en : Ending) (w' : World) : Prop := ∃ b, en = .returned (.bool b) ∧ Below w.heap.size w w'

set_option maxHeartbeats 3200000 in
set_option maxRecDepth 100000 in
theorem small_any (x : Pg) (w : World) (rx : pgLies w x) : Calls Try.prog 6 #[.agg #[.slice x.structs.p x.structs.l.length x.structs.cap, .slice x.globals.p x.globals.l.length x.globals.cap, .slice x.procs.p x.procs.l.length x.procs.cap]] w (SomeBool w) := by
  have ha : Below w.heap.size w (w.alloc (.cells #[.slice x.structs.p x.structs.l.length x.structs.cap, .slice x.globals.p x.globals.l.length x.globals.cap, .slice x.procs.p x.procs.l.length x.procs.cap] 26)) := (Below.refl _ _).alloc (Nat.le_refl _) _
  have K : ∀ w', Below (w.alloc (.cells #[.slice x.structs.p x.structs.l.length x.structs.cap, .slice x.globals.p x.globals.l.length x.globals.cap, .slice x.procs.p x.procs.l.length x.procs.cap] 26)).heap.size (w.alloc (.cells #[.slice x.structs.p x.structs.l.length x.structs.cap, .slice x.globals.p x.globals.l.length x.globals.cap, .slice x.procs.p x.procs.l.length x.procs.cap] 26)) w' → w'.cell? ⟨w.heap.size, 0, none⟩ = some (.slice x.structs.p x.structs.l.length x.structs.cap) ∧ w'.cell? ⟨w.heap.size, 2, none⟩ = some (.slice x.procs.p x.procs.l.length x.procs.cap) := fun w' hb =>
    ⟨(hb.cell (p := ⟨w.heap.size, 0, none⟩) (by simp)).trans (cell_of_row _ _ 0 _ _ _ (heap_alloc_new w _)), (hb.cell (p := ⟨w.heap.size, 2, none⟩) (by simp)).trans (cell_of_row _ _ 2 _ _ _ (heap_alloc_new w _))⟩
  have h1 : Lay 3 Sr.cells srLies w x.structs.p x.structs.l := rx.1
  have h2 : Lay 6 Pc.cells pcLies w x.procs.p x.procs.l := rx.2.2
  have hg : x.globals.l.length ≤ 6000000000000 := by have := rx.2.1.1; omega
  obtain ⟨hl1, h1⟩ := h1
  obtain ⟨hl2, h2⟩ := h2
  have HA := Lib.hid ha
  have HK := Lib.hid K
  have H1 := Lib.hid h1
  have H2 := Lib.hid h2
  clear ha K h1 h2 rx
  generalize x.structs.l = l at *
  generalize x.procs.l = m at *
  generalize x.structs.p = p1 at *
  generalize x.procs.p = p2 at *
  generalize x.structs.cap = c1 at *
  generalize x.procs.cap = c2 at *
  generalize x.globals.l = gl at *
  generalize x.globals.p = gp at *
  generalize x.globals.cap = gc at *
  go_enter Try.func6, Try.ntmps6
  go_wp2_with fail
  generalize (w.alloc (.cells #[.slice p1 l.length c1, .slice gp gl.length gc, .slice p2 m.length c2] 26)) = wA at HA HK ⊢
  go_loopw [3, 4] (fun v i wr => ∃ (k : Nat) (n : Int), i = .int .i64 k ∧ k ≤ l.length ∧ v = .int .i64 n ∧ Hid (Below wA.heap.size wA wr)) (fun _ i _ => l.length - (intOf i).toNat)
  case atStart => exact ⟨0, _, rfl, Nat.zero_le _, rfl, Lib.hid (Below.refl _ _)⟩
  case round =>
    obtain ⟨k, n, rfl, hk, rfl, HB⟩ := hrel
    obtain ⟨ka, kb⟩ := HK.out wr HB.out
    have HBW : Hid (Below w.heap.size w wr) := Lib.hid (HA.out.trans (HB.out.mono HA.out.size))
    by_cases hkl : k < l.length
    · obtain ⟨b1, o1, hp1, h1x⟩ : ∃ b o, p1 = some ⟨b, o, none⟩ ∧ ∀ k x, l[k]? = some x → w.rangeAt b (o + k * 3) (Sr.cells x) ∧ srLies w x := by
        rcases H1.out with h | h
        · rw [h] at hkl; simp at hkl
        · exact h
      subst hp1
      have hx1 := h1x k l[k] (List.getElem?_eq_getElem hkl)
      have cx0 := cell_at (rangeAt_below hx1.1 HBW.out) 0 _ rfl
      have cx2 := cell_at (rangeAt_below hx1.1 HBW.out) 2 _ rfl
      rw [Nat.add_zero] at cx0
      have hk0 : (0 : Int) ≤ (k : Int) := Int.natCast_nonneg _
      have hk1 : (k : Int) < (l.length : Int) := by omega
      generalize l[k] = xk at hx1 cx0 cx2
      clear h1x hx1
      go_wp2_with fail
      go_quiet (fail)
      go_wp2_with fail
      go_roundw
      case rel => exact ⟨k + 1, _, by go_num, by omega, rfl, Lib.hid (below_drewN_ HB.out _)⟩
      case measure => simp [intOf]; omega
    · go_wp2_with fail
      obtain ⟨wo, rfl⟩ : ∃ wo : World, wo = wr := ⟨_, rfl⟩
      go_loopw [3, 5] (fun v i wr => ∃ (k : Nat) (n : Int), i = .int .i64 k ∧ k ≤ m.length ∧ v = .int .i64 n ∧ Hid (Below wA.heap.size wA wr)) (fun _ i _ => m.length - (intOf i).toNat)
      case atStart => exact ⟨0, _, rfl, Nat.zero_le _, rfl, HB⟩
      case round =>
        clear ka kb hkl hk HBW
        obtain ⟨k, n, rfl, hk, rfl, HC⟩ := hrel
        obtain ⟨ka, kb⟩ := HK.out wr HC.out
        have HBW : Hid (Below w.heap.size w wr) := Lib.hid (HA.out.trans (HC.out.mono HA.out.size))
        by_cases hkl : k < m.length
        · obtain ⟨b2, o2, hp2, h2x⟩ : ∃ b o, p2 = some ⟨b, o, none⟩ ∧ ∀ k x, m[k]? = some x → w.rangeAt b (o + k * 6) (Pc.cells x) ∧ pcLies w x := by
            rcases H2.out with h | h
            · rw [h] at hkl; simp at hkl
            · exact h
          subst hp2
          have hx1 := h2x k m[k] (List.getElem?_eq_getElem hkl)
          have lx3 := cell_regrown (cell_at (rangeAt_below hx1.1 HBW.out) 3 _ rfl)
          have lx4 := cell_regrown (cell_at (rangeAt_below hx1.1 HBW.out) 4 _ rfl)
          have lx5 := cell_regrown (cell_at (rangeAt_below hx1.1 HBW.out) 5 _ rfl)
          have qb := cell_regrown kb
          have hk0 : (0 : Int) ≤ (k : Int) := Int.natCast_nonneg _
          have hk1 : (k : Int) < (m.length : Int) := by omega
          generalize m[k] = xk at hx1 lx3 lx4 lx5
          have CV : ∀ dd os, Calls Try.prog 18 #[.slice xk.bp xk.body.len xk.bc, .int .i64 0] (grow (redrawn wr dd) os) fun en w'' => en = .returned (.int .i64 (wt xk.body 0)) ∧ ∃ p : Regrown, w'' = grow (redrawn wr p.d) p.os :=
            fun dd os => Calls.regrown_of (weight_any xk.body xk.bp xk.bc 0 _ (Int.le_refl _) (by omega) (sLies_below (sLies_below hx1.2.2.2.1 HBW.out) (below_regrown _ _ _)))
          generalize wt xk.body 0 = wb at CV
          clear h2x hx1
          go_wp2_with fail
          refine wp_region_quiet_below (by kernel_rfl) (by kernel_rfl) ?_
          repeat (go_big_quiet_step (with_reducible exact CV _ _))
          refine wpQuiet_nil ?_
          intro _ hw'
          obtain ⟨⟨dq, osq⟩, hw''⟩ := hw'
          subst hw''
          have HB3 := Lib.hid (below_regrown wr dq osq)
          generalize grow (redrawn wr dq) osq = w3 at HB3 ⊢
          go_wp2_with fail
          go_roundw
          case rel => exact ⟨k + 1, _, by go_num, by omega, rfl, Lib.hid (HC.out.trans (HB3.out.mono HC.out.size))⟩
          case measure => simp [intOf]; omega
        · go_wp2_with fail
          all_goals
            go_ret
            exact ⟨_, rfl, HBW.out⟩

end Go.Proofs.Ytjkgkigfmcegoaa
