/-
  DERIVED. The walk of the law ScopeBuilds.
-/
import Derived.Test.YtjkgkigfmcegoaaRc
import Derived.Test.YtjkgkigfmcegoaaSmW
namespace Go.Proofs.Ytjkgkigfmcegoaa
open Go.RowKit Go.Sort Go.Maps

set_option maxHeartbeats 3200000 in
set_option maxRecDepth 100000 in
theorem builds_law (x : Pg) (w : World) (hx : pgLies w x) : Calls Try.prog 3 #[.agg (pval x)] w fun en w' => en = .returned (.bool true) ∧ Below w.heap.size w w' := by
  have HA : Hid (Below w.heap.size w (w.alloc (.cells (pval x) 26))) := Lib.hid ((Below.refl _ _).alloc (Nat.le_refl _) _)
  have HK : Hid (Bk (w.alloc (.cells (pval x) 26)) w.heap.size 26 (pval x)) := Lib.hid (heap_alloc_new _ _)
  have HX := Lib.hid hx
  clear hx
  unfold pval at HA HK
  go_enter Try.func3, Try.ntmps3
  go_wp2_with fail
  generalize w.alloc (.cells #[.slice x.structs.p x.structs.l.length x.structs.cap, .slice x.globals.p x.globals.l.length x.globals.cap, .slice x.procs.p x.procs.l.length x.procs.cap] 26) = wA at HA HK ⊢
  refine (small_any x wA (pgLies_below HX.out HA.out)).mono ?_; rintro en w1 ⟨b, rfl, hb⟩
  have HB1 := Lib.hid (HA.out.trans (hb.mono HA.out.size))
  have HK1 := Lib.hid (HK.out.below hb HK.out.lt)
  clear hb
  cases b
  · go_wp2_with fail
    refine (lives_any w1).mono ?_; rintro en w2 ⟨rfl, hb⟩
    have HB2 := Lib.hid (HB1.out.trans (hb.mono HB1.out.size))
    clear hb
    go_wp2_with fail
    go_ret
    exact ⟨rfl, HB2.out⟩
  · have k0 : w1.cell? ⟨w.heap.size, 0, none⟩ = some (.slice x.structs.p x.structs.l.length x.structs.cap) := HK1.out.cell 0
    have k1 : w1.cell? ⟨w.heap.size, 1, none⟩ = some (.slice x.globals.p x.globals.l.length x.globals.cap) := HK1.out.cell 1
    have k2 : w1.cell? ⟨w.heap.size, 2, none⟩ = some (.slice x.procs.p x.procs.l.length x.procs.cap) := HK1.out.cell 2
    go_wp2_with fail
    refine (build_any x w1 (pgLies_below HX.out HB1.out)).mono ?_; rintro en w2 ⟨t, rfl, h1, h2, hb⟩
    have HB2 := Lib.hid (HB1.out.trans (hb.mono HB1.out.size))
    have HK2 := Lib.hid (HK1.out.below hb HK1.out.lt)
    have HT1 : Hid ((buildGo x).2 = 0 → ∃ M, t = tptr M) := Lib.hid (fun h => by obtain ⟨M, h3, _⟩ := h1 h; exact ⟨M, h3⟩)
    have HT2 := Lib.hid h2
    clear hb k0 k1 k2 h1 h2
    have k0 : w2.cell? ⟨w.heap.size, 0, none⟩ = some (.slice x.structs.p x.structs.l.length x.structs.cap) := HK2.out.cell 0
    have k1 : w2.cell? ⟨w.heap.size, 1, none⟩ = some (.slice x.globals.p x.globals.l.length x.globals.cap) := HK2.out.cell 1
    have k2 : w2.cell? ⟨w.heap.size, 2, none⟩ = some (.slice x.procs.p x.procs.l.length x.procs.cap) := HK2.out.cell 2
    go_wp2_with fail
    refine (refBuild_any x w2 (pgLies_below HX.out HB2.out)).mono ?_; rintro en w3 ⟨cs, rfl, hb, hc, _⟩
    have HB3 := Lib.hid (HB2.out.trans (hb.mono HB2.out.size))
    have HCS : Hid ((Try.prog.info? 35).map (·.size) = some cs.size) := Lib.hid (by rw [hc.1]; exact size35)
    have HC4 : Hid (4 = cs.size) := Lib.hid hc.1.symm
    have HC1 := Lib.hid hc.2
    clear hb hc k0 k1 k2
    by_cases he : (buildGo x).2 = 0
    · obtain ⟨M, rfl⟩ := HT1.out he
      have HB4 : Hid (Below w.heap.size w (w3.alloc (.cells cs 35))) := Lib.hid (HB3.out.alloc HB3.out.size _)
      rw [he]
      clear he
      unfold tptr
      go_wp2_with (first | ((with_reducible show wpList _ _ _ (Oper.mk none (Op.store _ _ _) _ _ _ _ :: _) _ _); refine wpList_store_new rfl 35 (.tmp 6) (.tmp 22) rfl _ cs rfl rfl HCS.out HC4.out HC1.out ?_))
      generalize w3.alloc (.cells cs 35) = w4 at HB4 ⊢
      refine (lives_any w4).mono ?_; rintro en w5 ⟨rfl, hb⟩
      have HB5 := Lib.hid (HB4.out.trans (hb.mono HB4.out.size))
      clear hb
      go_wp2_with fail
      go_ret
      exact ⟨rfl, HB5.out⟩
    · obtain rfl := HT2.out he
      have hne : ((buildGo x).2 == 0) = false := by rw [beq_eq_false_iff_ne]; exact he
      have HB4 : Hid (Below w.heap.size w (w3.alloc (.cells cs 35))) := Lib.hid (HB3.out.alloc HB3.out.size _)
      clear he
      go_wp2_with (first | ((with_reducible show wpList _ _ _ (Oper.mk none (Op.store _ _ _) _ _ _ _ :: _) _ _); refine wpList_store_new rfl 35 (.tmp 6) (.tmp 22) rfl _ cs rfl rfl HCS.out HC4.out HC1.out ?_))
      generalize w3.alloc (.cells cs 35) = w4 at HB4 ⊢
      refine (lives_any w4).mono ?_; rintro en w5 ⟨rfl, hb⟩
      have HB5 := Lib.hid (HB4.out.trans (hb.mono HB4.out.size))
      clear hb
      go_wp2_with fail
      go_ret
      exact ⟨rfl, HB5.out⟩
end Go.Proofs.Ytjkgkigfmcegoaa
