/-
  DERIVED. The walk of the law ScopeTells.
-/
import Derived.Test.YtjkgkigfmcegoaaAk
import Derived.Test.YtjkgkigfmcegoaaSmW
import Derived.Laws.StructEq
namespace Go.Proofs.Ytjkgkigfmcegoaa
open Go.RowKit Go.Sort Go.Maps

theorem run_ne_field (a b : Int) (w : World) : (binOp .neq 42 (.agg #[.int .i64 a, .int .i64 b]) (.agg #[.int .i64 a, .int .i64 b])).run Try.prog w = .ok (.bool false) w := by
  have hs : Try.prog.stoodInHeld 42 = false := by kernel_rfl
  have hf : Try.prog.underlying 42 = some (.struct (Try.prog.fieldsOf 42)) := by kernel_rfl
  simp only [binOp]
  have h := run_equalIn_struct (P := Try.prog) w 9999 42 #[.int .i64 a, .int .i64 b] #[.int .i64 a, .int .i64 b] hf hs
  simp [Op.equal, Op.maxDepth, h, go_sem, Try.underlying42, Try.underlying3]
theorem own_shp {w : World} {base : Nat} {e : TypeId} {size : Nat} {v : Value} {n : Nat} {xs : List Value} (h : w.ownsRow base e size v n xs) : ∃ a c, v = .slice a n c := by
  rcases h.2 with ⟨rfl, rfl⟩ | ⟨g, cap, _, rfl, _⟩
  · exact ⟨_, _, rfl⟩
  · exact ⟨_, _, rfl⟩
structure TlInv (x : Pg) (M T : Nat) (v : Value) (w wr : World) : Prop where
  tab : TabIs x wr M
  pg : pgLies wr x
  box : Bk wr w.heap.size 26 #[.slice x.structs.p x.structs.l.length x.structs.cap, .slice x.globals.p x.globals.l.length x.globals.cap, .slice x.procs.p x.procs.l.length x.procs.cap]
  tb : Bk wr T 35 #[.slice x.structs.p x.structs.l.length x.structs.cap, .slice x.globals.p x.globals.l.length x.globals.cap, .slice x.procs.p x.procs.l.length x.procs.cap, v]
  own : ∃ base, wr.ownsRow base 42 2 v (endsP x).length (pcells (endsP x))
  below : Below w.heap.size w wr
theorem TlInv.keep {x : Pg} {M T : Nat} {v : Value} {w wr w' : World} (h : TlInv x M T v w wr) (hb : Below wr.heap.size wr w') : TlInv x M T v w w' := by
  obtain ⟨base, ho⟩ := h.own
  exact ⟨h.tab.keep hb, pgLies_below h.pg hb, h.box.below hb h.box.lt, h.tb.below hb h.tb.lt, ⟨base, own_gr ho (Gr.of_below (S := fun _ => False) hb) (fun _ _ _ h => h)⟩, h.below.trans (hb.mono h.below.size)⟩

set_option maxHeartbeats 6400000 in
set_option maxRecDepth 100000 in
theorem tells_law (x : Pg) (n : ByteArray) (ow : Int) (w : World) (hx : pgLies w x) (hn : n.size ≤ maxLen) (ho : (Lit.int .i64 ow).wf = true) :
    Calls Try.prog 4 #[.agg (pval x), .string n, .int .i64 ow] w fun en w' => en = .returned (.bool true) ∧ Below w.heap.size w w' := by
  have HA : Hid (Below w.heap.size w (w.alloc (.cells (pval x) 26))) := Lib.hid ((Below.refl _ _).alloc (Nat.le_refl _) _)
  have HK : Hid (Bk (w.alloc (.cells (pval x) 26)) w.heap.size 26 (pval x)) := Lib.hid (heap_alloc_new _ _)
  have HX := Lib.hid hx
  have HN := Lib.hid hn
  have HO := Lib.hid ho
  clear hx hn ho
  unfold pval at HA HK
  have hsz : n.size ≤ 9223372036854775807 := by have := HN.out; unfold maxLen at this; exact this
  go_enter Try.func4, Try.ntmps4
  go_wp2_with fail
  generalize w.alloc (.cells #[.slice x.structs.p x.structs.l.length x.structs.cap, .slice x.globals.p x.globals.l.length x.globals.cap, .slice x.procs.p x.procs.l.length x.procs.cap] 26) = wA at HA HK ⊢
  refine (small_any x wA (pgLies_below HX.out HA.out)).mono ?_; rintro en w1 ⟨b, rfl, hb⟩
  have HB1 := Lib.hid (HA.out.trans (hb.mono HA.out.size))
  have HK1 := Lib.hid (HK.out.below hb HK.out.lt)
  clear hb
  by_cases hgo : b = true ∧ n.size ≤ 1000
  · obtain ⟨rfl, hn1⟩ := hgo
    have hd : decide (1000 < n.size) = false := by simp; omega
    have hd2 : decide ((1000 : Int) < (n.size : Int)) = false := by simp; omega
    have k0 : w1.cell? ⟨w.heap.size, 0, none⟩ = some (.slice x.structs.p x.structs.l.length x.structs.cap) := HK1.out.cell 0
    have k1 : w1.cell? ⟨w.heap.size, 1, none⟩ = some (.slice x.globals.p x.globals.l.length x.globals.cap) := HK1.out.cell 1
    have k2 : w1.cell? ⟨w.heap.size, 2, none⟩ = some (.slice x.procs.p x.procs.l.length x.procs.cap) := HK1.out.cell 2
    go_wp2_with fail
    refine (build_any x w1 (pgLies_below HX.out HB1.out)).mono ?_; rintro en w2 ⟨t, rfl, h1, h2, hb⟩
    have HB2 := Lib.hid (HB1.out.trans (hb.mono HB1.out.size))
    have HK2 := Lib.hid (HK1.out.below hb HK1.out.lt)
    have HT1 := Lib.hid h1
    have HT2 := Lib.hid h2
    clear hb k0 k1 k2 h1 h2
    have k0 : w2.cell? ⟨w.heap.size, 0, none⟩ = some (.slice x.structs.p x.structs.l.length x.structs.cap) := HK2.out.cell 0
    have k1 : w2.cell? ⟨w.heap.size, 1, none⟩ = some (.slice x.globals.p x.globals.l.length x.globals.cap) := HK2.out.cell 1
    have k2 : w2.cell? ⟨w.heap.size, 2, none⟩ = some (.slice x.procs.p x.procs.l.length x.procs.cap) := HK2.out.cell 2
    go_wp2_with fail
    refine (refBuild_any x w2 (pgLies_below HX.out HB2.out)).mono ?_; rintro en w3 ⟨cs, rfl, hb, hc, hok⟩
    have HB3 := Lib.hid (HB2.out.trans (hb.mono HB2.out.size))
    have HK3 := Lib.hid (HK2.out.below hb HK2.out.lt)
    have HBL := Lib.hid hb
    have HCS : Hid ((Try.prog.info? 35).map (·.size) = some cs.size) := Lib.hid (by rw [hc.1]; exact size35)
    have HC4 : Hid (4 = cs.size) := Lib.hid hc.1.symm
    have HC1 := Lib.hid hc.2
    have HOK := Lib.hid hok
    clear hb hc k0 k1 k2 hok
    by_cases he : (buildGo x).2 = 0
    · obtain ⟨M, rfl, hT, _⟩ := HT1.out he
      obtain ⟨v, base, hcs, hown, h8⟩ := HOK.out he
      obtain ⟨vp, vc, rfl⟩ : ∃ a c, v = .slice a (endsP x).length c := by
        rcases hown.2 with ⟨rfl, h0⟩ | ⟨g, cap, _, rfl, _⟩
        · exact ⟨none, 0, by rw [h0]⟩
        · exact ⟨_, _, rfl⟩
      subst hcs
      have HI4 : Hid (TlInv x M w3.heap.size (.slice vp (endsP x).length vc) w (w3.alloc (.cells #[.slice x.structs.p x.structs.l.length x.structs.cap, .slice x.globals.p x.globals.l.length x.globals.cap, .slice x.procs.p x.procs.l.length x.procs.cap, .slice vp (endsP x).length vc] 35))) := Lib.hid (by
        have hb : Below w3.heap.size w3 (w3.alloc (.cells #[.slice x.structs.p x.structs.l.length x.structs.cap, .slice x.globals.p x.globals.l.length x.globals.cap, .slice x.procs.p x.procs.l.length x.procs.cap, .slice vp (endsP x).length vc] 35)) := (Below.refl _ _).alloc (Nat.le_refl _) _
        have hb3 := HB3.out.trans (hb.mono HB3.out.size)
        exact ⟨(hT.keep HBL.out).keep hb, pgLies_below HX.out hb3, HK3.out.below hb HK3.out.lt, heap_alloc_new _ _, ⟨base, own_gr hown (Gr.of_below (S := fun _ => False) hb) (fun _ _ _ h => h)⟩, hb3⟩)
      have HE8 : Hid ((endsP x).length ≤ 8) := Lib.hid (by unfold endsP; rw [endsOf_len]; exact h8)
      rw [he]
      clear he hT hown h8 HOK HT1 HT2
      unfold tptr
      go_wp2_with (first | ((with_reducible show wpList _ _ _ (Oper.mk none (Op.store _ _ _) _ _ _ _ :: _) _ _); refine wpList_store_new rfl 35 (.tmp 10) (.tmp 37) rfl _ _ rfl rfl HCS.out HC4.out HC1.out ?_))
      clear HCS HC4 HC1 HBL HK3 HK2 HK1 HK HB1 HB2 HB3 HA
      obtain ⟨T, hT⟩ : ∃ T, T = w3.heap.size := ⟨_, rfl⟩
      rw [← hT] at HI4 ⊢
      clear hT
      generalize w3.alloc (.cells #[.slice x.structs.p x.structs.l.length x.structs.cap, .slice x.globals.p x.globals.l.length x.globals.cap, .slice x.procs.p x.procs.l.length x.procs.cap, .slice vp (endsP x).length vc] 35) = w4 at HI4 ⊢
      have HSV : Hid (∀ w', TlInv x M T (.slice vp (endsP x).length vc) w w' → w'.cell? ⟨T, 0, none⟩ = some (.slice x.structs.p x.structs.l.length x.structs.cap) ∧ w'.cell? ⟨T, 1, none⟩ = some (.slice x.globals.p x.globals.l.length x.globals.cap) ∧ w'.cell? ⟨T, 2, none⟩ = some (.slice x.procs.p x.procs.l.length x.procs.cap) ∧ w'.cell? ⟨T, 3, none⟩ = some (.slice vp (endsP x).length vc) ∧ w'.cell? ⟨w.heap.size, 0, none⟩ = some (.slice x.structs.p x.structs.l.length x.structs.cap)) := Lib.hid (fun w' h => ⟨h.tb.cell 0, h.tb.cell 1, h.tb.cell 2, h.tb.cell 3, h.box.cell 0⟩)
      have HD4 : Hid (TlInv x M T (.slice vp (endsP x).length vc) w w4.drew) := Lib.hid (HI4.out.keep (below_drew (Below.refl _ _)))
      have HQ10 := Lib.hid (asks_any x M (.slice vp (endsP x).length vc) n ow w4.drew rfl HD4.out.pg HD4.out.tab HN.out HO.out)
      unfold tptr tval at HQ10
      have HSL : Hid ((sNames x.structs.l).length = x.structs.l.length) := Lib.hid (sNames_len _)
      go_region_held3 (fun w' => w'.cell? ⟨T, 0, none⟩ = some (.slice x.structs.p x.structs.l.length x.structs.cap) ∧ w'.cell? ⟨T, 1, none⟩ = some (.slice x.globals.p x.globals.l.length x.globals.cap) ∧ w'.cell? ⟨T, 2, none⟩ = some (.slice x.procs.p x.procs.l.length x.procs.cap) ∧ w'.cell? ⟨T, 3, none⟩ = some (.slice vp (endsP x).length vc) ∧ w'.cell? ⟨w.heap.size, 0, none⟩ = some (.slice x.structs.p x.structs.l.length x.structs.cap)) (first | exact HSV.out _ HI6.out | exact HSV.out _ HI5.out | exact HSV.out _ HD4.out | fail)
        (first
          | (go_at_call 10; refine (HQ10.out).mono ?_; rintro en w5 ⟨rfl, hb5⟩; have HI5 := Lib.hid (HD4.out.keep hb5); have HQ11 := Lib.hid (structs_any (M + 4) M _ w5 HI5.out.tab.cells.1 HI5.out.tab.rs); rw [HSL.out] at HQ11; have HQ12 := Lib.hid (fields_any x M w5 HI5.out.tab); unfold tptr at HQ12; clear hb5)
          | (go_at_call 11; refine (HQ11.out).mono ?_; rintro en w9 ⟨rfl, rfl⟩)
          | (go_at_call 12; refine (HQ12.out).mono ?_; rintro en w6 ⟨v1, rfl, ho6, hb6⟩; obtain ⟨p6, c6, rfl⟩ := own_shp ho6; have HI6 := Lib.hid (HI5.out.keep hb6); clear ho6 hb6))
      all_goals
        have HQ12 := Lib.hid (fields_any x M w6 HI6.out.tab)
        unfold tptr at HQ12
        go_wp2_with fail
        refine HQ12.out.mono ?_; rintro en w7 ⟨v7, rfl, ho7, hb7⟩
        obtain ⟨p7, c7, rfl⟩ := own_shp ho7
        have HI7 := Lib.hid (HI6.out.keep hb7)
        have HL7 : Hid (∃ base, w7.ownsRow base 42 2 (.slice p7 (endsP x).length c7) (endsP x).length (pcells (endsP x))) := Lib.hid ⟨_, ho7⟩
        clear ho7 hb7
        go_wp2_with fail
        go_loopw [14] (fun iv wr => ∃ i : Nat, iv = .int .i64 i ∧ i ≤ (endsP x).length ∧ Hid (TlInv x M T (.slice vp (endsP x).length vc) w wr) ∧ Hid (∃ base, wr.ownsRow base 42 2 (.slice p7 (endsP x).length c7) (endsP x).length (pcells (endsP x)))) (fun i _ => (endsP x).length - (intOf i).toNat)
        case atStart => exact ⟨0, rfl, Nat.zero_le _, HI7, HL7⟩
        case round =>
          clear HI7 HL7
          obtain ⟨i, rfl, hi, HI, HL⟩ := hrel
          have h8 := HE8.out
          by_cases hil : i < (endsP x).length
          · obtain ⟨b1, ho1⟩ := HL.out
            obtain ⟨b2, ho2⟩ := HI.out.own
            have hy : (endsP x)[i]? = some ((endsP x)[i]) := List.getElem?_eq_getElem hil
            generalize (endsP x)[i] = y at hy
            obtain ⟨g1, c1, hp1, e0, e1⟩ := own_cells ho1 hy
            obtain ⟨g2, c2, hp2, d0, d1⟩ := own_cells ho2 hy
            injection hp1 with hp1 _ hc1
            injection hp2 with hp2 _ hc2
            have t3 : wr.cell? ⟨T, 3, none⟩ = some (.slice vp (endsP x).length vc) := HI.out.tb.cell 3
            have hr := run_ne_field y.1 y.2
            have n0 : (0 : Int) ≤ (i : Int) := Int.natCast_nonneg _
            have n1 : (i : Int) < ((endsP x).length : Int) := by omega
            subst hp1 hc1 hp2 hc2
            clear ho1 ho2 hy
            go_wp2_with fail
            go_quiet (fail)
            go_wp2_with fail
            go_roundw
            case rel => exact ⟨i + 1, by go_num, by omega, Lib.hid (HI.out.keep (below_drewN_ (Below.refl _ _) _)), Lib.hid (by obtain ⟨b, h⟩ := HL.out; exact ⟨b, own_gr h (Gr.of_below (S := fun _ => False) (below_drewN_ (Below.refl _ _) _)) (fun _ _ _ h => h)⟩)⟩
            case measure => simp [intOf]; omega
          · clear HL
            go_wp2_with fail
            clear h8
            have hsl : x.structs.l.length ≤ 1048576 := HX.out.1.1
            have hgl : x.globals.l.length ≤ 1048576 := HX.out.2.1.1
            have hpl : x.procs.l.length ≤ 1048576 := HX.out.2.2.1
            obtain ⟨wo, rfl⟩ : ∃ wo : World, wo = wr := ⟨_, rfl⟩
            go_loopw [15] (fun iv wr => ∃ i : Nat, iv = .int .i64 i ∧ i ≤ x.structs.l.length ∧ Hid (TlInv x M T (.slice vp (endsP x).length vc) w wr)) (fun i _ => x.structs.l.length - (intOf i).toNat)
            case atStart => exact ⟨0, rfl, Nat.zero_le _, HI⟩
            case round =>
              clear HI hi hil
              obtain ⟨i, rfl, hi, HI⟩ := hrel
              have q0 : wr.cell? ⟨w.heap.size, 0, none⟩ = some (.slice x.structs.p x.structs.l.length x.structs.cap) := HI.out.box.cell 0
              by_cases hil : i < x.structs.l.length
              · go_wp2_with fail
                clear q0
                obtain ⟨wo, rfl⟩ : ∃ wo : World, wo = wr := ⟨_, rfl⟩
                go_loopw [16] (fun kv wr => ∃ k : Nat, kv = .int .i64 k ∧ k ≤ x.structs.l[i].fields.l.length ∧ Hid (TlInv x M T (.slice vp (endsP x).length vc) w wr)) (fun k _ => x.structs.l[i].fields.l.length - (intOf k).toNat)
                case atStart => exact ⟨0, rfl, Nat.zero_le _, HI⟩
                case round =>
                  clear HI
                  obtain ⟨k, rfl, hk, HI⟩ := hrel
                  obtain ⟨b, o, hp, hrg, hsr⟩ := (Lay.of_sl (R := srLies) (bytes := 48) HI.out.pg.1).at_ hil
                  have hml : x.structs.l[i].fields.l.length ≤ 1048576 := hsr.1.1
                  have q0 : wr.cell? ⟨w.heap.size, 0, none⟩ = some (.slice x.structs.p x.structs.l.length x.structs.cap) := HI.out.box.cell 0
                  have s2 := cell_at hrg 2 _ rfl
                  have n0 : (0 : Int) ≤ (i : Int) := Int.natCast_nonneg _
                  have n1 : (i : Int) < (x.structs.l.length : Int) := by omega
                  have m0 : (0 : Int) ≤ (k : Int) := Int.natCast_nonneg _
                  rw [hp] at q0
                  by_cases hkl : k < x.structs.l[i].fields.l.length
                  · obtain ⟨b2, o2, hp2, hrg2, hdc⟩ := (Lay.of_sl (R := dcR) (bytes := 40) hsr.1).at_ hkl
                    have s0 := cell_at hrg 0 _ rfl
                    rw [Nat.add_zero] at s0
                    have e1 := cell_at hrg2 1 _ rfl
                    rw [hp2] at s2
                    have r0 := cell_regrown q0
                    have rs0 := cell_regrown s0
                    have rs2 := cell_regrown s2
                    have re1 := cell_regrown e1
                    have t0 := cell_regrown (w := wr) (a := ⟨T, 0, none⟩) (HI.out.tb.cell 0)
                    have t1 := cell_regrown (w := wr) (a := ⟨T, 1, none⟩) (HI.out.tb.cell 1)
                    have t2 := cell_regrown (w := wr) (a := ⟨T, 2, none⟩) (HI.out.tb.cell 2)
                    have t3 := cell_regrown (w := wr) (a := ⟨T, 3, none⟩) (HI.out.tb.cell 3)
                    have C1 : ∀ dd os, Calls Try.prog 10 #[tptr M, .agg #[.slice x.structs.p x.structs.l.length x.structs.cap, .slice x.globals.p x.globals.l.length x.globals.cap, .slice x.procs.p x.procs.l.length x.procs.cap, .slice vp (endsP x).length vc], .string x.structs.l[i].fields.l[k].name, .int .i64 i] (grow (redrawn wr dd) os) fun en w'' => en = .returned (.bool true) ∧ ∃ p : Regrown, w'' = grow (redrawn wr p.d) p.os := fun dd os => Calls.regrown_of (asks_any x M _ x.structs.l[i].fields.l[k].name i _ rfl (HI.out.keep (below_regrown _ _ _)).pg (HI.out.keep (below_regrown _ _ _)).tab hdc.2 (WalkArith.wf_i64 (by omega)))
                    have C2 : ∀ dd os, Calls Try.prog 10 #[tptr M, .agg #[.slice x.structs.p x.structs.l.length x.structs.cap, .slice x.globals.p x.globals.l.length x.globals.cap, .slice x.procs.p x.procs.l.length x.procs.cap, .slice vp (endsP x).length vc], .string x.structs.l[i].name, .int .i64 k] (grow (redrawn wr dd) os) fun en w'' => en = .returned (.bool true) ∧ ∃ p : Regrown, w'' = grow (redrawn wr p.d) p.os := fun dd os => Calls.regrown_of (asks_any x M _ x.structs.l[i].name k _ rfl (HI.out.keep (below_regrown _ _ _)).pg (HI.out.keep (below_regrown _ _ _)).tab hsr.2 (WalkArith.wf_i64 (by omega)))
                    unfold tptr at C1 C2
                    rw [hp] at t0 C1 C2
                    have m1 : (k : Int) < (x.structs.l[i].fields.l.length : Int) := by omega
                    generalize x.structs.l[i].fields.l[k].name = nf at re1 C1 e1
                    generalize x.structs.l[i].name = ns at rs0 C2 s0
                    clear hrg hsr hp hp2 hrg2 hdc s0 e1
                    go_wp2_with fail
                    clear q0 s2
                    refine wp_region_quiet_below (by kernel_rfl) (by kernel_rfl) ?_
                    repeat (go_big_quiet_step (first | (with_reducible exact C1 _ _) | (with_reducible exact C2 _ _)))
                    refine wpQuiet_nil ?_
                    intro _ hw'
                    obtain ⟨⟨dq, osq⟩, hw''⟩ := hw'
                    subst hw''
                    have HI9 := Lib.hid (HI.out.keep (below_regrown wr dq osq))
                    generalize grow (redrawn wr dq) osq = w9 at HI9 ⊢
                    clear r0 rs0 rs2 re1 t0 t1 t2 t3 C1 C2
                    go_wp2_with fail
                    go_roundw
                    case rel => exact ⟨k + 1, by go_num, by omega, HI9⟩
                    case measure => simp [intOf]; omega
                  · clear hrg hsr hp
                    go_wp2_with fail
                    go_roundw
                    case rel => exact ⟨i + 1, by go_num, by omega, HI⟩
                    case measure => simp [intOf]; omega
              · go_wp2_with fail
                clear q0
                obtain ⟨wo, rfl⟩ : ∃ wo : World, wo = wr := ⟨_, rfl⟩
                go_loopw [17] (fun iv wr => ∃ i : Nat, iv = .int .i64 i ∧ i ≤ x.globals.l.length ∧ Hid (TlInv x M T (.slice vp (endsP x).length vc) w wr)) (fun i _ => x.globals.l.length - (intOf i).toNat)
                case atStart => exact ⟨0, rfl, Nat.zero_le _, HI⟩
                case round =>
                  clear HI hi hil
                  obtain ⟨i, rfl, hi, HI⟩ := hrel
                  have q1 : wr.cell? ⟨w.heap.size, 1, none⟩ = some (.slice x.globals.p x.globals.l.length x.globals.cap) := HI.out.box.cell 1
                  by_cases hil : i < x.globals.l.length
                  · obtain ⟨b, o, hp, hrg, hdc⟩ := (Lay.of_sl (R := dcR) (bytes := 40) HI.out.pg.2.1).at_ hil
                    have n0 : (0 : Int) ≤ (i : Int) := Int.natCast_nonneg _
                    have n1 : (i : Int) < (x.globals.l.length : Int) := by omega
                    rw [hp] at q1
                    have e1 := cell_at hrg 1 _ rfl
                    have r1 := cell_regrown q1
                    have re1 := cell_regrown e1
                    have t0 := cell_regrown (w := wr) (a := ⟨T, 0, none⟩) (HI.out.tb.cell 0)
                    have t1 := cell_regrown (w := wr) (a := ⟨T, 1, none⟩) (HI.out.tb.cell 1)
                    have t2 := cell_regrown (w := wr) (a := ⟨T, 2, none⟩) (HI.out.tb.cell 2)
                    have t3 := cell_regrown (w := wr) (a := ⟨T, 3, none⟩) (HI.out.tb.cell 3)
                    have C1 : ∀ dd os, Calls Try.prog 10 #[tptr M, .agg #[.slice x.structs.p x.structs.l.length x.structs.cap, .slice x.globals.p x.globals.l.length x.globals.cap, .slice x.procs.p x.procs.l.length x.procs.cap, .slice vp (endsP x).length vc], .string x.globals.l[i].name, .int .i64 i] (grow (redrawn wr dd) os) fun en w'' => en = .returned (.bool true) ∧ ∃ p : Regrown, w'' = grow (redrawn wr p.d) p.os := fun dd os => Calls.regrown_of (asks_any x M _ x.globals.l[i].name i _ rfl (HI.out.keep (below_regrown _ _ _)).pg (HI.out.keep (below_regrown _ _ _)).tab hdc.2 (WalkArith.wf_i64 (by omega)))
                    unfold tptr at C1
                    rw [hp] at t1 C1
                    generalize x.globals.l[i].name = nf at re1 C1 e1
                    clear hrg hdc hp e1
                    go_wp2_with fail
                    clear q1
                    refine wp_region_quiet_below (by kernel_rfl) (by kernel_rfl) ?_
                    repeat (go_big_quiet_step (with_reducible exact C1 _ _))
                    refine wpQuiet_nil ?_
                    intro _ hw'
                    obtain ⟨⟨dq, osq⟩, hw''⟩ := hw'
                    subst hw''
                    have HI9 := Lib.hid (HI.out.keep (below_regrown wr dq osq))
                    generalize grow (redrawn wr dq) osq = w9 at HI9 ⊢
                    clear r1 re1 t0 t1 t2 t3 C1
                    go_wp2_with fail
                    go_roundw
                    case rel => exact ⟨i + 1, by go_num, by omega, HI9⟩
                    case measure => simp [intOf]; omega
                  · go_wp2_with fail
                    clear q1
                    obtain ⟨wo, rfl⟩ : ∃ wo : World, wo = wr := ⟨_, rfl⟩
                    go_loopw [18] (fun iv wr => ∃ i : Nat, iv = .int .i64 i ∧ i ≤ x.procs.l.length ∧ Hid (TlInv x M T (.slice vp (endsP x).length vc) w wr)) (fun i _ => x.procs.l.length - (intOf i).toNat)
                    case atStart => exact ⟨0, rfl, Nat.zero_le _, HI⟩
                    case round =>
                      clear HI hi hil
                      obtain ⟨i, rfl, hi, HI⟩ := hrel
                      have q2 : wr.cell? ⟨w.heap.size, 2, none⟩ = some (.slice x.procs.p x.procs.l.length x.procs.cap) := HI.out.box.cell 2
                      by_cases hil : i < x.procs.l.length
                      · obtain ⟨b, o, hp, hrg, hdc⟩ := (Lay.of_sl (R := pcLies) (bytes := 104) HI.out.pg.2.2).at_ hil
                        have n0 : (0 : Int) ≤ (i : Int) := Int.natCast_nonneg _
                        have n1 : (i : Int) < (x.procs.l.length : Int) := by omega
                        rw [hp] at q2
                        have e0 := cell_at hrg 0 _ rfl
                        rw [Nat.add_zero] at e0
                        have r2 := cell_regrown q2
                        have re0 := cell_regrown e0
                        have t0 := cell_regrown (w := wr) (a := ⟨T, 0, none⟩) (HI.out.tb.cell 0)
                        have t1 := cell_regrown (w := wr) (a := ⟨T, 1, none⟩) (HI.out.tb.cell 1)
                        have t2 := cell_regrown (w := wr) (a := ⟨T, 2, none⟩) (HI.out.tb.cell 2)
                        have t3 := cell_regrown (w := wr) (a := ⟨T, 3, none⟩) (HI.out.tb.cell 3)
                        have C1 : ∀ dd os, Calls Try.prog 10 #[tptr M, .agg #[.slice x.structs.p x.structs.l.length x.structs.cap, .slice x.globals.p x.globals.l.length x.globals.cap, .slice x.procs.p x.procs.l.length x.procs.cap, .slice vp (endsP x).length vc], .string x.procs.l[i].name, .int .i64 i] (grow (redrawn wr dd) os) fun en w'' => en = .returned (.bool true) ∧ ∃ p : Regrown, w'' = grow (redrawn wr p.d) p.os := fun dd os => Calls.regrown_of (asks_any x M _ x.procs.l[i].name i _ rfl (HI.out.keep (below_regrown _ _ _)).pg (HI.out.keep (below_regrown _ _ _)).tab hdc.2.2.2 (WalkArith.wf_i64 (by omega)))
                        unfold tptr at C1
                        rw [hp] at t2 C1
                        generalize x.procs.l[i].name = nf at re0 C1 e0
                        clear hrg hdc hp e0
                        go_wp2_with fail
                        clear q2
                        refine wp_region_quiet_below (by kernel_rfl) (by kernel_rfl) ?_
                        repeat (go_big_quiet_step (with_reducible exact C1 _ _))
                        refine wpQuiet_nil ?_
                        intro _ hw'
                        obtain ⟨⟨dq, osq⟩, hw''⟩ := hw'
                        subst hw''
                        have HI9 := Lib.hid (HI.out.keep (below_regrown wr dq osq))
                        generalize grow (redrawn wr dq) osq = w9 at HI9 ⊢
                        clear r2 re0 t0 t1 t2 t3 C1
                        go_wp2_with fail
                        go_roundw
                        case rel => exact ⟨i + 1, by go_num, by omega, HI9⟩
                        case measure => simp [intOf]; omega
                      · go_wp2_with fail
                        clear q2
                        refine (lives_any wr).mono ?_; rintro en w8 ⟨rfl, hb⟩
                        have HB8 := Lib.hid (HI.out.below.trans (hb.mono HI.out.below.size))
                        clear hb
                        go_wp2_with fail
                        go_ret
                        exact ⟨rfl, HB8.out⟩
    · obtain rfl := HT2.out he
      have hne : ((buildGo x).2 == 0) = false := by rw [beq_eq_false_iff_ne]; exact he
      have hne' : ((buildGo x).2 != 0) = true := by rw [bne_iff_ne]; exact he
      have HB4 : Hid (Below w.heap.size w (w3.alloc (.cells cs 35))) := Lib.hid (HB3.out.alloc HB3.out.size _)
      clear he
      go_wp2_with (first | ((with_reducible show wpList _ _ _ (Oper.mk none (Op.store _ _ _) _ _ _ _ :: _) _ _); refine wpList_store_new rfl 35 (.tmp 10) (.tmp 37) rfl _ cs rfl rfl HCS.out HC4.out HC1.out ?_))
      generalize w3.alloc (.cells cs 35) = w4 at HB4 ⊢
      refine (lives_any w4).mono ?_; rintro en w5 ⟨rfl, hb⟩
      have HB5 := Lib.hid (HB4.out.trans (hb.mono HB4.out.size))
      clear hb
      go_wp2_with fail
      go_ret
      exact ⟨rfl, HB5.out⟩
  · have HG : Hid (∀ w2, Below w.heap.size w w2 → True) := Lib.hid (fun _ _ => trivial)
    cases b
    · go_wp2_with fail
      refine (lives_any w1).mono ?_; rintro en w2 ⟨rfl, hb⟩
      have HB2 := Lib.hid (HB1.out.trans (hb.mono HB1.out.size))
      clear hb
      go_wp2_with fail
      go_ret
      exact ⟨rfl, HB2.out⟩
    · have hn1 : 1000 < n.size := by
        by_cases h : n.size ≤ 1000
        · exact absurd ⟨rfl, h⟩ hgo
        · omega
      have hd : decide (1000 < n.size) = true := by simp; omega
      have hd2 : decide ((1000 : Int) < (n.size : Int)) = true := by simp; omega
      clear hgo
      go_wp2_with fail
      refine (lives_any w1).mono ?_; rintro en w2 ⟨rfl, hb⟩
      have HB2 := Lib.hid (HB1.out.trans (hb.mono HB1.out.size))
      clear hb
      go_wp2_with fail
      go_ret
      exact ⟨rfl, HB2.out⟩
end Go.Proofs.Ytjkgkigfmcegoaa
