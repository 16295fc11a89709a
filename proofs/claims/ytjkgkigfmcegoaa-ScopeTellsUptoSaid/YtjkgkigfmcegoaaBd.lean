/-
  DERIVED. The walk of Build.
-/
import Derived.Test.YtjkgkigfmcegoaaAp
namespace Go.Proofs.Ytjkgkigfmcegoaa
open Go.RowKit Go.Sort Go.Maps

def allPairs (x : Pg) : List (Nat × Dc) := pairsFrom 0 x.structs.l
def endsP (x : Pg) : List (Int × Int) := endsOf (sNames x.structs.l) (allPairs x)
def varsP (x : Pg) : List (Int × Int) := varsGo (sNames x.structs.l) 0 0 x.globals.l
/-- A program's table in memory. -/
structure TabIs (x : Pg) (w : World) (M : Nat) : Prop where
  rs : Roll byName w M (sNames x.structs.l)
  rf : Roll byMember w (M + 1) ((allPairs x).map memb)
  rg : Roll byName w (M + 2) (dNames x.globals.l)
  rp : Roll byName w (M + 3) (pNames x.procs.l)
  tab : ∃ e v base base', Bk w (M + 4) 57 (tcells M e v) ∧ w.ownsRow base 42 2 e (endsP x).length (pcells (endsP x)) ∧ w.ownsRow base' 81 2 v (varsP x).length (pcells (varsP x))
  fsmall : (allPairs x).length ≤ 8
  gsmall : x.globals.l.length ≤ 16
  vlen : (varsP x).length = x.globals.l.length
theorem TabIs.keep {x : Pg} {w w' : World} {M : Nat} (h : TabIs x w M) (hb : Below w.heap.size w w') : TabIs x w' M where
  rs := h.rs.below hb h.rs.lt
  rf := h.rf.below hb h.rf.lt
  rg := h.rg.below hb h.rg.lt
  rp := h.rp.below hb h.rp.lt
  tab := by
    obtain ⟨e, v, b1, b2, h1, h2, h3⟩ := h.tab
    have hg : Gr w w' (fun _ => False) := Gr.of_below hb
    exact ⟨e, v, b1, b2, hg.bk h1 (fun h => h), own_gr h2 hg (fun _ _ _ h => h), own_gr h3 hg (fun _ _ _ h => h)⟩
  fsmall := h.fsmall
  gsmall := h.gsmall
  vlen := h.vlen
/-- What Build leaves. -/
def BdPost (x : Pg) (w : World) (en : Ending) (w' : World) : Prop :=
  ∃ t, en = .returned (.tuple #[t, .int .i64 (buildGo x).1, .int .i64 (buildGo x).2]) ∧ ((buildGo x).2 = 0 → ∃ M, t = tptr M ∧ TabIs x w' M ∧ w.heap.size ≤ M) ∧ ((buildGo x).2 ≠ 0 → t = .pointer none) ∧ Below w.heap.size w w'

theorem procsGo_zero (sn : List ByteArray) : ∀ (l : List Pc) (hv : List ByteArray), (procsGo sn hv l).2 = 0 → procsGo sn hv l = (0, 0)
  | [], _, _ => rfl
  | q :: r, hv, h => by
    rw [procsGo_cons] at h ⊢
    by_cases h1 : addE 16 hv q.name = 0
    · rw [if_pos h1] at h ⊢
      by_cases h2 : (declsGo sn [] (frameOf q)).2 = 0
      · rw [if_pos h2] at h ⊢
        exact procsGo_zero sn r _ h
      · rw [if_neg h2] at h
        exact absurd h h2
    · rw [if_neg h1] at h
      exact absurd h h1
theorem buildGo_zero {x : Pg} (h : (buildGo x).2 = 0) : buildGo x = (0, 0) := by
  unfold buildGo at h ⊢
  by_cases h1 : (structsGo [] x.structs.l).2 = 0
  · rw [if_pos h1] at h ⊢
    by_cases h2 : (fieldsGo (sNames x.structs.l) [] (pairsFrom 0 x.structs.l)).2 = 0
    · rw [if_pos h2] at h ⊢
      by_cases h3 : (declsGo (sNames x.structs.l) [] x.globals.l).2 = 0
      · rw [if_pos h3] at h ⊢
        exact procsGo_zero _ _ _ h
      · rw [if_neg h3] at h
        exact absurd h h3
    · rw [if_neg h2] at h
      exact absurd h h2
  · rw [if_neg h1] at h
    exact absurd h h1
/-- Four maps and a table, made anew. -/
theorem made_tab (w : World) (o : Obj) (M : Nat) (hM : w.heap.size + 1 = M) :
    Bk ((((((w.alloc o).alloc (.map #[] 0)).alloc (.map #[] 0)).alloc (.map #[] 0)).alloc (.map #[] 0)).alloc (.cells #[.map (some M), .map (some (M + 1)), .slice none 0 0, .map (some (M + 2)), .slice none 0 0, .map (some (M + 3))] 57)) (M + 4) 57 (tcells M (.slice none 0 0) (.slice none 0 0)) ∧
    Roll byName ((((((w.alloc o).alloc (.map #[] 0)).alloc (.map #[] 0)).alloc (.map #[] 0)).alloc (.map #[] 0)).alloc (.cells #[.map (some M), .map (some (M + 1)), .slice none 0 0, .map (some (M + 2)), .slice none 0 0, .map (some (M + 3))] 57)) M [] ∧
    Roll byMember ((((((w.alloc o).alloc (.map #[] 0)).alloc (.map #[] 0)).alloc (.map #[] 0)).alloc (.map #[] 0)).alloc (.cells #[.map (some M), .map (some (M + 1)), .slice none 0 0, .map (some (M + 2)), .slice none 0 0, .map (some (M + 3))] 57)) (M + 1) [] ∧
    Roll byName ((((((w.alloc o).alloc (.map #[] 0)).alloc (.map #[] 0)).alloc (.map #[] 0)).alloc (.map #[] 0)).alloc (.cells #[.map (some M), .map (some (M + 1)), .slice none 0 0, .map (some (M + 2)), .slice none 0 0, .map (some (M + 3))] 57)) (M + 2) [] ∧
    Roll byName ((((((w.alloc o).alloc (.map #[] 0)).alloc (.map #[] 0)).alloc (.map #[] 0)).alloc (.map #[] 0)).alloc (.cells #[.map (some M), .map (some (M + 1)), .slice none 0 0, .map (some (M + 2)), .slice none 0 0, .map (some (M + 3))] 57)) (M + 3) [] := by
  subst hM
  have f : ∀ (a : World) (o : Obj), Gr a (a.alloc o) (fun _ => False) := fun a o => (Gr.refl a _).alloc o
  have r1 := Roll.made byName (w.alloc o)
  have r2 := Roll.made byMember ((w.alloc o).alloc (.map #[] 0))
  have r3 := Roll.made byName (((w.alloc o).alloc (.map #[] 0)).alloc (.map #[] 0))
  have r4 := Roll.made byName ((((w.alloc o).alloc (.map #[] 0)).alloc (.map #[] 0)).alloc (.map #[] 0))
  have r5 := heap_alloc_new (((((w.alloc o).alloc (.map #[] 0)).alloc (.map #[] 0)).alloc (.map #[] 0)).alloc (.map #[] 0)) (.cells (tcells (w.heap.size + 1) (.slice none 0 0) (.slice none 0 0)) 57)
  simp only [World.size_alloc] at r1 r2 r3 r4 r5
  exact ⟨r5, ((((f _ _).trans (f _ _)).trans (f _ _)).trans (f _ _)).roll r1 (fun h => h), (((f _ _).trans (f _ _)).trans (f _ _)).roll r2 (fun h => h), ((f _ _).trans (f _ _)).roll r3 (fun h => h), (f _ _).roll r4 (fun h => h)⟩

set_option maxHeartbeats 6400000 in
set_option maxRecDepth 100000 in
theorem build_any (x : Pg) (w : World) (hx : pgLies w x) :
    Calls Try.prog 8 #[.agg #[.slice x.structs.p x.structs.l.length x.structs.cap, .slice x.globals.p x.globals.l.length x.globals.cap, .slice x.procs.p x.procs.l.length x.procs.cap]] w (BdPost x w) := by
  obtain ⟨M, hM⟩ : ∃ M, w.heap.size + 1 = M := ⟨_, rfl⟩
  have HX := Lib.hid hx
  have HM := Lib.hid hM
  have HMT := Lib.hid (made_tab w (.cells #[.slice x.structs.p x.structs.l.length x.structs.cap, .slice x.globals.p x.globals.l.length x.globals.cap, .slice x.procs.p x.procs.l.length x.procs.cap] 26) M hM)
  have HB0 : Hid (Below M w ((((((w.alloc (.cells #[.slice x.structs.p x.structs.l.length x.structs.cap, .slice x.globals.p x.globals.l.length x.globals.cap, .slice x.procs.p x.procs.l.length x.procs.cap] 26)).alloc (.map #[] 0)).alloc (.map #[] 0)).alloc (.map #[] 0)).alloc (.map #[] 0)).alloc (.cells #[.map (some M), .map (some (M + 1)), .slice none 0 0, .map (some (M + 2)), .slice none 0 0, .map (some (M + 3))] 57)) → True) := Lib.hid (fun _ => trivial)
  have HBW : Hid (Below w.heap.size w ((((((w.alloc (.cells #[.slice x.structs.p x.structs.l.length x.structs.cap, .slice x.globals.p x.globals.l.length x.globals.cap, .slice x.procs.p x.procs.l.length x.procs.cap] 26)).alloc (.map #[] 0)).alloc (.map #[] 0)).alloc (.map #[] 0)).alloc (.map #[] 0)).alloc (.cells #[.map (some M), .map (some (M + 1)), .slice none 0 0, .map (some (M + 2)), .slice none 0 0, .map (some (M + 3))] 57))) := Lib.hid ((((((((Below.refl _ _).alloc (Nat.le_refl _) _).alloc (by simp) _).alloc (by simp; omega) _).alloc (by simp; omega) _).alloc (by simp; omega) _).alloc (by simp; omega) _))
  have HPB : Hid (Bk ((((((w.alloc (.cells #[.slice x.structs.p x.structs.l.length x.structs.cap, .slice x.globals.p x.globals.l.length x.globals.cap, .slice x.procs.p x.procs.l.length x.procs.cap] 26)).alloc (.map #[] 0)).alloc (.map #[] 0)).alloc (.map #[] 0)).alloc (.map #[] 0)).alloc (.cells #[.map (some M), .map (some (M + 1)), .slice none 0 0, .map (some (M + 2)), .slice none 0 0, .map (some (M + 3))] 57)) w.heap.size 26 #[.slice x.structs.p x.structs.l.length x.structs.cap, .slice x.globals.p x.globals.l.length x.globals.cap, .slice x.procs.p x.procs.l.length x.procs.cap]) := Lib.hid (by
    have f : ∀ (a : World) (o : Obj), Gr a (a.alloc o) (fun _ => False) := fun a o => (Gr.refl a _).alloc o
    exact (((((f _ _).trans (f _ _)).trans (f _ _)).trans (f _ _)).trans (f _ _)).bk (heap_alloc_new w _) (fun h => h))
  have hmm := @run_makeMap Try.prog
  clear hx hM HB0
  go_enter Try.func8, Try.ntmps8
  go_wp2_with fail
  clear hmm
  rw [HM.out, show M + 1 + 1 + 1 + 1 = M + 4 from rfl, show M + 1 + 1 + 1 = M + 3 from rfl, show M + 1 + 1 = M + 2 from rfl]
  generalize (((((w.alloc (.cells #[.slice x.structs.p x.structs.l.length x.structs.cap, .slice x.globals.p x.globals.l.length x.globals.cap, .slice x.procs.p x.procs.l.length x.procs.cap] 26)).alloc (.map #[] 0)).alloc (.map #[] 0)).alloc (.map #[] 0)).alloc (.map #[] 0)).alloc (.cells #[.map (some M), .map (some (M + 1)), .slice none 0 0, .map (some (M + 2)), .slice none 0 0, .map (some (M + 3))] 57) = wA at HMT HBW HPB ⊢
  obtain ⟨m1, m2, m3, m4, m5⟩ := HMT.out
  have HT := Lib.hid m1; have HR1 := Lib.hid m2; have HR2 := Lib.hid m3; have HR3 := Lib.hid m4; have HR4 := Lib.hid m5
  clear m1 m2 m3 m4 m5 HMT
  have HSUB : Hid (∀ (S : Nat → Prop) wi, Gr wA wi S → (∀ k, S k → M ≤ k) → Below w.heap.size w wi) := Lib.hid (fun S wi hg hS => HBW.out.trans (hg.below HBW.out.size (fun k hk => by have := hS k hk; have := HM.out; omega)))
  have HLs : Hid (∀ wi, Below w.heap.size w wi → Lay 3 Sr.cells srLies wi x.structs.p x.structs.l) := Lib.hid (fun wi hb => srsLie_below HX.out.1 hb)
  have HLg : Hid (∀ wi, Below w.heap.size w wi → Lay 3 Dc.cells dcR wi x.globals.p x.globals.l) := Lib.hid (fun wi hb => declsLie_below HX.out.2.1 hb)
  have HLp : Hid (∀ wi, Below w.heap.size w wi → Lay 6 Pc.cells pcLies wi x.procs.p x.procs.l) := Lib.hid (fun wi hb => pcsLie_below HX.out.2.2 hb)
  have HC1 := Lib.hid (addStructs_any x.structs.p x.structs.l x.structs.cap M _ _ wA HT.out.lt (HLs.out wA HBW.out) (fun _ wr hg => HLs.out wr (HSUB.out _ wr hg (fun k h => by omega))) HT.out HR1.out)
  unfold tptr at HC1
  refine HC1.out.mono ?_; rintro en w1 ⟨rfl, hr1, hg1⟩
  have HRS := Lib.hid hr1
  have HG1 := Lib.hid hg1
  have HB1 := Lib.hid (HSUB.out _ w1 hg1 (fun k h => by omega))
  clear hr1 hg1
  by_cases e1 : (structsGo [] x.structs.l).2 = 0
  · have HE1 := Lib.hid e1
    have HT1 : Hid (Bk w1 (M + 4) 57 (tcells M (.slice none 0 0) (.slice none 0 0))) := Lib.hid (HG1.out.bk HT.out (by omega))
    have HPB1 : Hid (Bk w1 w.heap.size 26 #[.slice x.structs.p x.structs.l.length x.structs.cap, .slice x.globals.p x.globals.l.length x.globals.cap, .slice x.procs.p x.procs.l.length x.procs.cap]) := Lib.hid (HG1.out.bk HPB.out (by have := HM.out; omega))
    have HR21 : Hid (Roll byMember w1 (M + 1) []) := Lib.hid (HG1.out.roll HR2.out (by omega))
    have HR31 : Hid (Roll byName w1 (M + 2) []) := Lib.hid (HG1.out.roll HR3.out (by omega))
    have HR41 : Hid (Roll byName w1 (M + 3) []) := Lib.hid (HG1.out.roll HR4.out (by omega))
    have HSUB1 : Hid (∀ (S : Nat → Prop) wi, Gr w1 wi S → (∀ k, S k → M ≤ k) → Below w.heap.size w wi) := Lib.hid (fun S wi hg hS => HB1.out.trans (hg.below HB1.out.size (fun k hk => by have := hS k hk; have := HM.out; omega)))
    have HC2 := Lib.hid (addFields_any x.structs.p x.structs.l x.structs.cap M _ (sNames x.structs.l) w1 HT1.out.lt HX.out.1.1 (fun wr hg => HLs.out wr (HSUB1.out _ wr hg (fun k h => by omega))) HT1.out (HRS.out e1) HR21.out)
    unfold tptr at HC2
    have q0 : w1.cell? ⟨w.heap.size, 0, none⟩ = some (.slice x.structs.p x.structs.l.length x.structs.cap) := HPB1.out.cell 0
    rw [e1]
    clear e1
    go_wp2_with fail
    refine HC2.out.mono ?_; rintro en w2 ⟨rfl, hr2, hg2⟩
    have HRF := Lib.hid hr2
    have HG2 := Lib.hid hg2
    have HB2 := Lib.hid (HSUB1.out _ w2 hg2 (fun k h => by omega))
    clear hr2 hg2 q0
    by_cases e2 : (fieldsGo (sNames x.structs.l) [] (pairsFrom 0 x.structs.l)).2 = 0
    · have HE2 := Lib.hid e2
      have HFI := Lib.hid (HRF.out e2)
      obtain ⟨ev, hT2, hO2⟩ := HFI.out.tab
      have HT2 := Lib.hid hT2
      have HO2 := Lib.hid hO2
      have HPB2 : Hid (Bk w2 w.heap.size 26 #[.slice x.structs.p x.structs.l.length x.structs.cap, .slice x.globals.p x.globals.l.length x.globals.cap, .slice x.procs.p x.procs.l.length x.procs.cap]) := Lib.hid (HG2.out.bk HPB1.out (by have := HM.out; omega))
      have HR32 : Hid (Roll byName w2 (M + 2) []) := Lib.hid (HG2.out.roll HR31.out (by omega))
      have HR42 : Hid (Roll byName w2 (M + 3) []) := Lib.hid (HG2.out.roll HR41.out (by omega))
      have HSUB2 : Hid (∀ (S : Nat → Prop) wi, Gr w2 wi S → (∀ k, S k → M ≤ k) → Below w.heap.size w wi) := Lib.hid (fun S wi hg hS => HB2.out.trans (hg.below HB2.out.size (fun k hk => by have := hS k hk; have := HM.out; omega)))
      have HC3 := Lib.hid (addGlobals_any x.globals.p x.globals.l x.globals.cap M _ (sNames x.structs.l) w2 hT2.lt HX.out.2.1.1 (fun wr hg => HLg.out wr (HSUB2.out _ wr hg (fun k h => by omega))) hT2 HFI.out.sroll HR32.out)
      unfold tptr at HC3
      have q1 : w2.cell? ⟨w.heap.size, 1, none⟩ = some (.slice x.globals.p x.globals.l.length x.globals.cap) := HPB2.out.cell 1
      have HW1 : Hid (M + 4 < w1.heap.size) := Lib.hid HT1.out.lt
      rw [e2]
      clear e2 hT2 hO2
      go_wp2_with fail
      refine HC3.out.mono ?_; rintro en w3 ⟨rfl, hr3, hg3⟩
      have HRG := Lib.hid hr3
      have HG3 := Lib.hid hg3
      have HB3 := Lib.hid (HSUB2.out _ w3 hg3 (fun k h => by omega))
      clear hr3 hg3 q1
      by_cases e3 : (declsGo (sNames x.structs.l) [] x.globals.l).2 = 0
      · have HE3 := Lib.hid e3
        obtain ⟨hg16, hrg3, hvl, vv, hT3, hV3⟩ := HRG.out e3
        have HT3 := Lib.hid hT3; have HV3 := Lib.hid hV3; have HGS := Lib.hid hg16; have HVL := Lib.hid hvl; have HRG3 := Lib.hid hrg3
        have HPB3 : Hid (Bk w3 w.heap.size 26 #[.slice x.structs.p x.structs.l.length x.structs.cap, .slice x.globals.p x.globals.l.length x.globals.cap, .slice x.procs.p x.procs.l.length x.procs.cap]) := Lib.hid (HG3.out.bk HPB2.out (by have := HM.out; omega))
        have HR43 : Hid (Roll byName w3 (M + 3) []) := Lib.hid (HG3.out.roll HR42.out (by omega))
        have HS3 : Hid (Roll byName w3 M (sNames x.structs.l)) := Lib.hid (HG3.out.roll HFI.out.sroll (by omega))
        have HF3 : Hid (Roll byMember w3 (M + 1) ((pairsFrom 0 x.structs.l).map memb)) := Lib.hid (HG3.out.roll HFI.out.roll (by omega))
        have HO3 : Hid (w3.ownsRow w1.heap.size 42 2 ev (endsOf (sNames x.structs.l) (pairsFrom 0 x.structs.l)).length (pcells (endsOf (sNames x.structs.l) (pairsFrom 0 x.structs.l)))) := Lib.hid (own_gr HO2.out HG3.out (fun i hi _ h => by have := HW1.out; omega))
        have HSUB3 : Hid (∀ (S : Nat → Prop) wi, Gr w3 wi S → (∀ k, S k → M ≤ k) → Below w.heap.size w wi) := Lib.hid (fun S wi hg hS => HB3.out.trans (hg.below HB3.out.size (fun k hk => by have := hS k hk; have := HM.out; omega)))
        have HW2 : Hid (M + 4 < w2.heap.size) := Lib.hid HT2.out.lt
        have HC4 := Lib.hid (addProcs_any x.procs.p x.procs.l x.procs.cap M _ _ (sNames x.structs.l) w3 hT3.lt HX.out.2.2.1 (fun wr hg => HLp.out wr (HSUB3.out _ wr hg (fun k h => by omega))) hT3 HS3.out HR43.out)
        unfold tptr at HC4
        have q2 : w3.cell? ⟨w.heap.size, 2, none⟩ = some (.slice x.procs.p x.procs.l.length x.procs.cap) := HPB3.out.cell 2
        rw [e3]
        clear e3 hg16 hrg3 hvl hT3 hV3
        go_wp2_with fail
        refine HC4.out.mono ?_; rintro en w4 ⟨rfl, hr4, hg4⟩
        have HRP := Lib.hid hr4
        have HG4 := Lib.hid hg4
        have HB4 := Lib.hid (HSUB3.out _ w4 hg4 (fun k h => by omega))
        clear hr4 hg4 q2
        have HBG : Hid (buildGo x = procsGo (sNames x.structs.l) [] x.procs.l) := Lib.hid (by unfold buildGo; rw [if_pos HE1.out, if_pos HE2.out, if_pos HE3.out])
        by_cases e4 : (procsGo (sNames x.structs.l) [] x.procs.l).2 = 0
        · have HE4 := Lib.hid e4
          have HP4 := Lib.hid (HRP.out e4)
          rw [e4]
          clear e4
          go_wp2_with fail
          refine bodyPost_ret (results_tmp3 rfl _ _ _) rfl ⟨_, ?_, fun _ => ⟨M, rfl, ?_, by have := HM.out; omega⟩, fun h => absurd (by rw [HBG.out]; exact HE4.out) h, HB4.out⟩
          · rw [HBG.out, procsGo_zero _ _ _ HE4.out]; rfl
          · exact ⟨HG4.out.roll HS3.out (by omega), HG4.out.roll HF3.out (by omega), HG4.out.roll HRG3.out (by omega), HP4.out, ⟨ev, vv, _, _, HG4.out.bk HT3.out (by omega), own_gr HO3.out HG4.out (fun i hi _ h => by have := HW1.out; omega), own_gr HV3.out HG4.out (fun i hi _ h => by have := HW2.out; omega)⟩, HFI.out.small, HGS.out, HVL.out⟩
        · have n4 : ((procsGo (sNames x.structs.l) [] x.procs.l).2 != 0) = true := by rw [bne_iff_ne]; exact e4
          have HE4 := Lib.hid e4
          clear e4
          go_wp2_with fail
          exact bodyPost_ret (results_tmp3 rfl _ _ _) rfl ⟨.pointer none, by rw [HBG.out]; rfl, fun h => absurd (by rw [HBG.out] at h; exact h) HE4.out, fun _ => rfl, HB4.out⟩
      · have HBG : Hid (buildGo x = declsGo (sNames x.structs.l) [] x.globals.l) := Lib.hid (by unfold buildGo; rw [if_pos HE1.out, if_pos HE2.out, if_neg e3])
        have n3 : ((declsGo (sNames x.structs.l) [] x.globals.l).2 != 0) = true := by rw [bne_iff_ne]; exact e3
        have HE3 := Lib.hid e3
        clear e3
        go_wp2_with fail
        exact bodyPost_ret (results_tmp3 rfl _ _ _) rfl ⟨.pointer none, by rw [HBG.out]; rfl, fun h => absurd (by rw [HBG.out] at h; exact h) HE3.out, fun _ => rfl, HB3.out⟩
    · have HBG : Hid (buildGo x = fieldsGo (sNames x.structs.l) [] (pairsFrom 0 x.structs.l)) := Lib.hid (by unfold buildGo; rw [if_pos HE1.out, if_neg e2])
      have n2 : ((fieldsGo (sNames x.structs.l) [] (pairsFrom 0 x.structs.l)).2 != 0) = true := by rw [bne_iff_ne]; exact e2
      have HE2 := Lib.hid e2
      clear e2
      go_wp2_with fail
      exact bodyPost_ret (results_tmp3 rfl _ _ _) rfl ⟨.pointer none, by rw [HBG.out]; rfl, fun h => absurd (by rw [HBG.out] at h; exact h) HE2.out, fun _ => rfl, HB2.out⟩
  · have HBG : Hid (buildGo x = structsGo [] x.structs.l) := Lib.hid (by unfold buildGo; rw [if_neg e1])
    have n1 : ((structsGo [] x.structs.l).2 != 0) = true := by rw [bne_iff_ne]; exact e1
    have HE1 := Lib.hid e1
    clear e1
    go_wp2_with fail
    exact bodyPost_ret (results_tmp3 rfl _ _ _) rfl ⟨.pointer none, by rw [HBG.out]; rfl, fun h => absurd (by rw [HBG.out] at h; exact h) HE1.out, fun _ => rfl, HB1.out⟩
end Go.Proofs.Ytjkgkigfmcegoaa
