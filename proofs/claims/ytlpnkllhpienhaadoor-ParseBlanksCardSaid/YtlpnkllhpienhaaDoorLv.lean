/-
  DERIVED. The walks of the deferred closures. The walk of a whole reading: programs. The walk of a whole reading: statements. The walks of the parser's faces; the page's examples hold.
-/
import Derived.Test.YtlpnkllhpienhaaDoorQf
import Derived.Recover
import Derived.Laws.Pointers
import Derived.Test.YtlpnkllhpienhaaDoorSb
import Derived.Test.YtlpnkllhpienhaaDoorQr
import Derived.Deep.RegionHeld3
namespace Go.Proofs.YtlpnkllhpienhaaDoor
open Go.RowKit Go.Sort

theorem asserts (p n : Int) (w : World) : (Instr.typeAssert (.iface 75 (.agg #[.int .i64 p, .int .i64 n])) 20 75 true).run Tryd.prog w = .ok (.tuple #[.agg #[.int .i64 p, .int .i64 n], .bool true]) w := by
  simp [Instr.typeAssert, go_sem]
theorem asserts_nil (w : World) : (Instr.typeAssert .nilIface 20 75 true).run Tryd.prog w = .ok (.tuple #[.agg #[.int .i64 0, .int .i64 0], .bool false]) w := by
  simp [Instr.typeAssert, go_sem]
theorem Gr2.drew {w w' : World} {a b : Nat} (h : Gr2 w w' a b) : Gr2 w w'.drew a b := ⟨h.os, h.tape, h.output, h.size, h.block⟩
attribute [local go_sem ↓] asserts asserts_nil
set_option maxHeartbeats 1600000 in
set_option maxRecDepth 100000 in
theorem catch22 (A E : Nat) (p n : Int) (x y : Value) (w : World) (hA : Bk w A 3 #[x]) (hE : Bk w E 24 #[y]) (hne : A ≠ E) (R : Ending → FrameMode → World → Prop)
    (hR : ∀ w', Bk w' A 3 #[.int .i64 p] → Bk w' E 24 #[.int .i64 n] → Gr2 w w' A E → R (.returned (.tuple #[])) (.panicking [{ v := .iface 75 (.agg #[.int .i64 p, .int .i64 n]), recovered := true }]) w') :
    CallsD Tryd.prog 22 #[.pointer (some ⟨A, 0, none⟩), .pointer (some ⟨E, 0, none⟩)] (.panicking [{ v := .iface 75 (.agg #[.int .i64 p, .int .i64 n]), recovered := false }]) w R := by
  have HR := Lib.hid hR
  have HA := Lib.hid hA; have HE := Lib.hid hE; have HNE := Lib.hid hne
  clear hA hE hne hR
  refine callsD_of_wpS Tryd.func22 rfl fun c₀ cs hu => ?_
  have hrep : Array.replicate 12 undef = #[undef, undef, undef, undef, undef, undef, undef, undef, undef, undef, undef, undef] := rfl
  apply wpS_seq
  apply wpS_region
  simp [wpOpsS, go_sem, recoverD, hu, Tryd.ntmps22, Exit.thenS, hrep]
  apply wpS_seq
  apply wpS_region
  simp [wpOpsS, go_sem, Exit.thenS]
  refine wpS_cond (t := true) (by simp [Act.eval]) ?_
  simp only [if_true]
  refine wpS_of_wp ?_
  obtain ⟨wB, hwB⟩ : ∃ wB : World, wB = w.alloc (.cells #[.int .i64 p, .int .i64 n] 75) := ⟨_, rfl⟩
  have hm : Below w.heap.size w wB := by rw [hwB]; exact (Below.refl _ _).alloc (Nat.le_refl _) _
  have HF : Hid (Bk wB w.heap.size 75 #[.int .i64 p, .int .i64 n]) := Lib.hid (by rw [hwB]; exact heap_alloc_new _ _)
  have HA1 := Lib.hid (HA.out.below hm HA.out.lt); have HE1 := Lib.hid (HE.out.below hm HE.out.lt)
  have HG1 : Hid (Gr2 w wB A E) := Lib.hid ((Gr2.refl _ _ _).one (grownBy_of hm _))
  have HLT : Hid (A ≠ w.heap.size ∧ E ≠ w.heap.size) := Lib.hid ⟨Nat.ne_of_lt HA.out.lt, Nat.ne_of_lt HE.out.lt⟩
  rw [← hwB]
  clear hwB hm
  obtain ⟨F, hF⟩ : ∃ F, F = w.heap.size := ⟨_, rfl⟩
  rw [← hF] at HF HLT ⊢
  clear hF
  have c0 : wB.cell? ⟨F, 0, none⟩ = some (.int .i64 p) := HF.out.cell 0
  have c1 : wB.cell? ⟨F, 1, none⟩ = some (.int .i64 n) := HF.out.cell 1
  have a0 : wB.cell? ⟨A, 0, none⟩ = some x := HA1.out.cell 0
  have b0 : wB.cell? ⟨E, 0, none⟩ = some y := HE1.out.cell 0
  have a1 := HA1.out.frozen 0
  have b1 := HE1.out.frozen 0
  have hne := HNE.out
  have hl1 := HLT.out.1
  have hl2 := HLT.out.2
  have hne' : E ≠ A := fun e => hne e.symm
  go_region
  have gA := grownBy_setC wB ⟨A, 0, none⟩ (.int .i64 p)
  have gE := grownBy_setC (wB.setCell ⟨A, 0, none⟩ (.int .i64 p)) ⟨E, 0, none⟩ (.int .i64 n)
  have hA2 : Bk (wB.setCell ⟨A, 0, none⟩ (.int .i64 p)) A 3 #[.int .i64 p] := HA1.out.set_ 0 _
  have hE2 : Bk ((wB.setCell ⟨A, 0, none⟩ (.int .i64 p)).setCell ⟨E, 0, none⟩ (.int .i64 n)) E 24 #[.int .i64 n] := (HE1.out.kept gA hne').set_ 0 _
  have hA3 := hA2.kept gE hne
  exact ⟨rfl, _, rfl, _, results_none rfl _ _ _, HR.out _ hA3 hE2 ((HG1.out.one gA).two gE).drew⟩
set_option maxHeartbeats 1600000 in
set_option maxRecDepth 100000 in
theorem idle22 (A E : Nat) (w : World) (R : Ending → FrameMode → World → Prop) (hR : ∀ w', Below w.heap.size w w' → R (.returned (.tuple #[])) .returning w') :
    CallsD Tryd.prog 22 #[.pointer (some ⟨A, 0, none⟩), .pointer (some ⟨E, 0, none⟩)] .returning w R := by
  have HR := Lib.hid hR
  clear hR
  refine callsD_of_wpS Tryd.func22 rfl fun c₀ cs hu => ?_
  have hrep : Array.replicate 12 undef = #[undef, undef, undef, undef, undef, undef, undef, undef, undef, undef, undef, undef] := rfl
  apply wpS_seq
  apply wpS_region
  simp [wpOpsS, go_sem, recoverD, hu, Tryd.ntmps22, Exit.thenS, hrep]
  apply wpS_seq
  apply wpS_region
  simp [wpOpsS, go_sem, Exit.thenS]
  refine wpS_cond (t := false) (by simp [Act.eval]) ?_
  simp only [Bool.false_eq_true, if_false]
  refine wpS_of_wp (wp_skip ?_)
  have hm : Below w.heap.size w (w.alloc (.cells #[.int .i64 0, .int .i64 0] 75)) := (Below.refl _ _).alloc (Nat.le_refl _) _
  exact ⟨rfl, .returning, (by rw [← hu]), _, results_none rfl _ _ _, HR.out _ hm⟩
set_option maxHeartbeats 1600000 in
set_option maxRecDepth 100000 in
theorem catch29 (A E : Nat) (p n : Int) (x y : Value) (w : World) (hA : Bk w A 3 #[x]) (hE : Bk w E 24 #[y]) (hne : A ≠ E) (R : Ending → FrameMode → World → Prop)
    (hR : ∀ w', Bk w' A 3 #[.int .i64 p] → Bk w' E 24 #[.int .i64 n] → Gr2 w w' A E → R (.returned (.tuple #[])) (.panicking [{ v := .iface 75 (.agg #[.int .i64 p, .int .i64 n]), recovered := true }]) w') :
    CallsD Tryd.prog 29 #[.pointer (some ⟨A, 0, none⟩), .pointer (some ⟨E, 0, none⟩)] (.panicking [{ v := .iface 75 (.agg #[.int .i64 p, .int .i64 n]), recovered := false }]) w R := by
  have HR := Lib.hid hR
  have HA := Lib.hid hA; have HE := Lib.hid hE; have HNE := Lib.hid hne
  clear hA hE hne hR
  refine callsD_of_wpS Tryd.func29 rfl fun c₀ cs hu => ?_
  have hrep : Array.replicate 12 undef = #[undef, undef, undef, undef, undef, undef, undef, undef, undef, undef, undef, undef] := rfl
  apply wpS_seq
  apply wpS_region
  simp [wpOpsS, go_sem, recoverD, hu, Tryd.ntmps29, Exit.thenS, hrep]
  apply wpS_seq
  apply wpS_region
  simp [wpOpsS, go_sem, Exit.thenS]
  refine wpS_cond (t := true) (by simp [Act.eval]) ?_
  simp only [if_true]
  refine wpS_of_wp ?_
  obtain ⟨wB, hwB⟩ : ∃ wB : World, wB = w.alloc (.cells #[.int .i64 p, .int .i64 n] 75) := ⟨_, rfl⟩
  have hm : Below w.heap.size w wB := by rw [hwB]; exact (Below.refl _ _).alloc (Nat.le_refl _) _
  have HF : Hid (Bk wB w.heap.size 75 #[.int .i64 p, .int .i64 n]) := Lib.hid (by rw [hwB]; exact heap_alloc_new _ _)
  have HA1 := Lib.hid (HA.out.below hm HA.out.lt); have HE1 := Lib.hid (HE.out.below hm HE.out.lt)
  have HG1 : Hid (Gr2 w wB A E) := Lib.hid ((Gr2.refl _ _ _).one (grownBy_of hm _))
  have HLT : Hid (A ≠ w.heap.size ∧ E ≠ w.heap.size) := Lib.hid ⟨Nat.ne_of_lt HA.out.lt, Nat.ne_of_lt HE.out.lt⟩
  rw [← hwB]
  clear hwB hm
  obtain ⟨F, hF⟩ : ∃ F, F = w.heap.size := ⟨_, rfl⟩
  rw [← hF] at HF HLT ⊢
  clear hF
  have c0 : wB.cell? ⟨F, 0, none⟩ = some (.int .i64 p) := HF.out.cell 0
  have c1 : wB.cell? ⟨F, 1, none⟩ = some (.int .i64 n) := HF.out.cell 1
  have a0 : wB.cell? ⟨A, 0, none⟩ = some x := HA1.out.cell 0
  have b0 : wB.cell? ⟨E, 0, none⟩ = some y := HE1.out.cell 0
  have a1 := HA1.out.frozen 0
  have b1 := HE1.out.frozen 0
  have hne := HNE.out
  have hl1 := HLT.out.1
  have hl2 := HLT.out.2
  have hne' : E ≠ A := fun e => hne e.symm
  go_region
  have gA := grownBy_setC wB ⟨A, 0, none⟩ (.int .i64 p)
  have gE := grownBy_setC (wB.setCell ⟨A, 0, none⟩ (.int .i64 p)) ⟨E, 0, none⟩ (.int .i64 n)
  have hA2 : Bk (wB.setCell ⟨A, 0, none⟩ (.int .i64 p)) A 3 #[.int .i64 p] := HA1.out.set_ 0 _
  have hE2 : Bk ((wB.setCell ⟨A, 0, none⟩ (.int .i64 p)).setCell ⟨E, 0, none⟩ (.int .i64 n)) E 24 #[.int .i64 n] := (HE1.out.kept gA hne').set_ 0 _
  have hA3 := hA2.kept gE hne
  exact ⟨rfl, _, rfl, _, results_none rfl _ _ _, HR.out _ hA3 hE2 ((HG1.out.one gA).two gE).drew⟩
set_option maxHeartbeats 1600000 in
set_option maxRecDepth 100000 in
theorem idle29 (A E : Nat) (w : World) (R : Ending → FrameMode → World → Prop) (hR : ∀ w', Below w.heap.size w w' → R (.returned (.tuple #[])) .returning w') :
    CallsD Tryd.prog 29 #[.pointer (some ⟨A, 0, none⟩), .pointer (some ⟨E, 0, none⟩)] .returning w R := by
  have HR := Lib.hid hR
  clear hR
  refine callsD_of_wpS Tryd.func29 rfl fun c₀ cs hu => ?_
  have hrep : Array.replicate 12 undef = #[undef, undef, undef, undef, undef, undef, undef, undef, undef, undef, undef, undef] := rfl
  apply wpS_seq
  apply wpS_region
  simp [wpOpsS, go_sem, recoverD, hu, Tryd.ntmps29, Exit.thenS, hrep]
  apply wpS_seq
  apply wpS_region
  simp [wpOpsS, go_sem, Exit.thenS]
  refine wpS_cond (t := false) (by simp [Act.eval]) ?_
  simp only [Bool.false_eq_true, if_false]
  refine wpS_of_wp (wp_skip ?_)
  have hm : Below w.heap.size w (w.alloc (.cells #[.int .i64 0, .int .i64 0] 75)) := (Below.refl _ _).alloc (Nat.le_refl _) _
  exact ⟨rfl, .returning, (by rw [← hu]), _, results_none rfl _ _ _, HR.out _ hm⟩
end Go.Proofs.YtlpnkllhpienhaaDoor

namespace Go.Proofs.YtlpnkllhpienhaaDoor
open Go.RowKit Go.Sort

attribute [local go_sem] field79_0 field79_1 field79_2 field79_3
theorem results10_run {tmps : Array Value} {w : World} {A0 A1 A2 : Nat} {c0 c1 c2 : Value} {p n : Int} (h4 : tmps.getD 4 undef = .pointer (some ⟨A0, 0, none⟩)) (h5 : tmps.getD 5 undef = .pointer (some ⟨A1, 0, none⟩)) (h6 : tmps.getD 6 undef = .pointer (some ⟨A2, 0, none⟩))
    (k0 : Bk w A0 33 #[c0, c1, c2]) (k1 : Bk w A1 3 #[.int .i64 p]) (k2 : Bk w A2 24 #[.int .i64 n]) : (results Tryd.f10 tmps).run Tryd.prog w = .ok (.tuple #[.agg #[c0, c1, c2], .int .i64 p, .int .i64 n]) w := by
  have e0 : w.cell? ⟨A0, 0, none⟩ = some c0 := k0.cell 0
  have e1 : w.cell? ⟨A0, 1, none⟩ = some c1 := k0.cell 1
  have e2 : w.cell? ⟨A0, 2, none⟩ = some c2 := k0.cell 2
  have e3 : w.cell? ⟨A1, 0, none⟩ = some (.int .i64 p) := k1.cell 0
  have e4 : w.cell? ⟨A2, 0, none⟩ = some (.int .i64 n) := k2.cell 0
  rw [Array.getD_eq_getD_getElem?] at h4 h5 h6
  simp [results, Tryd.results10, go_sem, h4, h5, h6, e0, e1, e2, e3, e4]
/-- What a reading of a program ends in. -/
def RdPost (s : ByteArray) (w : World) (e : Ending) (w' : World) : Prop :=
  ∃ (y : Pg) (p : Int), e = .returned (.tuple #[.agg y.cells.toArray, .int .i64 p, .int .i64 (Pr.rd s).1]) ∧ y.er = (Pr.rd s).2 ∧ pgLies (fresh w.heap.size w') y ∧ Below w.heap.size w w'
theorem below_par {w0 w w' : World} {g : Nat} (h : Below w0.heap.size w0 w) (hg : w.grownBy w' (some g)) (hB : w0.heap.size ≤ g) : Below w0.heap.size w0 w' :=
  ⟨hg.os.trans h.os, hg.tape.trans h.tape, hg.output.trans h.output, Nat.le_trans h.size hg.size, fun i hi => (hg.block i (Nat.lt_of_lt_of_le hi h.size) (by intro e; injection e with e; omega)).trans (h.block i hi)⟩
theorem below_gr2 {w0 w w' : World} {a b : Nat} (h : Below w0.heap.size w0 w) (hg : Gr2 w w' a b) (ha : w0.heap.size ≤ a) (hb : w0.heap.size ≤ b) : Below w0.heap.size w0 w' :=
  ⟨hg.os.trans h.os, hg.tape.trans h.tape, hg.output.trans h.output, Nat.le_trans h.size hg.size, fun i hi => (hg.block i (Nat.lt_of_lt_of_le hi h.size) (by omega) (by omega)).trans (h.block i hi)⟩
theorem setCell_self {w : World} {b o : Nat} {v : Value} (h : w.cell? ⟨b, o, none⟩ = some v) : w.setCell ⟨b, o, none⟩ v = w := by
  cases w with
  | mk heap tape drawn os output =>
    simp only [World.setCell]
    congr 1
    apply Array.ext
    · simp
    · intro i h1 h2
      rw [Array.getElem_modify]
      split
      · rename_i hi
        subst hi
        unfold World.cell? at h
        have hlt : b < heap.size := by simpa using h1
        simp only [Array.getElem?_eq_getElem hlt] at h
        cases hb : heap[b] with
        | cells cs t fr =>
          rw [hb] at h
          simp only at h
          have e : cs.setIfInBounds o v = cs := by
            apply Array.ext
            · simp
            · intro j h3 h4
              rw [Array.getElem_setIfInBounds (by simpa using h3)]
              split
              · rename_i hj; subst hj
                obtain ⟨_, he⟩ := Array.getElem?_eq_some_iff.1 h
                exact he.symm
              · rfl
          simp [e]
        | _ => simp [hb] at h
      · rfl
theorem noPg_lies (w : World) : pgLies w Pr.noPg := ⟨⟨(show 0 * 48 ≤ 140737488351232 by decide), .inl rfl⟩, ⟨(show 0 * 40 ≤ 140737488351232 by decide), .inl rfl⟩, ⟨(show 0 * 104 ≤ 140737488351232 by decide), .inl rfl⟩⟩
set_option maxHeartbeats 3200000 in
set_option maxRecDepth 100000 in
theorem whole10 (s : ByteArray) (w : World) (hs : s.size ≤ 5000000) (hg : Gl w) :
    Calls Tryd.prog 10 #[.string s, .func (.func 11) #[] #[]] w (RdPost s w) := by
  have hmf : ∀ (fn : Fn) (first cap : Array Value) (w : World), (Instr.makeFunc fn first cap).run Tryd.prog w = .ok (.func fn first cap) w := fun _ _ _ _ => rfl
  obtain ⟨wA, hwA⟩ : ∃ wA : World, wA = ((w.alloc (.cells #[.slice none 0 0, .slice none 0 0, .slice none 0 0] 33)).alloc (.cells #[.int .i64 0] 3)).alloc (.cells #[.int .i64 0] 24) := ⟨_, rfl⟩
  have HBA : Hid (Below w.heap.size w wA) := Lib.hid (by rw [hwA]; exact (((Below.refl _ _).alloc (Nat.le_refl _) _).alloc (by simp) _).alloc (by simp; omega) _)
  have HSA : Hid (wA.heap.size = w.heap.size + 3) := Lib.hid (by rw [hwA]; simp)
  have HK0 : Hid (Bk wA w.heap.size 33 #[.slice none 0 0, .slice none 0 0, .slice none 0 0]) := Lib.hid (by rw [hwA]; unfold Bk; rw [heap_alloc_old _ _ (by simp; omega), heap_alloc2_old])
  have HK1 : Hid (Bk wA (w.heap.size + 1) 3 #[.int .i64 0]) := Lib.hid (by rw [hwA]; unfold Bk; rw [heap_alloc_old _ _ (by simp), heap_alloc2_new])
  have HK2 : Hid (Bk wA (w.heap.size + 2) 24 #[.int .i64 0]) := Lib.hid (by rw [hwA]; have := heap_alloc2_new (w.alloc (.cells #[.slice none 0 0, .slice none 0 0, .slice none 0 0] 33)) (.cells #[.int .i64 0] 3) (.cells #[.int .i64 0] 24); simpa [Bk] using this)
  have HGL : Hid (Gl wA) := Lib.hid (hg.below HBA.out hg.two)
  have HLX := Lib.hid (lexAll_any s wA hs HGL.out)
  clear hs hg
  go_enter_defers Tryd.func10, Tryd.ntmps10
  go_wp2_with fail
  rw [← hwA]
  clear hwA
  refine (HLX.out).mono ?_; rintro en w1 ⟨v, rfl, hown, hb⟩
  have HO := Lib.hid hown; have HB1 := Lib.hid hb
  have HK01 := Lib.hid (HK0.out.below hb HK0.out.lt); have HK11 := Lib.hid (HK1.out.below hb HK1.out.lt); have HK21 := Lib.hid (HK2.out.below hb HK2.out.lt)
  clear hown hb HK0 HK1 HK2 HLX
  obtain ⟨at_, hat⟩ : ∃ a, a = ((Tx.alls s).2.1 : Int) := ⟨_, rfl⟩
  obtain ⟨er, her⟩ : ∃ a, a = (Tx.alls s).2.2 := ⟨_, rfl⟩
  rw [← hat, ← her]
  have HER := Lib.hid her
  clear hat her
  have a1c : w1.cell? ⟨w.heap.size + 1, 0, none⟩ = some (.int .i64 0) := HK11.out.cell 0
  have a1f := HK11.out.frozen 0
  have a2c : w1.cell? ⟨w.heap.size + 1 + 1, 0, none⟩ = some (.int .i64 0) := HK21.out.cell 0
  have a2f : w1.frozen? ⟨w.heap.size + 1 + 1, 0, none⟩ = false := HK21.out.frozen 0
  have g1 := grownBy_setC w1 ⟨w.heap.size + 1, 0, none⟩ (.int .i64 at_)
  have g2 := grownBy_setC (w1.setCell ⟨w.heap.size + 1, 0, none⟩ (.int .i64 at_)) ⟨w.heap.size + 1 + 1, 0, none⟩ (.int .i64 er)
  have HK02 : Hid (Bk ((w1.setCell ⟨w.heap.size + 1, 0, none⟩ (.int .i64 at_)).setCell ⟨w.heap.size + 1 + 1, 0, none⟩ (.int .i64 er)) w.heap.size 33 #[.slice none 0 0, .slice none 0 0, .slice none 0 0]) := Lib.hid ((HK01.out.kept g1 (by simp)).kept g2 (by simp; omega))
  have HK12 : Hid (Bk ((w1.setCell ⟨w.heap.size + 1, 0, none⟩ (.int .i64 at_)).setCell ⟨w.heap.size + 1 + 1, 0, none⟩ (.int .i64 er)) (w.heap.size + 1) 3 #[.int .i64 at_]) := Lib.hid (Bk.kept (HK11.out.set_ 0 _) g2 (by simp))
  have HK22 : Hid (Bk ((w1.setCell ⟨w.heap.size + 1, 0, none⟩ (.int .i64 at_)).setCell ⟨w.heap.size + 1 + 1, 0, none⟩ (.int .i64 er)) (w.heap.size + 1 + 1) 24 #[.int .i64 er]) := Lib.hid ((HK21.out.kept g1 (by simp)).set_ 0 _)
  have HO2 : Hid (((w1.setCell ⟨w.heap.size + 1, 0, none⟩ (.int .i64 at_)).setCell ⟨w.heap.size + 1 + 1, 0, none⟩ (.int .i64 er)).ownsRow wA.heap.size 79 4 v (Tx.alls s).1.length ((Tx.alls s).1.flatMap Tx.cells)) := Lib.hid (own_par (own_par HO.out g1 (by have := HSA.out; simp; omega)) g2 (by have := HSA.out; simp; omega))
  have HB2 : Hid (Below w.heap.size w ((w1.setCell ⟨w.heap.size + 1, 0, none⟩ (.int .i64 at_)).setCell ⟨w.heap.size + 1 + 1, 0, none⟩ (.int .i64 er))) := Lib.hid (((HBA.out.trans (HB1.out.mono HBA.out.size)).setCell (p := ⟨w.heap.size + 1, 0, none⟩) (by simp) _).setCell (p := ⟨w.heap.size + 1 + 1, 0, none⟩) (by simp; omega) _)
  clear g1 g2
  go_upto_region 2 with fail
  clear a1c a1f a2c a2f HK01 HK11 HK21 HO HB1
  generalize (w1.setCell ⟨w.heap.size + 1, 0, none⟩ (.int .i64 at_)).setCell ⟨w.heap.size + 1 + 1, 0, none⟩ (.int .i64 er) = w2 at HK02 HK12 HK22 HO2 HB2 ⊢
  have a2c : w2.cell? ⟨w.heap.size + 1 + 1, 0, none⟩ = some (.int .i64 er) := HK22.out.cell 0
  by_cases he : er = 0
  · subst he
    have HE0 : Hid ((Tx.alls s).2.2 = 0) := Lib.hid HER.out.symm
    obtain ⟨hgd, htx, hln⟩ := alls_good s HE0.out
    obtain ⟨sb, cap, rfl, hsb, hsbB, hrow⟩ := ps_start HO2.out hln
    have HPS : Hid (PS (w2.alloc (.cells #[.slice (some ⟨sb, 0, none⟩) (Tx.alls s).1.length cap, .int .i64 0, .int .i64 0, .int .i64 0] 78)) w2.heap.size sb cap (Tx.alls s).1 0 0 0) := Lib.hid ⟨heap_alloc_new _ _, fun k x hx j u hu => (World.cell?_alloc_lt _ _ _ (show sb < w2.heap.size from hsb)).trans (hrow k x hx j u hu), Nat.ne_of_lt hsb, hln⟩
    have HGD := Lib.hid hgd; have HTX := Lib.hid htx
    have hm : Below w2.heap.size w2 (w2.alloc (.cells #[.slice (some ⟨sb, 0, none⟩) (Tx.alls s).1.length cap, .int .i64 0, .int .i64 0, .int .i64 0] 78)) := (Below.refl _ _).alloc (Nat.le_refl _) _
    have HK03 := Lib.hid (HK02.out.below hm HK02.out.lt); have HK13 := Lib.hid (HK12.out.below hm HK12.out.lt); have HK23 := Lib.hid (HK22.out.below hm HK22.out.lt); have HB3 := Lib.hid (HB2.out.trans (hm.mono HB2.out.size))
    obtain ⟨pb, hpb⟩ : ∃ p, p = w2.heap.size := ⟨_, rfl⟩
    have HPB : Hid (w.heap.size + 1 + 1 < pb) := Lib.hid (by have := HK22.out.lt; omega)
    have HPB3 : Hid (pb = w2.heap.size) := Lib.hid hpb
    clear hm hgd htx hln hsb hsbB hrow HO2 hpb
    go_wp2_with fail
    rw [← HPB3.out] at HPS ⊢
    generalize w2.alloc (.cells #[.slice (some ⟨sb, 0, none⟩) (Tx.alls s).1.length cap, .int .i64 0, .int .i64 0, .int .i64 0] 78) = w3 at HPS HK03 HK13 HK23 HB3 ⊢
    clear a2c HK02 HK12 HK22 HB2
    refine (program_any w3 ⟨0, 0, 0⟩ HPS.out HGD.out HTX.out ⟨by decide, by decide, by decide, by decide⟩).mono ?_; intro en w4 ho
    rcases hm4 : Pr.program ((Tx.alls s).1.map Pr.tk) (((Tx.alls s).1.map Pr.tk).length + 1) [] [] [] ⟨0, 0, 0⟩ with n | ⟨a4, u4⟩
    · obtain ⟨p, rfl, g4⟩ := ho.of_err hm4
      have HRD : Hid (Pr.rd s = (n.1, Pr.noPg)) := Lib.hid (by unfold Pr.rd; rw [if_pos HE0.out]; unfold Pr.whole; rw [hm4])
      have hk04 := HK03.out.kept g4 (by have := HPB.out; omega)
      have hk14 := HK13.out.kept g4 (by have := HPB.out; omega)
      have hk24 := HK23.out.kept g4 (by have := HPB.out; omega)
      have hb4 : Below w.heap.size w w4 := below_par HB3.out g4 (by have := HPB.out; omega)
      refine leaves_cons (f := 22) (args := #[.pointer (some ⟨w.heap.size + 1, 0, none⟩), .pointer (some ⟨w.heap.size + 1 + 1, 0, none⟩)]) (by simp) (by simp [go_sem]) ?_
      refine catch22 (w.heap.size + 1) (w.heap.size + 1 + 1) (posAt (Tx.alls s).1 n.2) n.1 _ _ w4 hk14 hk24 (by omega) _ ?_
      intro w5 k1 k2 g5
      exact ⟨_, results10_run rfl rfl rfl (g5.bk hk04 (by omega) (by omega)) k1 k2, ⟨Pr.noPg, posAt (Tx.alls s).1 n.2, by rw [HRD.out]; rfl, by rw [HRD.out]; rfl, noPg_lies _, below_gr2 hb4 g5 (by omega) (by omega)⟩⟩
    obtain ⟨v, rfl, ⟨y, rfl, hy, hly⟩, h4, g4⟩ := ho.of_ok hm4
    have HM4 := Lib.hid hm4; have HYE : Hid (Pg.er y = a4) := Lib.hid hy
    have HLY : Hid (pgLies (fresh w3.heap.size w4) y) := Lib.hid hly
    have HP4 := Lib.hid h4
    have HK04 := Lib.hid (HK03.out.kept g4 (by have := HPB.out; omega)); have HK14 := Lib.hid (HK13.out.kept g4 (by have := HPB.out; omega)); have HK24 := Lib.hid (HK23.out.kept g4 (by have := HPB.out; omega))
    have HB4 : Hid (Below w.heap.size w w4) := Lib.hid (below_par HB3.out g4 (by have := HPB.out; omega))
    have HW3 : Hid (w.heap.size ≤ w3.heap.size ∧ w.heap.size + 1 + 1 < w3.heap.size) := Lib.hid ⟨HB3.out.size, HK23.out.lt⟩
    clear hm4 hy hly h4 g4 ho HPS HK03 HK13 HK23 HB3
    go_upto_region 7 with (first | ((with_reducible show wpList _ _ _ (Oper.mk none (Op.store 33 _ _) _ _ _ _ :: _) _ _); refine wpList_store_new rfl 33 (.tmp 9) (.tmp 27) rfl _ (Pg.cells y).toArray rfl rfl size33 rfl (kPg.one _) ?_))
    have hm : Below w4.heap.size w4 (w4.alloc (.cells (Pg.cells y).toArray 33)) := (Below.refl _ _).alloc (Nat.le_refl _) _
    have HP5 := Lib.hid (HP4.out.below hm); have HK05 := Lib.hid (HK04.out.below hm HK04.out.lt); have HK15 := Lib.hid (HK14.out.below hm HK14.out.lt); have HK25 := Lib.hid (HK24.out.below hm HK24.out.lt); have HB5 := Lib.hid (HB4.out.trans (hm.mono HB4.out.size))
    have HLY5 : Hid (pgLies (fresh w3.heap.size (w4.alloc (.cells (Pg.cells y).toArray 33))) y) := Lib.hid (pgLies_ext (fresh_below hm) HLY.out)
    have HD5 : Hid (Bk (w4.alloc (.cells (Pg.cells y).toArray 33)) w4.heap.size 33 (Pg.cells y).toArray) := Lib.hid (heap_alloc_new _ _)
    obtain ⟨D, hD⟩ : ∃ D, D = w4.heap.size := ⟨_, rfl⟩
    rw [← hD] at HD5 ⊢
    clear hD hm HP4 HK04 HK14 HK24 HB4 HLY
    change Code.wp _ _ _ _ (w4.alloc (.cells (Pg.cells y).toArray 33))
    generalize w4.alloc (.cells (Pg.cells y).toArray 33) = w5 at HP5 HK05 HK15 HK25 HB5 HLY5 HD5 ⊢
    obtain ⟨x, hx⟩ := HP5.out.at
    have HX := Lib.hid hx
    have HSG := Lib.hid (Pr.sg_tk hx)
    clear hx
    go_wp2_with fail
    refine (ahead_any x w5 HP5.out HGD.out HX.out).mono ?_; rintro en w6 ⟨rfl, hb⟩
    have HP6 := Lib.hid (HP5.out.below hb); have HK06 := Lib.hid (HK05.out.below hb HK05.out.lt); have HK16 := Lib.hid (HK15.out.below hb HK15.out.lt); have HK26 := Lib.hid (HK25.out.below hb HK25.out.lt); have HB6 := Lib.hid (HB5.out.trans (hb.mono HB5.out.size)); have HD6 := Lib.hid (HD5.out.below hb HD5.out.lt)
    have HLY6 : Hid (pgLies (fresh w3.heap.size w6) y) := Lib.hid (pgLies_ext (fresh_below hb) HLY5.out)
    clear hb HP5 HK05 HK15 HK25 HB5 HD5 HLY5
    by_cases hk : x.kind = 0
    · have hkd : (x.kind != 0) = false := by rw [hk]; rfl
      have HRD : Hid (Pr.rd s = (0, a4)) := Lib.hid (by unfold Pr.rd; rw [if_pos HE0.out]; unfold Pr.whole; rw [HM4.out]; simp only; rw [if_pos (by rw [HSG.out]; exact hk)])
      clear hk
      have b1c : w6.cell? ⟨w.heap.size + 1, 0, none⟩ = some (.int .i64 at_) := HK16.out.cell 0
      go_wp2_with (first | ((with_reducible show wpList _ _ _ (Oper.mk (some 34) (Op.load 33 _) _ _ _ _ :: _) _ _); refine wpList_load_bk rfl 33 (.tmp 9) rfl D 33 (Pg.cells y).toArray rfl _ HD6.out Tryd.underlying33 rfl size33 ?_) | ((with_reducible show wpList _ _ _ (Oper.mk none (Op.store 33 (Operand.tmp 4) (Operand.tmp 34)) _ _ _ _ :: _) _ _); refine wpList_store_bk rfl 33 (.tmp 4) (.tmp 34) rfl w.heap.size 33 _ (Pg.cells y).toArray rfl rfl HK06.out size33 rfl (kPg.one _) ?_; intro w7 hB hF; have q1 : w7.cell? ⟨w.heap.size + 1, 0, none⟩ = some (.int .i64 at_) := (HK16.out.kept hF (by omega)).cell 0; have q2 : w7.cell? ⟨w.heap.size + 1 + 1, 0, none⟩ = some (.int .i64 0) := (HK26.out.kept hF (by omega)).cell 0; have q3 := (HK16.out.kept hF (by omega)).frozen 0; have q4 : w7.frozen? ⟨w.heap.size + 1 + 1, 0, none⟩ = false := (HK26.out.kept hF (by omega)).frozen 0; have HB7 := Lib.hid hB; have HF7 := Lib.hid hF; clear hB hF))
      have g1 := grownBy_setC w7 ⟨w.heap.size + 1, 0, none⟩ (.int .i64 0)
      have g2 := grownBy_setC (w7.setCell ⟨w.heap.size + 1, 0, none⟩ (.int .i64 0)) ⟨w.heap.size + 1 + 1, 0, none⟩ (.int .i64 0)
      have k0 := (HB7.out.kept g1 (by simp)).kept g2 (by simp; omega)
      have k1 : Bk ((w7.setCell ⟨w.heap.size + 1, 0, none⟩ (.int .i64 0)).setCell ⟨w.heap.size + 1 + 1, 0, none⟩ (.int .i64 0)) (w.heap.size + 1) 3 #[.int .i64 0] := Bk.kept ((HK16.out.kept HF7.out (by omega)).set_ 0 _) g2 (by simp)
      have k2 : Bk ((w7.setCell ⟨w.heap.size + 1, 0, none⟩ (.int .i64 0)).setCell ⟨w.heap.size + 1 + 1, 0, none⟩ (.int .i64 0)) (w.heap.size + 1 + 1) 24 #[.int .i64 0] := (((HK26.out.kept HF7.out (by omega)).kept g1 (by simp))).set_ 0 _
      have hb7 : Below w.heap.size w w7 := below_par HB6.out HF7.out (Nat.le_refl _)
      have hb8 := (hb7.setCell (p := ⟨w.heap.size + 1, 0, none⟩) (by simp) (.int .i64 0)).setCell (p := ⟨w.heap.size + 1 + 1, 0, none⟩) (by simp; omega) (.int .i64 0)
      have hl : pgLies (fresh w.heap.size ((w7.setCell ⟨w.heap.size + 1, 0, none⟩ (.int .i64 0)).setCell ⟨w.heap.size + 1 + 1, 0, none⟩ (.int .i64 0))) y :=
        pgLies_ext ((fresh_par HF7.out (by have := HW3.out; omega)).trans ((fresh_par g1 (by have := HW3.out; simp; omega)).trans ((fresh_par g2 (by have := HW3.out; simp; omega)).trans (fresh_mono HW3.out.1 _)))) HLY6.out
      refine leaves_cons (f := 22) (args := #[.pointer (some ⟨w.heap.size + 1, 0, none⟩), .pointer (some ⟨w.heap.size + 1 + 1, 0, none⟩)]) (by simp) (by simp [go_sem]) ?_
      refine idle22 (w.heap.size + 1) (w.heap.size + 1 + 1) _ _ ?_
      intro w8 hbb
      exact ⟨_, results10_run rfl rfl rfl (k0.below hbb k0.lt) (k1.below hbb k1.lt) (k2.below hbb k2.lt), ⟨y, 0, by rw [HRD.out], by rw [HRD.out]; exact HYE.out, pgLies_ext (fresh_below hbb) hl, hb8.trans (hbb.mono hb8.size)⟩⟩
    · have hkd : (x.kind != 0) = true := by rw [bne_iff_ne]; exact hk
      have HRD : Hid (Pr.rd s = (5, Pr.noPg)) := Lib.hid (by unfold Pr.rd; rw [if_pos HE0.out]; unfold Pr.whole; rw [HM4.out]; simp only; rw [if_neg (by rw [HSG.out]; exact hk)])
      clear hk
      go_wp2_with fail
      refine (stop_any x 5 w6 HP6.out HGD.out HX.out).mono ?_; rintro en w7 ⟨rfl, hb⟩
      have hk07 := HK06.out.below hb HK06.out.lt
      have hk17 := HK16.out.below hb HK16.out.lt
      have hk27 := HK26.out.below hb HK26.out.lt
      have hb7 : Below w.heap.size w w7 := HB6.out.trans (hb.mono HB6.out.size)
      refine leaves_cons (f := 22) (args := #[.pointer (some ⟨w.heap.size + 1, 0, none⟩), .pointer (some ⟨w.heap.size + 1 + 1, 0, none⟩)]) (by simp) (by simp [go_sem]) ?_
      refine catch22 (w.heap.size + 1) (w.heap.size + 1 + 1) x.pos 5 _ _ w7 hk17 hk27 (by omega) _ ?_
      intro w8 k1 k2 g8
      exact ⟨_, results10_run rfl rfl rfl (g8.bk hk07 (by omega) (by omega)) k1 k2, ⟨Pr.noPg, x.pos, by rw [HRD.out]; rfl, by rw [HRD.out]; rfl, noPg_lies _, below_gr2 hb7 g8 (by omega) (by omega)⟩⟩
  · have hed : (er != 0) = true := by rw [bne_iff_ne]; exact he
    have HRD : Hid (Pr.rd s = (er, Pr.noPg)) := Lib.hid (by unfold Pr.rd; rw [if_neg (by rw [← HER.out]; exact he), ← HER.out])
    clear he
    have d0 : w2.drew.cell? ⟨w.heap.size, 0, none⟩ = some (.slice none 0 0) := HK02.out.cell 0
    have d1 : w2.drew.cell? ⟨w.heap.size, 1, none⟩ = some (.slice none 0 0) := HK02.out.cell 1
    have d2 : w2.drew.cell? ⟨w.heap.size, 2, none⟩ = some (.slice none 0 0) := HK02.out.cell 2
    have d3 : w2.drew.cell? ⟨w.heap.size + 1, 0, none⟩ = some (.int .i64 at_) := HK12.out.cell 0
    have d4 : w2.drew.cell? ⟨w.heap.size + 1 + 1, 0, none⟩ = some (.int .i64 er) := HK22.out.cell 0
    have s0 := setCell_self d0
    have s1 := setCell_self d1
    have s2 := setCell_self d2
    have s3 := setCell_self d3
    have s4 := setCell_self d4
    have f0 : w2.drew.frozen? ⟨w.heap.size, 0, none⟩ = false := HK02.out.frozen 0
    have f1 : w2.drew.frozen? ⟨w.heap.size, 1, none⟩ = false := HK02.out.frozen 1
    have f2 : w2.drew.frozen? ⟨w.heap.size, 2, none⟩ = false := HK02.out.frozen 2
    have f3 : w2.drew.frozen? ⟨w.heap.size + 1, 0, none⟩ = false := HK12.out.frozen 0
    have f4 : w2.drew.frozen? ⟨w.heap.size + 1 + 1, 0, none⟩ = false := HK22.out.frozen 0
    go_wp2_with fail
    go_region_held3 (fun w' => w'.cell? ⟨w.heap.size, 0, none⟩ = some (.slice none 0 0) ∧ w'.cell? ⟨w.heap.size, 1, none⟩ = some (.slice none 0 0) ∧ w'.cell? ⟨w.heap.size, 2, none⟩ = some (.slice none 0 0) ∧ w'.cell? ⟨w.heap.size + 1, 0, none⟩ = some (.int .i64 at_) ∧ w'.cell? ⟨w.heap.size + 1 + 1, 0, none⟩ = some (.int .i64 er)) (exact ⟨d0, d1, d2, d3, d4⟩) (fail)
    all_goals
      go_wp2_with fail
      exact ⟨_, results10_run (w := w2.drew) rfl rfl rfl HK02.out HK12.out HK22.out, ⟨Pr.noPg, at_, by rw [HRD.out]; rfl, by rw [HRD.out]; rfl, noPg_lies _, below_drew HB2.out⟩⟩
end Go.Proofs.YtlpnkllhpienhaaDoor

namespace Go.Proofs.YtlpnkllhpienhaaDoor
open Go.RowKit Go.Sort

attribute [local go_sem] field79_0 field79_1 field79_2 field79_3
theorem results14_run {tmps : Array Value} {w : World} {A1 A2 : Nat} {v : Value} {p n : Int} (h4 : tmps.getD 4 undef = v) (h5 : tmps.getD 5 undef = .pointer (some ⟨A1, 0, none⟩)) (h6 : tmps.getD 6 undef = .pointer (some ⟨A2, 0, none⟩))
    (k1 : Bk w A1 3 #[.int .i64 p]) (k2 : Bk w A2 24 #[.int .i64 n]) : (results Tryd.f14 tmps).run Tryd.prog w = .ok (.tuple #[v, .int .i64 p, .int .i64 n]) w := by
  have e3 : w.cell? ⟨A1, 0, none⟩ = some (.int .i64 p) := k1.cell 0
  have e4 : w.cell? ⟨A2, 0, none⟩ = some (.int .i64 n) := k2.cell 0
  rw [Array.getD_eq_getD_getElem?] at h4 h5 h6
  simp [results, Tryd.results14, go_sem, h4, h5, h6, e3, e4]
/-- What a reading of statements ends in. -/
def RdsPost (s : ByteArray) (w : World) (e : Ending) (w' : World) : Prop :=
  ∃ (p : Option Addr) (c : Nat) (y : SL), e = .returned (.tuple #[.slice p y.len c, .int .i64 (Pr.rds s).2.1, .int .i64 (Pr.rds s).1]) ∧ y.er = (Pr.rds s).2.2 ∧ sLies (fresh w.heap.size w') p y ∧ Below w.heap.size w w'
theorem noSL_lies (w : World) : sLies w none .nil := ⟨(show 0 * 608 ≤ 140737488351232 by decide), .inl rfl⟩
set_option maxHeartbeats 3200000 in
set_option maxRecDepth 100000 in
theorem whole14 (s : ByteArray) (w : World) (hs : s.size ≤ 5000000) (hg : Gl w) :
    Calls Tryd.prog 14 #[.string s, .func (.func 15) #[] #[]] w (RdsPost s w) := by
  have hmf : ∀ (fn : Fn) (first cap : Array Value) (w : World), (Instr.makeFunc fn first cap).run Tryd.prog w = .ok (.func fn first cap) w := fun _ _ _ _ => rfl
  obtain ⟨wA, hwA⟩ : ∃ wA : World, wA = (w.alloc (.cells #[.int .i64 0] 3)).alloc (.cells #[.int .i64 0] 24) := ⟨_, rfl⟩
  have HBA : Hid (Below w.heap.size w wA) := Lib.hid (by rw [hwA]; exact ((Below.refl _ _).alloc (Nat.le_refl _) _).alloc (by simp) _)
  have HSA : Hid (wA.heap.size = w.heap.size + 2) := Lib.hid (by rw [hwA]; simp)
  have HK1 : Hid (Bk wA w.heap.size 3 #[.int .i64 0]) := Lib.hid (by rw [hwA]; unfold Bk; rw [heap_alloc2_old])
  have HK2 : Hid (Bk wA (w.heap.size + 1) 24 #[.int .i64 0]) := Lib.hid (by rw [hwA]; unfold Bk; rw [heap_alloc2_new])
  have HGL : Hid (Gl wA) := Lib.hid (hg.below HBA.out hg.two)
  have HLX := Lib.hid (lexAll_any s wA hs HGL.out)
  clear hs hg
  go_enter_defers Tryd.func14, Tryd.ntmps14
  go_wp2_with fail
  rw [← hwA]
  clear hwA
  refine (HLX.out).mono ?_; rintro en w1 ⟨v, rfl, hown, hb⟩
  have HO := Lib.hid hown; have HB1 := Lib.hid hb
  have HK11 := Lib.hid (HK1.out.below hb HK1.out.lt); have HK21 := Lib.hid (HK2.out.below hb HK2.out.lt)
  clear hown hb HK1 HK2 HLX
  obtain ⟨at_, hat⟩ : ∃ a, a = ((Tx.alls s).2.1 : Int) := ⟨_, rfl⟩
  obtain ⟨er, her⟩ : ∃ a, a = (Tx.alls s).2.2 := ⟨_, rfl⟩
  rw [← hat, ← her]
  have HER := Lib.hid her
  have HAT := Lib.hid hat
  clear hat her
  have a1c : w1.cell? ⟨w.heap.size, 0, none⟩ = some (.int .i64 0) := HK11.out.cell 0
  have a1f := HK11.out.frozen 0
  have a2c : w1.cell? ⟨w.heap.size + 1, 0, none⟩ = some (.int .i64 0) := HK21.out.cell 0
  have a2f : w1.frozen? ⟨w.heap.size + 1, 0, none⟩ = false := HK21.out.frozen 0
  have g1 := grownBy_setC w1 ⟨w.heap.size, 0, none⟩ (.int .i64 at_)
  have g2 := grownBy_setC (w1.setCell ⟨w.heap.size, 0, none⟩ (.int .i64 at_)) ⟨w.heap.size + 1, 0, none⟩ (.int .i64 er)
  have HK12 : Hid (Bk ((w1.setCell ⟨w.heap.size, 0, none⟩ (.int .i64 at_)).setCell ⟨w.heap.size + 1, 0, none⟩ (.int .i64 er)) w.heap.size 3 #[.int .i64 at_]) := Lib.hid (Bk.kept (HK11.out.set_ 0 _) g2 (by simp))
  have HK22 : Hid (Bk ((w1.setCell ⟨w.heap.size, 0, none⟩ (.int .i64 at_)).setCell ⟨w.heap.size + 1, 0, none⟩ (.int .i64 er)) (w.heap.size + 1) 24 #[.int .i64 er]) := Lib.hid ((HK21.out.kept g1 (by simp)).set_ 0 _)
  have HO2 : Hid (((w1.setCell ⟨w.heap.size, 0, none⟩ (.int .i64 at_)).setCell ⟨w.heap.size + 1, 0, none⟩ (.int .i64 er)).ownsRow wA.heap.size 79 4 v (Tx.alls s).1.length ((Tx.alls s).1.flatMap Tx.cells)) := Lib.hid (own_par (own_par HO.out g1 (by have := HSA.out; simp; omega)) g2 (by have := HSA.out; simp; omega))
  have HB2 : Hid (Below w.heap.size w ((w1.setCell ⟨w.heap.size, 0, none⟩ (.int .i64 at_)).setCell ⟨w.heap.size + 1, 0, none⟩ (.int .i64 er))) := Lib.hid (((HBA.out.trans (HB1.out.mono HBA.out.size)).setCell (p := ⟨w.heap.size, 0, none⟩) (by simp) _).setCell (p := ⟨w.heap.size + 1, 0, none⟩) (by simp) _)
  clear g1 g2
  go_upto_region 2 with fail
  clear a1c a1f a2c a2f HK11 HK21 HO HB1
  generalize (w1.setCell ⟨w.heap.size, 0, none⟩ (.int .i64 at_)).setCell ⟨w.heap.size + 1, 0, none⟩ (.int .i64 er) = w2 at HK12 HK22 HO2 HB2 ⊢
  have a2c : w2.cell? ⟨w.heap.size + 1, 0, none⟩ = some (.int .i64 er) := HK22.out.cell 0
  by_cases he : er = 0
  · subst he
    have HE0 : Hid ((Tx.alls s).2.2 = 0) := Lib.hid HER.out.symm
    obtain ⟨hgd, htx, hln⟩ := alls_good s HE0.out
    obtain ⟨sb, cap, rfl, hsb, hsbB, hrow⟩ := ps_start HO2.out hln
    have HPS : Hid (PS (w2.alloc (.cells #[.slice (some ⟨sb, 0, none⟩) (Tx.alls s).1.length cap, .int .i64 0, .int .i64 0, .int .i64 0] 78)) w2.heap.size sb cap (Tx.alls s).1 0 0 0) := Lib.hid ⟨heap_alloc_new _ _, fun k x hx j u hu => (World.cell?_alloc_lt _ _ _ (show sb < w2.heap.size from hsb)).trans (hrow k x hx j u hu), Nat.ne_of_lt hsb, hln⟩
    have HGD := Lib.hid hgd; have HTX := Lib.hid htx
    have hm : Below w2.heap.size w2 (w2.alloc (.cells #[.slice (some ⟨sb, 0, none⟩) (Tx.alls s).1.length cap, .int .i64 0, .int .i64 0, .int .i64 0] 78)) := (Below.refl _ _).alloc (Nat.le_refl _) _
    have HK13 := Lib.hid (HK12.out.below hm HK12.out.lt); have HK23 := Lib.hid (HK22.out.below hm HK22.out.lt); have HB3 := Lib.hid (HB2.out.trans (hm.mono HB2.out.size))
    obtain ⟨pb, hpb⟩ : ∃ p, p = w2.heap.size := ⟨_, rfl⟩
    have HPB : Hid (w.heap.size + 1 < pb) := Lib.hid (by have := HK22.out.lt; omega)
    have HPB3 : Hid (pb = w2.heap.size) := Lib.hid hpb
    clear hm hgd htx hln hsb hsbB hrow HO2 hpb
    go_wp2_with fail
    rw [← HPB3.out] at HPS ⊢
    generalize w2.alloc (.cells #[.slice (some ⟨sb, 0, none⟩) (Tx.alls s).1.length cap, .int .i64 0, .int .i64 0, .int .i64 0] 78) = w3 at HPS HK13 HK23 HB3 ⊢
    clear a2c HK12 HK22 HB2
    refine (stmts_any HGD.out HTX.out (((Tx.alls s).1.map Pr.tk).length + 1) w3 ⟨0, 0, 0⟩ HPS.out ⟨by decide, by decide, by decide, by decide⟩ (by rw [List.length_map]; simp)).mono ?_; intro en w4 ho
    rcases hm4 : Pr.stmts ((Tx.alls s).1.map Pr.tk) (((Tx.alls s).1.map Pr.tk).length + 1) ⟨0, 0, 0⟩ with n | ⟨a4, u4⟩
    · obtain ⟨p, rfl, g4⟩ := ho.of_err hm4
      have HRD : Hid (Pr.rds s = (n.1, posAt (Tx.alls s).1 n.2, .nil)) := Lib.hid (by unfold Pr.rds; rw [if_pos HE0.out]; unfold Pr.whole; rw [hm4])
      have hk14 := HK13.out.kept g4 (by have := HPB.out; omega)
      have hk24 := HK23.out.kept g4 (by have := HPB.out; omega)
      have hb4 : Below w.heap.size w w4 := below_par HB3.out g4 (by have := HPB.out; omega)
      refine leaves_cons (f := 29) (args := #[.pointer (some ⟨w.heap.size, 0, none⟩), .pointer (some ⟨w.heap.size + 1, 0, none⟩)]) (by simp) (by simp [go_sem]) ?_
      refine catch29 w.heap.size (w.heap.size + 1) (posAt (Tx.alls s).1 n.2) n.1 _ _ w4 hk14 hk24 (by omega) _ ?_
      intro w5 k1 k2 g5
      exact ⟨_, results14_run rfl rfl rfl k1 k2, ⟨none, 0, .nil, by rw [HRD.out]; rfl, by rw [HRD.out]; rfl, noSL_lies _, below_gr2 hb4 g5 (by omega) (by omega)⟩⟩
    obtain ⟨v, rfl, ⟨sp, sc, y, rfl, hy, hly⟩, h4, g4⟩ := ho.of_ok hm4
    have HM4 := Lib.hid hm4; have HYE := Lib.hid hy
    have HLY : Hid (sLies (fresh w3.heap.size w4) sp y) := Lib.hid hly
    have HP4 := Lib.hid h4
    have HK14 := Lib.hid (HK13.out.kept g4 (by have := HPB.out; omega)); have HK24 := Lib.hid (HK23.out.kept g4 (by have := HPB.out; omega))
    have HB4 : Hid (Below w.heap.size w w4) := Lib.hid (below_par HB3.out g4 (by have := HPB.out; omega))
    have HW3 : Hid (w.heap.size ≤ w3.heap.size ∧ w.heap.size + 1 < w3.heap.size) := Lib.hid ⟨HB3.out.size, HK23.out.lt⟩
    clear hm4 hy hly h4 g4 ho HPS HK13 HK23 HB3
    obtain ⟨x, hx⟩ := HP4.out.at
    have HX := Lib.hid hx
    have HSG := Lib.hid (Pr.sg_tk hx)
    clear hx
    go_wp2_with fail
    refine (ahead_any x w4 HP4.out HGD.out HX.out).mono ?_; rintro en w6 ⟨rfl, hb⟩
    have HP6 := Lib.hid (HP4.out.below hb); have HK16 := Lib.hid (HK14.out.below hb HK14.out.lt); have HK26 := Lib.hid (HK24.out.below hb HK24.out.lt); have HB6 := Lib.hid (HB4.out.trans (hb.mono HB4.out.size))
    have HLY6 : Hid (sLies (fresh w3.heap.size w6) sp y) := Lib.hid (sLies_ext (fresh_below hb) HLY.out)
    clear hb HP4 HK14 HK24 HB4 HLY
    by_cases hk : x.kind = 0
    · have hkd : (x.kind != 0) = false := by rw [hk]; rfl
      have HRD : Hid (Pr.rds s = (0, 0, a4)) := Lib.hid (by unfold Pr.rds; rw [if_pos HE0.out]; unfold Pr.whole; rw [HM4.out]; simp only; rw [if_pos (by rw [HSG.out]; exact hk)])
      clear hk
      have q1 : w6.cell? ⟨w.heap.size, 0, none⟩ = some (.int .i64 at_) := HK16.out.cell 0
      have q2 : w6.cell? ⟨w.heap.size + 1, 0, none⟩ = some (.int .i64 0) := HK26.out.cell 0
      have q3 := HK16.out.frozen 0
      have q4 : w6.frozen? ⟨w.heap.size + 1, 0, none⟩ = false := HK26.out.frozen 0
      go_wp2_with fail
      have g1 := grownBy_setC w6 ⟨w.heap.size, 0, none⟩ (.int .i64 0)
      have g2 := grownBy_setC (w6.setCell ⟨w.heap.size, 0, none⟩ (.int .i64 0)) ⟨w.heap.size + 1, 0, none⟩ (.int .i64 0)
      have k1 : Bk ((w6.setCell ⟨w.heap.size, 0, none⟩ (.int .i64 0)).setCell ⟨w.heap.size + 1, 0, none⟩ (.int .i64 0)) w.heap.size 3 #[.int .i64 0] := Bk.kept (HK16.out.set_ 0 _) g2 (by simp)
      have k2 : Bk ((w6.setCell ⟨w.heap.size, 0, none⟩ (.int .i64 0)).setCell ⟨w.heap.size + 1, 0, none⟩ (.int .i64 0)) (w.heap.size + 1) 24 #[.int .i64 0] := (HK26.out.kept g1 (by simp)).set_ 0 _
      have hb8 := (HB6.out.setCell (p := ⟨w.heap.size, 0, none⟩) (by simp) (.int .i64 0)).setCell (p := ⟨w.heap.size + 1, 0, none⟩) (by simp) (.int .i64 0)
      have hl : sLies (fresh w.heap.size ((w6.setCell ⟨w.heap.size, 0, none⟩ (.int .i64 0)).setCell ⟨w.heap.size + 1, 0, none⟩ (.int .i64 0))) sp y :=
        sLies_ext ((fresh_par g1 (by have := HW3.out; simp; omega)).trans ((fresh_par g2 (by have := HW3.out; simp; omega)).trans (fresh_mono HW3.out.1 _))) HLY6.out
      refine leaves_cons (f := 29) (args := #[.pointer (some ⟨w.heap.size, 0, none⟩), .pointer (some ⟨w.heap.size + 1, 0, none⟩)]) (by simp) (by simp [go_sem]) ?_
      refine idle29 w.heap.size (w.heap.size + 1) _ _ ?_
      intro w8 hbb
      exact ⟨_, results14_run rfl rfl rfl (k1.below hbb k1.lt) (k2.below hbb k2.lt), ⟨sp, sc, y, by rw [HRD.out]; rfl, by rw [HRD.out]; exact HYE.out, sLies_ext (fresh_below hbb) hl, hb8.trans (hbb.mono hb8.size)⟩⟩
    · have hkd : (x.kind != 0) = true := by rw [bne_iff_ne]; exact hk
      have HRD : Hid (Pr.rds s = (5, (x.pos : Int), (.nil : SL))) := Lib.hid (by unfold Pr.rds; rw [if_pos HE0.out]; unfold Pr.whole; rw [HM4.out]; simp only; rw [if_neg (by rw [HSG.out]; exact hk)]; simp only [posAt, HX.out])
      clear hk
      go_wp2_with fail
      refine (stop_any x 5 w6 HP6.out HGD.out HX.out).mono ?_; rintro en w7 ⟨rfl, hb⟩
      have hk17 := HK16.out.below hb HK16.out.lt
      have hk27 := HK26.out.below hb HK26.out.lt
      have hb7 : Below w.heap.size w w7 := HB6.out.trans (hb.mono HB6.out.size)
      refine leaves_cons (f := 29) (args := #[.pointer (some ⟨w.heap.size, 0, none⟩), .pointer (some ⟨w.heap.size + 1, 0, none⟩)]) (by simp) (by simp [go_sem]) ?_
      refine catch29 w.heap.size (w.heap.size + 1) x.pos 5 _ _ w7 hk17 hk27 (by omega) _ ?_
      intro w8 k1 k2 g8
      exact ⟨_, results14_run rfl rfl rfl k1 k2, ⟨none, 0, .nil, by rw [HRD.out]; rfl, by rw [HRD.out]; rfl, noSL_lies _, below_gr2 hb7 g8 (by omega) (by omega)⟩⟩
  · have hed : (er != 0) = true := by rw [bne_iff_ne]; exact he
    have HRD : Hid (Pr.rds s = (er, at_, .nil)) := Lib.hid (by unfold Pr.rds; rw [if_neg (by rw [← HER.out]; exact he), ← HER.out, ← HAT.out])
    clear he
    have d3 : w2.drew.cell? ⟨w.heap.size, 0, none⟩ = some (.int .i64 at_) := HK12.out.cell 0
    have d4 : w2.drew.cell? ⟨w.heap.size + 1, 0, none⟩ = some (.int .i64 er) := HK22.out.cell 0
    have s3 := setCell_self d3
    have s4 := setCell_self d4
    have f3 : w2.drew.frozen? ⟨w.heap.size, 0, none⟩ = false := HK12.out.frozen 0
    have f4 : w2.drew.frozen? ⟨w.heap.size + 1, 0, none⟩ = false := HK22.out.frozen 0
    go_wp2_with fail
    go_region_held3 (fun w' => w'.cell? ⟨w.heap.size, 0, none⟩ = some (.int .i64 at_) ∧ w'.cell? ⟨w.heap.size + 1, 0, none⟩ = some (.int .i64 er)) (exact ⟨d3, d4⟩) (fail)
    all_goals
      go_wp2_with fail
      exact ⟨_, results14_run (w := w2.drew) rfl rfl rfl HK12.out HK22.out, ⟨none, 0, .nil, by rw [HRD.out]; rfl, by rw [HRD.out]; rfl, noSL_lies _, below_drew HB2.out⟩⟩
end Go.Proofs.YtlpnkllhpienhaaDoor

namespace Go.Proofs.YtlpnkllhpienhaaDoor
open Go.RowKit Go.Sort

set_option maxHeartbeats 800000 in
theorem stmts8_any (s : ByteArray) (w : World) (hs : s.size ≤ 5000000) (hg : Gl w) : Calls Tryd.prog 8 #[.string s] w (RdsPost s w) := by
  have HW := Lib.hid (whole14 s w hs hg)
  clear hs hg
  go_enter Tryd.func8, Tryd.ntmps8
  go_wp2_with fail
  refine (HW.out).mono ?_; rintro en w1 ⟨p, c, y, rfl, hy, hly, hb⟩
  have H1 := Lib.hid hy; have H2 := Lib.hid hly; have H3 := Lib.hid hb
  clear hy hly hb
  go_wp2_with fail
  exact bodyPost_ret (results_tmp3 rfl _ _ _) rfl ⟨p, c, y, rfl, H1.out, H2.out, H3.out⟩
theorem results6_run {tmps : Array Value} {w : World} {A0 : Nat} {c0 c1 c2 p n : Value} (h2 : tmps.getD 2 undef = .pointer (some ⟨A0, 0, none⟩)) (h3 : tmps.getD 3 undef = p) (h4 : tmps.getD 4 undef = n)
    (k0 : Bk w A0 33 #[c0, c1, c2]) : (results Tryd.f6 tmps).run Tryd.prog w = .ok (.tuple #[.agg #[c0, c1, c2], p, n]) w := by
  have e0 : w.cell? ⟨A0, 0, none⟩ = some c0 := k0.cell 0
  have e1 : w.cell? ⟨A0, 1, none⟩ = some c1 := k0.cell 1
  have e2 : w.cell? ⟨A0, 2, none⟩ = some c2 := k0.cell 2
  rw [Array.getD_eq_getD_getElem?] at h2 h3 h4
  simp [results, Tryd.results6, go_sem, h2, h3, h4, e0, e1, e2]
set_option maxHeartbeats 800000 in
theorem program6_any (s : ByteArray) (w : World) (hs : s.size ≤ 5000000) (hg : Gl w) : Calls Tryd.prog 6 #[.string s] w (RdPost s w) := by
  have hm : Below w.heap.size w (w.alloc (.cells #[.slice none 0 0, .slice none 0 0, .slice none 0 0] 33)) := (Below.refl _ _).alloc (Nat.le_refl _) _
  have HM := Lib.hid hm
  have HK : Hid (Bk (w.alloc (.cells #[.slice none 0 0, .slice none 0 0, .slice none 0 0] 33)) w.heap.size 33 #[.slice none 0 0, .slice none 0 0, .slice none 0 0]) := Lib.hid (heap_alloc_new _ _)
  have HW := Lib.hid (whole10 s (w.alloc (.cells #[.slice none 0 0, .slice none 0 0, .slice none 0 0] 33)) hs (hg.below hm hg.two))
  clear hs hg hm
  go_enter Tryd.func6, Tryd.ntmps6
  go_wp2_with fail
  refine (HW.out).mono ?_; rintro en w1 ⟨y, p, rfl, hy, hly, hb⟩
  have H1 := Lib.hid hy; have H2 := Lib.hid hly; have H3 := Lib.hid hb
  have HK1 := Lib.hid (HK.out.below hb HK.out.lt)
  have HB1 := Lib.hid (HM.out.trans (hb.mono HM.out.size))
  have HLT : Hid (w.heap.size < (w.alloc (.cells #[.slice none 0 0, .slice none 0 0, .slice none 0 0] 33)).heap.size) := Lib.hid (by simp)
  clear hy hly hb
  generalize w.alloc (.cells #[.slice none 0 0, .slice none 0 0, .slice none 0 0] 33) = wA at H2 H3 HLT HW HM HK
  go_wp2_with (first | ((with_reducible show wpList _ _ _ (Oper.mk none (Op.store 33 _ _) _ _ _ _ :: _) _ _); refine wpList_store_bk rfl 33 (.tmp 2) (.tmp 7) rfl w.heap.size 33 _ (Pg.cells y).toArray rfl rfl HK1.out size33 rfl (kPg.one _) ?_; intro w2 hB hF))
  exact bodyPost_ret (results6_run rfl rfl rfl hB) rfl ⟨y, p, rfl, H1.out, pgLies_ext ((fresh_par hF HLT.out).trans (fresh_mono HM.out.size _)) H2.out, below_par HB1.out hF (Nat.le_refl _)⟩

def ex1 : ByteArray := ⟨#[120, 32, 61, 32, 121, 45, 62, 110, 59]⟩
def ex2 : ByteArray := ⟨#[105, 102, 32, 40, 120, 32, 61, 61, 32, 110, 117, 108, 108, 41, 32, 120, 32, 61, 32, 121, 59]⟩
/-- How many arrows the first statement's value has. -/
def arrows : SL → Nat
  | .nil => 0
  | .cons h _ _ _ _ _ _ _ => h.value.path.hops.l.length
theorem len_er : ∀ y : SL, y.er.len = y.len
  | .nil => rfl
  | .cons _ _ _ _ _ _ _ r => by simp only [SL.er, SL.len, len_er r]
theorem arrows_er : ∀ y : SL, arrows y.er = arrows y
  | .nil => rfl
  | .cons _ _ _ _ _ _ _ _ => by simp [SL.er, arrows, Hd.er, Vl.er, Pth.er, Sl.er]
theorem ex1_err : (Pr.rds ex1).1 = 0 := by kernel_rfl
theorem ex1_at : (Pr.rds ex1).2.1 = 0 := by kernel_rfl
theorem ex1_len : (Pr.rds ex1).2.2.len = 1 := by kernel_rfl
theorem ex1_arr : arrows (Pr.rds ex1).2.2 = 1 := by kernel_rfl
theorem ex2_err : (Pr.rds ex2).1 = 5 := by kernel_rfl
theorem ex2_at : (Pr.rds ex2).2.1 = 15 := by kernel_rfl
theorem ex1_any (w : World) (hg : Gl w) : Calls Tryd.prog 8 #[.string ⟨#[120, 32, 61, 32, 121, 45, 62, 110, 59]⟩] w fun e w' => ∃ b o c p k, e = .returned (.tuple #[.slice (some ⟨b, o, none⟩) 1 c, .int .i64 0, .int .i64 0]) ∧ w'.cell? ⟨b, o + 9, none⟩ = some (.slice p 1 k) ∧ Below w.heap.size w w' := by
  refine (stmts8_any ex1 w (by decide) hg).mono ?_
  rintro e w' ⟨p, c, y, rfl, hy, hly, hb⟩
  have h1 : y.len = 1 := by rw [← len_er, hy]; exact ex1_len
  have h2 : arrows y = 1 := by rw [← arrows_er, hy]; exact ex1_arr
  rw [ex1_err, ex1_at]
  cases y with
  | nil => cases h1
  | cons h tp tc t ep ec e r =>
    rcases hly.2 with hn | ⟨b, o, rfl, hl⟩
    · cases hn
    · refine ⟨b, o, c, h.value.path.hops.p, h.value.path.hops.cap, by rw [h1], ?_, hb⟩
      have := Ext.mask _ _ _ _ _ (hl.1 9 _ rfl)
      rw [show h.value.path.hops.l.length = 1 from h2] at this
      exact this
theorem ex2_any (w : World) (hg : Gl w) : Calls Tryd.prog 8 #[.string ⟨#[105, 102, 32, 40, 120, 32, 61, 61, 32, 110, 117, 108, 108, 41, 32, 120, 32, 61, 32, 121, 59]⟩] w fun e w' => ∃ v, e = .returned (.tuple #[v, .int .i64 15, .int .i64 5]) ∧ Below w.heap.size w w' := by
  refine (stmts8_any ex2 w (by decide) hg).mono ?_
  rintro e w' ⟨p, c, y, rfl, hy, hly, hb⟩
  rw [ex2_err, ex2_at]
  exact ⟨_, rfl, hb⟩
set_option maxHeartbeats 1600000 in
set_option maxRecDepth 100000 in
theorem lives_any (w : World) (hg : Gl w) : Calls Tryd.prog 4 #[] w fun e w' => e = .returned (.bool true) ∧ Below w.heap.size w w' := by
  have HG := Lib.hid hg
  clear hg
  go_enter Tryd.func4, Tryd.ntmps4
  go_wp2_with fail
  refine (ex1_any w HG.out).mono ?_; rintro e w1 ⟨b, o, c, p, k, rfl, hc, hb⟩
  have HB := Lib.hid hb
  have HC := Lib.hid hc
  clear hb hc
  go_wp2_with fail
  refine (ex2_any w1 (HG.out.below HB.out HG.out.two)).mono ?_; rintro e w2 ⟨v, rfl, hb⟩
  have hc2 : w2.cell? ⟨b, o + 9, none⟩ = some (.slice p 1 k) := (hb.cell (p := ⟨b, o + 9, none⟩) (World.block_lt_of_cell? w1 _ HC.out)).trans HC.out
  have HB2 := Lib.hid (HB.out.trans (hb.mono HB.out.size))
  clear hb
  go_wp2_with fail
  go_ret
  exact ⟨rfl, HB2.out⟩
end Go.Proofs.YtlpnkllhpienhaaDoor
