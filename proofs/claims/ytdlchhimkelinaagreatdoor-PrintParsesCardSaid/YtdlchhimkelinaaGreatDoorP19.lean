/-
  The walks of the deferred closures. The walk of a whole reading: programs. The walk of a whole reading: statements. The walks of the parser's faces; the page's examples hold. The law PrintParses, given the page's example. The walks of 'are they the same': hops. The walks of 'are they the same': hops
-/
import Derived.Test.YtdlchhimkelinaaGreatDoorP05
import Derived.Recover
import Derived.Laws.Pointers
import Derived.Test.YtdlchhimkelinaaGreatDoorP18
import Derived.Deep.RegionHeld3
import Derived.Test.YtdlchhimkelinaaGreatDoorP16
import Derived.Test.YtdlchhimkelinaaGreatDoorP02
set_option maxHeartbeats 6400000
set_option maxRecDepth 100000
namespace Go.Proofs.YtdlchhimkelinaaGreatDoor
open Go.RowKit Go.Sort
theorem asserts (p n : Int) (w : World) : (Instr.typeAssert (.iface 120 (.agg #[.int .i64 p, .int .i64 n])) 20 120 true).run Tryz.prog w = .ok (.tuple #[.agg #[.int .i64 p, .int .i64 n], .bool true]) w := by
 simp [Instr.typeAssert, go_sem]
theorem asserts_nil (w : World) : (Instr.typeAssert .nilIface 20 120 true).run Tryz.prog w = .ok (.tuple #[.agg #[.int .i64 0, .int .i64 0], .bool false]) w := by
 simp [Instr.typeAssert, go_sem]
theorem Gr2.drew {w w' : World} {a b : Nat} (h : Gr2 w w' a b) : Gr2 w w'.drew a b := ⟨h.os, h.tape, h.output, h.size, h.block⟩
attribute [local go_sem ↓] asserts asserts_nil
theorem catch22 (A E : Nat) (p n : Int) (x y : Value) (w : World) (hA : Bk w A 3 #[x]) (hE : Bk w E 29 #[y]) (hne : A ≠ E) (R : Ending → FrameMode → World → Prop)
  (hR : ∀ w', Bk w' A 3 #[.int .i64 p] → Bk w' E 29 #[.int .i64 n] → Gr2 w w' A E → R (.returned (.tuple #[])) (.panicking [{ v := .iface 120 (.agg #[.int .i64 p, .int .i64 n]), recovered := true }]) w') :
  CallsD Tryz.prog 57 #[.pointer (some ⟨A, 0, none⟩), .pointer (some ⟨E, 0, none⟩)] (.panicking [{ v := .iface 120 (.agg #[.int .i64 p, .int .i64 n]), recovered := false }]) w R := by
 have HR := hdn hR
 have HA := hdn hA; have HE := hdn hE; have HNE := hdn hne
 clear hA hE hne hR
 refine callsD_of_wpS Tryz.func57 rfl fun c₀ cs hu => ?_
 have hrep : Array.replicate 12 undef = #[undef, undef, undef, undef, undef, undef, undef, undef, undef, undef, undef, undef] := rfl
 apply wpS_seq
 apply wpS_region
 simp [wpOpsS, go_sem, recoverD, hu, Tryz.ntmps57, Exit.thenS, hrep]
 apply wpS_seq
 apply wpS_region
 simp [wpOpsS, go_sem, Exit.thenS]
 refine wpS_cond (t := true) (by simp [Act.eval]) ?_
 simp only [if_true]
 refine wpS_of_wp ?_
 obtain ⟨wB, hwB⟩ : ∃ wB : World, wB = w.alloc (.cells #[.int .i64 p, .int .i64 n] 120) := ⟨_, rfl⟩
 have hm : Below w.heap.size w wB := by rw [hwB]; exact (Below.refl _ _).alloc (Nat.le_refl _) _
 have HF : Hid (Bk wB w.heap.size 120 #[.int .i64 p, .int .i64 n]) := hdn (by rw [hwB]; exact heap_alloc_new _ _)
 have HA1 := hdn (HA.out.below hm HA.out.lt); have HE1 := hdn (HE.out.below hm HE.out.lt)
 have HG1 : Hid (Gr2 w wB A E) := hdn ((Gr2.refl _ _ _).one (grownBy_of hm _))
 have HLT : Hid (A ≠ w.heap.size ∧ E ≠ w.heap.size) := hdn ⟨Nat.ne_of_lt HA.out.lt, Nat.ne_of_lt HE.out.lt⟩
 rw [← hwB]
 clear hwB hm
 obtain ⟨F, hF⟩ : ∃ F, F = w.heap.size := ⟨_, rfl⟩
 rw [← hF] at HF HLT ⊢
 clear hF
 have c0 : wB.cell? ⟨F, 0, none⟩ = some (.int .i64 p) := HF.out.cell 0
 have c1 : wB.cell? ⟨F, 1, none⟩ = some (.int .i64 n) := HF.out.cell 1
 have a0 : wB.cell? ⟨A, 0, none⟩ = some x := HA1.out.cell 0
 have b0 : wB.cell? ⟨E, 0, none⟩ = some y := HE1.out.cell 0
 have a1 := HA1.out.frozen 0
 have b1 := HE1.out.frozen 0
 have hne := HNE.out
 have hl1 := HLT.out.1
 have hl2 := HLT.out.2
 have hne' : E ≠ A := fun e => hne e.symm
 go_region
 have gA := grownBy_setC wB ⟨A, 0, none⟩ (.int .i64 p)
 have gE := grownBy_setC (wB.setCell ⟨A, 0, none⟩ (.int .i64 p)) ⟨E, 0, none⟩ (.int .i64 n)
 have hA2 : Bk (wB.setCell ⟨A, 0, none⟩ (.int .i64 p)) A 3 #[.int .i64 p] := HA1.out.set_ 0 _
 have hE2 : Bk ((wB.setCell ⟨A, 0, none⟩ (.int .i64 p)).setCell ⟨E, 0, none⟩ (.int .i64 n)) E 29 #[.int .i64 n] := (HE1.out.kept gA hne').set_ 0 _
 have hA3 := hA2.kept gE hne
 exact ⟨rfl, _, rfl, _, results_none rfl _ _ _, HR.out _ hA3 hE2 ((HG1.out.one gA).two gE).drew⟩
theorem idle22 (A E : Nat) (w : World) (R : Ending → FrameMode → World → Prop) (hR : ∀ w', Below w.heap.size w w' → R (.returned (.tuple #[])) .returning w') :
  CallsD Tryz.prog 57 #[.pointer (some ⟨A, 0, none⟩), .pointer (some ⟨E, 0, none⟩)] .returning w R := by
 have HR := hdn hR
 clear hR
 refine callsD_of_wpS Tryz.func57 rfl fun c₀ cs hu => ?_
 have hrep : Array.replicate 12 undef = #[undef, undef, undef, undef, undef, undef, undef, undef, undef, undef, undef, undef] := rfl
 apply wpS_seq
 apply wpS_region
 simp [wpOpsS, go_sem, recoverD, hu, Tryz.ntmps57, Exit.thenS, hrep]
 apply wpS_seq
 apply wpS_region
 simp [wpOpsS, go_sem, Exit.thenS]
 refine wpS_cond (t := false) (by simp [Act.eval]) ?_
 simp only [Bool.false_eq_true, if_false]
 refine wpS_of_wp (wp_skip ?_)
 have hm : Below w.heap.size w (w.alloc (.cells #[.int .i64 0, .int .i64 0] 120)) := (Below.refl _ _).alloc (Nat.le_refl _) _
 exact ⟨rfl, .returning, (by rw [← hu]), _, results_none rfl _ _ _, HR.out _ hm⟩
end Go.Proofs.YtdlchhimkelinaaGreatDoor
namespace Go.Proofs.YtdlchhimkelinaaGreatDoor
open Go.RowKit Go.Sort
attribute [local go_sem] field79_0 field79_1 field79_2 field79_3
theorem results10_run {tmps : Array Value} {w : World} {A0 A1 A2 : Nat} {c0 c1 c2 : Value} {p n : Int} (h4 : tmps.getD 4 undef = .pointer (some ⟨A0, 0, none⟩)) (h5 : tmps.getD 5 undef = .pointer (some ⟨A1, 0, none⟩)) (h6 : tmps.getD 6 undef = .pointer (some ⟨A2, 0, none⟩))
  (k0 : Bk w A0 26 #[c0, c1, c2]) (k1 : Bk w A1 3 #[.int .i64 p]) (k2 : Bk w A2 29 #[.int .i64 n]) : (results Tryz.f29 tmps).run Tryz.prog w = .ok (.tuple #[.agg #[c0, c1, c2], .int .i64 p, .int .i64 n]) w := by
 have e0 : w.cell? ⟨A0, 0, none⟩ = some c0 := k0.cell 0
 have e1 : w.cell? ⟨A0, 1, none⟩ = some c1 := k0.cell 1
 have e2 : w.cell? ⟨A0, 2, none⟩ = some c2 := k0.cell 2
 have e3 : w.cell? ⟨A1, 0, none⟩ = some (.int .i64 p) := k1.cell 0
 have e4 : w.cell? ⟨A2, 0, none⟩ = some (.int .i64 n) := k2.cell 0
 rw [Array.getD_eq_getD_getElem?] at h4 h5 h6
 simp [results, Tryz.results29, go_sem, h4, h5, h6, e0, e1, e2, e3, e4]
/-- What a reading of a program ends in. -/
def RdPost (s : ByteArray) (w : World) (e : Ending) (w' : World) : Prop :=
 ∃ (y : Pg) (p : Int), e = .returned (.tuple #[.agg y.cells.toArray, .int .i64 p, .int .i64 (Pr.rd s).1]) ∧ y.er = (Pr.rd s).2 ∧ pgLies (fresh w.heap.size w') y ∧ Below w.heap.size w w'
theorem below_par {w0 w w' : World} {g : Nat} (h : Below w0.heap.size w0 w) (hg : w.grownBy w' (some g)) (hB : w0.heap.size ≤ g) : Below w0.heap.size w0 w' :=
 ⟨hg.os.trans h.os, hg.tape.trans h.tape, hg.output.trans h.output, Nat.le_trans h.size hg.size, fun i hi => (hg.block i (Nat.lt_of_lt_of_le hi h.size) (by intro e; injection e with e; omega)).trans (h.block i hi)⟩
theorem below_gr2 {w0 w w' : World} {a b : Nat} (h : Below w0.heap.size w0 w) (hg : Gr2 w w' a b) (ha : w0.heap.size ≤ a) (hb : w0.heap.size ≤ b) : Below w0.heap.size w0 w' :=
 ⟨hg.os.trans h.os, hg.tape.trans h.tape, hg.output.trans h.output, Nat.le_trans h.size hg.size, fun i hi => (hg.block i (Nat.lt_of_lt_of_le hi h.size) (by omega) (by omega)).trans (h.block i hi)⟩
theorem setCell_self {w : World} {b o : Nat} {v : Value} (h : w.cell? ⟨b, o, none⟩ = some v) : w.setCell ⟨b, o, none⟩ v = w := by
 cases w with
 | mk heap tape drawn os output =>
  simp only [World.setCell]
  congr 1
  apply Array.ext
  ·simp
  ·intro i h1 h2
   rw [Array.getElem_modify]
   split
   ·rename_i hi
    subst hi
    unfold World.cell? at h
    have hlt : b < heap.size := by simpa using h1
    simp only [Array.getElem?_eq_getElem hlt] at h
    cases hb : heap[b] with
    | cells cs t fr =>
     rw [hb] at h
     simp only at h
     have e : cs.setIfInBounds o v = cs := by
      apply Array.ext
      ·simp
      ·intro j h3 h4
       rw [Array.getElem_setIfInBounds (by simpa using h3)]
       split
       ·rename_i hj; subst hj
        obtain ⟨_, he⟩ := Array.getElem?_eq_some_iff.1 h
        exact he.symm
       ·rfl
     simp [e]
    | _ => simp [hb] at h
   ·rfl
theorem noPg_lies (w : World) : pgLies w Pr.noPg := ⟨⟨(show 0 * 48 ≤ 140737488351232 by decide), .inl rfl⟩, ⟨(show 0 * 40 ≤ 140737488351232 by decide), .inl rfl⟩, ⟨(show 0 * 104 ≤ 140737488351232 by decide), .inl rfl⟩⟩
theorem whole10 (s : ByteArray) (w : World) (hs : s.size ≤ 5000000) (hg : Gl w) :
  Calls Tryz.prog 29 #[.string s, .func (.func 30) #[] #[]] w (RdPost s w) := by
 have hmf : ∀ (fn : Fn) (first cap : Array Value) (w : World), (Instr.makeFunc fn first cap).run Tryz.prog w = .ok (.func fn first cap) w := fun _ _ _ _ => rfl
 obtain ⟨wA, hwA⟩ : ∃ wA : World, wA = ((w.alloc (.cells #[.slice none 0 0, .slice none 0 0, .slice none 0 0] 26)).alloc (.cells #[.int .i64 0] 3)).alloc (.cells #[.int .i64 0] 29) := ⟨_, rfl⟩
 have HBA : Hid (Below w.heap.size w wA) := hdn (by rw [hwA]; exact (((Below.refl _ _).alloc (Nat.le_refl _) _).alloc (by simp) _).alloc (by simp; omega) _)
 have HSA : Hid (wA.heap.size = w.heap.size + 3) := hdn (by rw [hwA]; simp)
 have HK0 : Hid (Bk wA w.heap.size 26 #[.slice none 0 0, .slice none 0 0, .slice none 0 0]) := hdn (by rw [hwA]; unfold Bk; rw [heap_alloc_old _ _ (by simp; omega), heap_alloc2_old])
 have HK1 : Hid (Bk wA (w.heap.size + 1) 3 #[.int .i64 0]) := hdn (by rw [hwA]; unfold Bk; rw [heap_alloc_old _ _ (by simp), heap_alloc2_new])
 have HK2 : Hid (Bk wA (w.heap.size + 2) 29 #[.int .i64 0]) := hdn (by rw [hwA]; have := heap_alloc2_new (w.alloc (.cells #[.slice none 0 0, .slice none 0 0, .slice none 0 0] 26)) (.cells #[.int .i64 0] 3) (.cells #[.int .i64 0] 29); simpa [Bk] using this)
 have HGL : Hid (Gl wA) := hdn (hg.below HBA.out hg.two)
 have HLX := hdn (lexAll_any s wA hs HGL.out)
 clear hs hg
 go_enter_defers Tryz.func29, Tryz.ntmps29
 go_wp2_with fail
 rw [← hwA]
 clear hwA
 refine (HLX.out).mono ?_; rintro en w1 ⟨v, rfl, hown, hb⟩
 have HO := hdn hown; have HB1 := hdn hb
 have HK01 := hdn (HK0.out.below hb HK0.out.lt); have HK11 := hdn (HK1.out.below hb HK1.out.lt); have HK21 := hdn (HK2.out.below hb HK2.out.lt)
 clear hown hb HK0 HK1 HK2 HLX
 obtain ⟨at_, hat⟩ : ∃ a, a = ((Tx.alls s).2.1 : Int) := ⟨_, rfl⟩
 obtain ⟨er, her⟩ : ∃ a, a = (Tx.alls s).2.2 := ⟨_, rfl⟩
 rw [← hat, ← her]
 have HER := hdn her
 clear hat her
 have a1c : w1.cell? ⟨w.heap.size + 1, 0, none⟩ = some (.int .i64 0) := HK11.out.cell 0
 have a1f := HK11.out.frozen 0
 have a2c : w1.cell? ⟨w.heap.size + 1 + 1, 0, none⟩ = some (.int .i64 0) := HK21.out.cell 0
 have a2f : w1.frozen? ⟨w.heap.size + 1 + 1, 0, none⟩ = false := HK21.out.frozen 0
 have g1 := grownBy_setC w1 ⟨w.heap.size + 1, 0, none⟩ (.int .i64 at_)
 have g2 := grownBy_setC (w1.setCell ⟨w.heap.size + 1, 0, none⟩ (.int .i64 at_)) ⟨w.heap.size + 1 + 1, 0, none⟩ (.int .i64 er)
 have HK02 : Hid (Bk ((w1.setCell ⟨w.heap.size + 1, 0, none⟩ (.int .i64 at_)).setCell ⟨w.heap.size + 1 + 1, 0, none⟩ (.int .i64 er)) w.heap.size 26 #[.slice none 0 0, .slice none 0 0, .slice none 0 0]) := hdn ((HK01.out.kept g1 (by simp)).kept g2 (by simp; omega))
 have HK12 : Hid (Bk ((w1.setCell ⟨w.heap.size + 1, 0, none⟩ (.int .i64 at_)).setCell ⟨w.heap.size + 1 + 1, 0, none⟩ (.int .i64 er)) (w.heap.size + 1) 3 #[.int .i64 at_]) := hdn (Bk.kept (HK11.out.set_ 0 _) g2 (by simp))
 have HK22 : Hid (Bk ((w1.setCell ⟨w.heap.size + 1, 0, none⟩ (.int .i64 at_)).setCell ⟨w.heap.size + 1 + 1, 0, none⟩ (.int .i64 er)) (w.heap.size + 1 + 1) 29 #[.int .i64 er]) := hdn ((HK21.out.kept g1 (by simp)).set_ 0 _)
 have HO2 : Hid (((w1.setCell ⟨w.heap.size + 1, 0, none⟩ (.int .i64 at_)).setCell ⟨w.heap.size + 1 + 1, 0, none⟩ (.int .i64 er)).ownsRow wA.heap.size 106 4 v (Tx.alls s).1.length ((Tx.alls s).1.flatMap Tx.cells)) := hdn (own_par (own_par HO.out g1 (by have := HSA.out; simp; omega)) g2 (by have := HSA.out; simp; omega))
 have HB2 : Hid (Below w.heap.size w ((w1.setCell ⟨w.heap.size + 1, 0, none⟩ (.int .i64 at_)).setCell ⟨w.heap.size + 1 + 1, 0, none⟩ (.int .i64 er))) := hdn (((HBA.out.trans (HB1.out.mono HBA.out.size)).setCell (p := ⟨w.heap.size + 1, 0, none⟩) (by simp) _).setCell (p := ⟨w.heap.size + 1 + 1, 0, none⟩) (by simp; omega) _)
 clear g1 g2
 go_upto_region 2 with fail
 clear a1c a1f a2c a2f HK01 HK11 HK21 HO HB1
 generalize (w1.setCell ⟨w.heap.size + 1, 0, none⟩ (.int .i64 at_)).setCell ⟨w.heap.size + 1 + 1, 0, none⟩ (.int .i64 er) = w2 at HK02 HK12 HK22 HO2 HB2 ⊢
 have a2c : w2.cell? ⟨w.heap.size + 1 + 1, 0, none⟩ = some (.int .i64 er) := HK22.out.cell 0
 by_cases he : er = 0
 ·subst he
  have HE0 : Hid ((Tx.alls s).2.2 = 0) := hdn HER.out.symm
  obtain ⟨hgd, htx, hln⟩ := alls_good s HE0.out
  obtain ⟨sb, cap, rfl, hsb, hsbB, hrow⟩ := ps_start HO2.out hln
  have HPS : Hid (PS (w2.alloc (.cells #[.slice (some ⟨sb, 0, none⟩) (Tx.alls s).1.length cap, .int .i64 0, .int .i64 0, .int .i64 0] 123)) w2.heap.size sb cap (Tx.alls s).1 0 0 0) := hdn ⟨heap_alloc_new _ _, fun k x hx j u hu => (World.cell?_alloc_lt _ _ _ (show sb < w2.heap.size from hsb)).trans (hrow k x hx j u hu), Nat.ne_of_lt hsb, hln⟩
  have HGD := hdn hgd; have HTX := hdn htx
  have hm : Below w2.heap.size w2 (w2.alloc (.cells #[.slice (some ⟨sb, 0, none⟩) (Tx.alls s).1.length cap, .int .i64 0, .int .i64 0, .int .i64 0] 123)) := (Below.refl _ _).alloc (Nat.le_refl _) _
  have HK03 := hdn (HK02.out.below hm HK02.out.lt); have HK13 := hdn (HK12.out.below hm HK12.out.lt); have HK23 := hdn (HK22.out.below hm HK22.out.lt); have HB3 := hdn (HB2.out.trans (hm.mono HB2.out.size))
  obtain ⟨pb, hpb⟩ : ∃ p, p = w2.heap.size := ⟨_, rfl⟩
  have HPB : Hid (w.heap.size + 1 + 1 < pb) := hdn (by have := HK22.out.lt; omega)
  have HPB3 : Hid (pb = w2.heap.size) := hdn hpb
  clear hm hgd htx hln hsb hsbB hrow HO2 hpb
  go_wp2_with fail
  rw [← HPB3.out] at HPS ⊢
  generalize w2.alloc (.cells #[.slice (some ⟨sb, 0, none⟩) (Tx.alls s).1.length cap, .int .i64 0, .int .i64 0, .int .i64 0] 123) = w3 at HPS HK03 HK13 HK23 HB3 ⊢
  clear a2c HK02 HK12 HK22 HB2
  refine (program_any w3 ⟨0, 0, 0⟩ HPS.out HGD.out HTX.out ⟨by decide, by decide, by decide, by decide⟩).mono ?_; intro en w4 ho
  rcases hm4 : Pr.program ((Tx.alls s).1.map Pr.tk) (((Tx.alls s).1.map Pr.tk).length + 1) [] [] [] ⟨0, 0, 0⟩ with n | ⟨a4, u4⟩
  ·obtain ⟨p, rfl, g4⟩ := ho.of_err hm4
   have HRD : Hid (Pr.rd s = (n.1, Pr.noPg)) := hdn (by unfold Pr.rd; rw [if_pos HE0.out]; unfold Pr.whole; rw [hm4])
   have hk04 := HK03.out.kept g4 (by have := HPB.out; omega)
   have hk14 := HK13.out.kept g4 (by have := HPB.out; omega)
   have hk24 := HK23.out.kept g4 (by have := HPB.out; omega)
   have hb4 : Below w.heap.size w w4 := below_par HB3.out g4 (by have := HPB.out; omega)
   refine leaves_cons (f := 57) (args := #[.pointer (some ⟨w.heap.size + 1, 0, none⟩), .pointer (some ⟨w.heap.size + 1 + 1, 0, none⟩)]) (by simp) (by simp [go_sem]) ?_
   refine catch22 (w.heap.size + 1) (w.heap.size + 1 + 1) (posAt (Tx.alls s).1 n.2) n.1 _ _ w4 hk14 hk24 (by omega) _ ?_
   intro w5 k1 k2 g5
   exact ⟨_, results10_run rfl rfl rfl (g5.bk hk04 (by omega) (by omega)) k1 k2, ⟨Pr.noPg, posAt (Tx.alls s).1 n.2, by rw [HRD.out]; rfl, by rw [HRD.out]; rfl, noPg_lies _, below_gr2 hb4 g5 (by omega) (by omega)⟩⟩
  obtain ⟨v, rfl, ⟨y, rfl, hy, hly⟩, h4, g4⟩ := ho.of_ok hm4
  have HM4 := hdn hm4; have HYE : Hid (Pg.er y = a4) := hdn hy
  have HLY : Hid (pgLies (fresh w3.heap.size w4) y) := hdn hly
  have HP4 := hdn h4
  have HK04 := hdn (HK03.out.kept g4 (by have := HPB.out; omega)); have HK14 := hdn (HK13.out.kept g4 (by have := HPB.out; omega)); have HK24 := hdn (HK23.out.kept g4 (by have := HPB.out; omega))
  have HB4 : Hid (Below w.heap.size w w4) := hdn (below_par HB3.out g4 (by have := HPB.out; omega))
  have HW3 : Hid (w.heap.size ≤ w3.heap.size ∧ w.heap.size + 1 + 1 < w3.heap.size) := hdn ⟨HB3.out.size, HK23.out.lt⟩
  clear hm4 hy hly h4 g4 ho HPS HK03 HK13 HK23 HB3
  go_upto_region 7 with (first | ((with_reducible show wpList _ _ _ (Oper.mk none (Op.store 26 _ _) _ _ _ _ :: _) _ _); refine wpList_store_new rfl 26 (.tmp 9) (.tmp 27) rfl _ (Pg.cells y).toArray rfl rfl size33 rfl (kPg.one _) ?_))
  have hm : Below w4.heap.size w4 (w4.alloc (.cells (Pg.cells y).toArray 26)) := (Below.refl _ _).alloc (Nat.le_refl _) _
  have HP5 := hdn (HP4.out.below hm); have HK05 := hdn (HK04.out.below hm HK04.out.lt); have HK15 := hdn (HK14.out.below hm HK14.out.lt); have HK25 := hdn (HK24.out.below hm HK24.out.lt); have HB5 := hdn (HB4.out.trans (hm.mono HB4.out.size))
  have HLY5 : Hid (pgLies (fresh w3.heap.size (w4.alloc (.cells (Pg.cells y).toArray 26))) y) := hdn (pgLies_ext (fresh_below hm) HLY.out)
  have HD5 : Hid (Bk (w4.alloc (.cells (Pg.cells y).toArray 26)) w4.heap.size 26 (Pg.cells y).toArray) := hdn (heap_alloc_new _ _)
  obtain ⟨D, hD⟩ : ∃ D, D = w4.heap.size := ⟨_, rfl⟩
  rw [← hD] at HD5 ⊢
  clear hD hm HP4 HK04 HK14 HK24 HB4 HLY
  change Code.wp _ _ _ _ (w4.alloc (.cells (Pg.cells y).toArray 26))
  generalize w4.alloc (.cells (Pg.cells y).toArray 26) = w5 at HP5 HK05 HK15 HK25 HB5 HLY5 HD5 ⊢
  obtain ⟨x, hx⟩ := HP5.out.at
  have HX := hdn hx
  have HSG := hdn (Pr.sg_tk hx)
  clear hx
  go_wp2_with fail
  refine (ahead_any x w5 HP5.out HGD.out HX.out).mono ?_; rintro en w6 ⟨rfl, hb⟩
  have HP6 := hdn (HP5.out.below hb); have HK06 := hdn (HK05.out.below hb HK05.out.lt); have HK16 := hdn (HK15.out.below hb HK15.out.lt); have HK26 := hdn (HK25.out.below hb HK25.out.lt); have HB6 := hdn (HB5.out.trans (hb.mono HB5.out.size)); have HD6 := hdn (HD5.out.below hb HD5.out.lt)
  have HLY6 : Hid (pgLies (fresh w3.heap.size w6) y) := hdn (pgLies_ext (fresh_below hb) HLY5.out)
  clear hb HP5 HK05 HK15 HK25 HB5 HD5 HLY5
  by_cases hk : x.kind = 0
  ·have hkd : (x.kind != 0) = false := by rw [hk]; rfl
   have HRD : Hid (Pr.rd s = (0, a4)) := hdn (by unfold Pr.rd; rw [if_pos HE0.out]; unfold Pr.whole; rw [HM4.out]; simp only; rw [if_pos (by rw [HSG.out]; exact hk)])
   clear hk
   have b1c : w6.cell? ⟨w.heap.size + 1, 0, none⟩ = some (.int .i64 at_) := HK16.out.cell 0
   go_wp2_with (first | ((with_reducible show wpList _ _ _ (Oper.mk (some 34) (Op.load 26 _) _ _ _ _ :: _) _ _); refine wpList_load_bk rfl 26 (.tmp 9) rfl D 26 (Pg.cells y).toArray rfl _ HD6.out Tryz.underlying26 rfl size33 ?_) | ((with_reducible show wpList _ _ _ (Oper.mk none (Op.store 26 (Operand.tmp 4) (Operand.tmp 34)) _ _ _ _ :: _) _ _); refine wpList_store_bk rfl 26 (.tmp 4) (.tmp 34) rfl w.heap.size 26 _ (Pg.cells y).toArray rfl rfl HK06.out size33 rfl (kPg.one _) ?_; intro w7 hB hF; have q1 : w7.cell? ⟨w.heap.size + 1, 0, none⟩ = some (.int .i64 at_) := (HK16.out.kept hF (by omega)).cell 0; have q2 : w7.cell? ⟨w.heap.size + 1 + 1, 0, none⟩ = some (.int .i64 0) := (HK26.out.kept hF (by omega)).cell 0; have q3 := (HK16.out.kept hF (by omega)).frozen 0; have q4 : w7.frozen? ⟨w.heap.size + 1 + 1, 0, none⟩ = false := (HK26.out.kept hF (by omega)).frozen 0; have HB7 := hdn hB; have HF7 := hdn hF; clear hB hF))
   have g1 := grownBy_setC w7 ⟨w.heap.size + 1, 0, none⟩ (.int .i64 0)
   have g2 := grownBy_setC (w7.setCell ⟨w.heap.size + 1, 0, none⟩ (.int .i64 0)) ⟨w.heap.size + 1 + 1, 0, none⟩ (.int .i64 0)
   have k0 := (HB7.out.kept g1 (by simp)).kept g2 (by simp; omega)
   have k1 : Bk ((w7.setCell ⟨w.heap.size + 1, 0, none⟩ (.int .i64 0)).setCell ⟨w.heap.size + 1 + 1, 0, none⟩ (.int .i64 0)) (w.heap.size + 1) 3 #[.int .i64 0] := Bk.kept ((HK16.out.kept HF7.out (by omega)).set_ 0 _) g2 (by simp)
   have k2 : Bk ((w7.setCell ⟨w.heap.size + 1, 0, none⟩ (.int .i64 0)).setCell ⟨w.heap.size + 1 + 1, 0, none⟩ (.int .i64 0)) (w.heap.size + 1 + 1) 29 #[.int .i64 0] := (((HK26.out.kept HF7.out (by omega)).kept g1 (by simp))).set_ 0 _
   have hb7 : Below w.heap.size w w7 := below_par HB6.out HF7.out (Nat.le_refl _)
   have hb8 := (hb7.setCell (p := ⟨w.heap.size + 1, 0, none⟩) (by simp) (.int .i64 0)).setCell (p := ⟨w.heap.size + 1 + 1, 0, none⟩) (by simp; omega) (.int .i64 0)
   have hl : pgLies (fresh w.heap.size ((w7.setCell ⟨w.heap.size + 1, 0, none⟩ (.int .i64 0)).setCell ⟨w.heap.size + 1 + 1, 0, none⟩ (.int .i64 0))) y :=
    pgLies_ext ((fresh_par HF7.out (by have := HW3.out; omega)).trans ((fresh_par g1 (by have := HW3.out; simp; omega)).trans ((fresh_par g2 (by have := HW3.out; simp; omega)).trans (fresh_mono HW3.out.1 _)))) HLY6.out
   refine leaves_cons (f := 57) (args := #[.pointer (some ⟨w.heap.size + 1, 0, none⟩), .pointer (some ⟨w.heap.size + 1 + 1, 0, none⟩)]) (by simp) (by simp [go_sem]) ?_
   refine idle22 (w.heap.size + 1) (w.heap.size + 1 + 1) _ _ ?_
   intro w8 hbb
   exact ⟨_, results10_run rfl rfl rfl (k0.below hbb k0.lt) (k1.below hbb k1.lt) (k2.below hbb k2.lt), ⟨y, 0, by rw [HRD.out], by rw [HRD.out]; exact HYE.out, pgLies_ext (fresh_below hbb) hl, hb8.trans (hbb.mono hb8.size)⟩⟩
  ·have hkd : (x.kind != 0) = true := by rw [bne_iff_ne]; exact hk
   have HRD : Hid (Pr.rd s = (5, Pr.noPg)) := hdn (by unfold Pr.rd; rw [if_pos HE0.out]; unfold Pr.whole; rw [HM4.out]; simp only; rw [if_neg (by rw [HSG.out]; exact hk)])
   clear hk
   go_wp2_with fail
   refine (stop_any x 5 w6 HP6.out HGD.out HX.out).mono ?_; rintro en w7 ⟨rfl, hb⟩
   have hk07 := HK06.out.below hb HK06.out.lt
   have hk17 := HK16.out.below hb HK16.out.lt
   have hk27 := HK26.out.below hb HK26.out.lt
   have hb7 : Below w.heap.size w w7 := HB6.out.trans (hb.mono HB6.out.size)
   refine leaves_cons (f := 57) (args := #[.pointer (some ⟨w.heap.size + 1, 0, none⟩), .pointer (some ⟨w.heap.size + 1 + 1, 0, none⟩)]) (by simp) (by simp [go_sem]) ?_
   refine catch22 (w.heap.size + 1) (w.heap.size + 1 + 1) x.pos 5 _ _ w7 hk17 hk27 (by omega) _ ?_
   intro w8 k1 k2 g8
   exact ⟨_, results10_run rfl rfl rfl (g8.bk hk07 (by omega) (by omega)) k1 k2, ⟨Pr.noPg, x.pos, by rw [HRD.out]; rfl, by rw [HRD.out]; rfl, noPg_lies _, below_gr2 hb7 g8 (by omega) (by omega)⟩⟩
 ·have hed : (er != 0) = true := by rw [bne_iff_ne]; exact he
  have HRD : Hid (Pr.rd s = (er, Pr.noPg)) := hdn (by unfold Pr.rd; rw [if_neg (by rw [← HER.out]; exact he), ← HER.out])
  clear he
  have d0 : w2.drew.cell? ⟨w.heap.size, 0, none⟩ = some (.slice none 0 0) := HK02.out.cell 0
  have d1 : w2.drew.cell? ⟨w.heap.size, 1, none⟩ = some (.slice none 0 0) := HK02.out.cell 1
  have d2 : w2.drew.cell? ⟨w.heap.size, 2, none⟩ = some (.slice none 0 0) := HK02.out.cell 2
  have d3 : w2.drew.cell? ⟨w.heap.size + 1, 0, none⟩ = some (.int .i64 at_) := HK12.out.cell 0
  have d4 : w2.drew.cell? ⟨w.heap.size + 1 + 1, 0, none⟩ = some (.int .i64 er) := HK22.out.cell 0
  have s0 := setCell_self d0
  have s1 := setCell_self d1
  have s2 := setCell_self d2
  have s3 := setCell_self d3
  have s4 := setCell_self d4
  have f0 : w2.drew.frozen? ⟨w.heap.size, 0, none⟩ = false := HK02.out.frozen 0
  have f1 : w2.drew.frozen? ⟨w.heap.size, 1, none⟩ = false := HK02.out.frozen 1
  have f2 : w2.drew.frozen? ⟨w.heap.size, 2, none⟩ = false := HK02.out.frozen 2
  have f3 : w2.drew.frozen? ⟨w.heap.size + 1, 0, none⟩ = false := HK12.out.frozen 0
  have f4 : w2.drew.frozen? ⟨w.heap.size + 1 + 1, 0, none⟩ = false := HK22.out.frozen 0
  go_wp2_with fail
  go_region_held3 (fun w' => w'.cell? ⟨w.heap.size, 0, none⟩ = some (.slice none 0 0) ∧ w'.cell? ⟨w.heap.size, 1, none⟩ = some (.slice none 0 0) ∧ w'.cell? ⟨w.heap.size, 2, none⟩ = some (.slice none 0 0) ∧ w'.cell? ⟨w.heap.size + 1, 0, none⟩ = some (.int .i64 at_) ∧ w'.cell? ⟨w.heap.size + 1 + 1, 0, none⟩ = some (.int .i64 er)) (exact ⟨d0, d1, d2, d3, d4⟩) (fail)
  all_goals
   go_wp2_with fail
   exact ⟨_, results10_run (w := w2.drew) rfl rfl rfl HK02.out HK12.out HK22.out, ⟨Pr.noPg, at_, by rw [HRD.out]; rfl, by rw [HRD.out]; rfl, noPg_lies _, below_drew HB2.out⟩⟩
end Go.Proofs.YtdlchhimkelinaaGreatDoor
namespace Go.Proofs.YtdlchhimkelinaaGreatDoor
open Go.RowKit Go.Sort
attribute [local go_sem] field79_0 field79_1 field79_2 field79_3
end Go.Proofs.YtdlchhimkelinaaGreatDoor
namespace Go.Proofs.YtdlchhimkelinaaGreatDoor
open Go.RowKit Go.Sort
theorem results6_run {tmps : Array Value} {w : World} {A0 : Nat} {c0 c1 c2 p n : Value} (h2 : tmps.getD 2 undef = .pointer (some ⟨A0, 0, none⟩)) (h3 : tmps.getD 3 undef = p) (h4 : tmps.getD 4 undef = n)
  (k0 : Bk w A0 26 #[c0, c1, c2]) : (results Tryz.f12 tmps).run Tryz.prog w = .ok (.tuple #[.agg #[c0, c1, c2], p, n]) w := by
 have e0 : w.cell? ⟨A0, 0, none⟩ = some c0 := k0.cell 0
 have e1 : w.cell? ⟨A0, 1, none⟩ = some c1 := k0.cell 1
 have e2 : w.cell? ⟨A0, 2, none⟩ = some c2 := k0.cell 2
 rw [Array.getD_eq_getD_getElem?] at h2 h3 h4
 simp [results, Tryz.results12, go_sem, h2, h3, h4, e0, e1, e2]
theorem program6_any (s : ByteArray) (w : World) (hs : s.size ≤ 5000000) (hg : Gl w) : Calls Tryz.prog 12 #[.string s] w (RdPost s w) := by
 have hm : Below w.heap.size w (w.alloc (.cells #[.slice none 0 0, .slice none 0 0, .slice none 0 0] 26)) := (Below.refl _ _).alloc (Nat.le_refl _) _
 have HM := hdn hm
 have HK : Hid (Bk (w.alloc (.cells #[.slice none 0 0, .slice none 0 0, .slice none 0 0] 26)) w.heap.size 26 #[.slice none 0 0, .slice none 0 0, .slice none 0 0]) := hdn (heap_alloc_new _ _)
 have HW := hdn (whole10 s (w.alloc (.cells #[.slice none 0 0, .slice none 0 0, .slice none 0 0] 26)) hs (hg.below hm hg.two))
 clear hs hg hm
 go_enter Tryz.func12, Tryz.ntmps12
 go_wp2_with fail
 refine (HW.out).mono ?_; rintro en w1 ⟨y, p, rfl, hy, hly, hb⟩
 have H1 := hdn hy; have H2 := hdn hly; have H3 := hdn hb
 have HK1 := hdn (HK.out.below hb HK.out.lt)
 have HB1 := hdn (HM.out.trans (hb.mono HM.out.size))
 have HLT : Hid (w.heap.size < (w.alloc (.cells #[.slice none 0 0, .slice none 0 0, .slice none 0 0] 26)).heap.size) := hdn (by simp)
 clear hy hly hb
 generalize w.alloc (.cells #[.slice none 0 0, .slice none 0 0, .slice none 0 0] 26) = wA at H2 H3 HLT HW HM HK
 go_wp2_with (first | ((with_reducible show wpList _ _ _ (Oper.mk none (Op.store 26 _ _) _ _ _ _ :: _) _ _); refine wpList_store_bk rfl 26 (.tmp 2) (.tmp 7) rfl w.heap.size 26 _ (Pg.cells y).toArray rfl rfl HK1.out size33 rfl (kPg.one _) ?_; intro w2 hB hF))
 exact bodyPost_ret (results6_run rfl rfl rfl hB) rfl ⟨y, p, rfl, H1.out, pgLies_ext ((fresh_par hF HLT.out).trans (fresh_mono HM.out.size _)) H2.out, below_par HB1.out hF (Nat.le_refl _)⟩
end Go.Proofs.YtdlchhimkelinaaGreatDoor
namespace Go.Proofs.YtdlchhimkelinaaGreatDoor
open Go.RowKit Go.Sort
theorem rd_none {s : ByteArray} (h : (Pr.rd s).1 ≠ 0) : (Pr.rd s).2 = Pr.noPg := by
 unfold Pr.rd at *
 by_cases h0 : (Tx.alls s).2.2 = 0
 ·rw [if_pos h0] at h ⊢
  split at h <;> rename_i heq
  ·rfl
  ·exact absurd rfl h
 ·rw [if_neg h0]
theorem er_none {y : Pg} (h : y.er = Pr.noPg) : y.structs.l = [] ∧ y.globals.l = [] ∧ y.procs.l = [] := by
 have h1 := congrArg (fun p : Pg => p.structs.l) h
 have h2 := congrArg (fun p : Pg => p.globals.l) h
 have h3 := congrArg (fun p : Pg => p.procs.l) h
 exact ⟨List.map_eq_nil_iff.1 h1, List.map_eq_nil_iff.1 h2, List.map_eq_nil_iff.1 h3⟩
theorem tight_of_er {M : Nat} : ∀ l : SL, Pn.tight M l.er → Pn.tight M l
 | .nil, _ => trivial
 | .cons h _ _ t _ _ e r, g => by
  refine ⟨?_, tight_of_er t g.2.1, tight_of_er e g.2.2.1, tight_of_er r g.2.2.2⟩
  have := g.1
  rwa [show (h.er).args.l = h.args.l.map Vl.er from rfl, List.length_map] at this
theorem tightP_of_er {M : Nat} {p : Pg} (g : Pn.tightP M p.er) : Pn.tightP M p := by
 obtain ⟨⟨g1, g2⟩, g3, g4, g5⟩ := g
 refine ⟨⟨by rwa [show p.er.structs.l = p.structs.l.map Sr.er from rfl, List.length_map] at g1, fun x hx => ?_⟩, by rwa [show p.er.globals.l = p.globals.l.map Dc.er from rfl, List.length_map] at g3, by rwa [show p.er.procs.l = p.procs.l.map Pc.er from rfl, List.length_map] at g4, fun x hx => ?_⟩
 ·have := g2 x.er (List.mem_map_of_mem hx)
  rwa [show x.er.fields.l = x.fields.l.map Dc.er from rfl, List.length_map] at this
 ·obtain ⟨h1, h2, h3⟩ := g5 x.er (List.mem_map_of_mem hx)
  exact ⟨by rwa [show x.er.params.l = x.params.l.map Dc.er from rfl, List.length_map] at h1, by rwa [show x.er.locals_.l = x.locals_.l.map Dc.er from rfl, List.length_map] at h2, tight_of_er _ h3⟩
theorem sl_er2 {α : Type} {f : α → α} (h : ∀ x, f (f x) = f x) (s : Sl α) : (s.er f).er f = s.er f := by
 simp only [Sl.er, List.map_map]; congr 1; exact List.map_congr_left fun x _ => h x
theorem pth_er2 (x : Pth) : x.er.er = x.er := by show (⟨_, _, _⟩ : Pth) = ⟨_, _, _⟩; congr 1; exact sl_er2 (f := Hp.er) (fun _ => rfl) x.hops
theorem vl_er2 (x : Vl) : x.er.er = x.er := by show (⟨_, _, _, _, _, _⟩ : Vl) = ⟨_, _, _, _, _, _⟩; congr 1; exact pth_er2 x.path
theorem cd_er2 (x : Cd) : x.er.er = x.er := by show (⟨_, _, _, _⟩ : Cd) = ⟨_, _, _, _⟩; congr 1; exact vl_er2 x.left; exact vl_er2 x.right
theorem hd_er2 (x : Hd) : x.er.er = x.er := by
 show (⟨_, _, _, _, _, _, _, _⟩ : Hd) = ⟨_, _, _, _, _, _, _, _⟩
 congr 1
 ·exact pth_er2 x.place
 ·exact vl_er2 x.value
 ·exact cd_er2 x.cond
 ·exact sl_er2 vl_er2 x.args
theorem sL_er2 : ∀ l : SL, l.er.er = l.er
 | .nil => rfl
 | .cons h _ _ t _ _ e r => by simp only [SL.er]; rw [hd_er2, sL_er2 t, sL_er2 e, sL_er2 r]
theorem sr_er2 (x : Sr) : x.er.er = x.er := by show (⟨_, _, _⟩ : Sr) = ⟨_, _, _⟩; congr 1; exact sl_er2 (f := Dc.er) (fun _ => rfl) x.fields
theorem pc_er2 (x : Pc) : x.er.er = x.er := by
 show (⟨_, _, _, _, _, _, _, _⟩ : Pc) = ⟨_, _, _, _, _, _, _, _⟩
 congr 1
 ·exact sl_er2 (f := Dc.er) (fun _ => rfl) x.params
 ·exact sl_er2 (f := Dc.er) (fun _ => rfl) x.locals_
 ·exact sL_er2 x.body
theorem er_twice (p : Pg) : p.er.er = p.er := by
 show (⟨_, _, _⟩ : Pg) = ⟨_, _, _⟩
 congr 1
 ·exact sl_er2 sr_er2 p.structs
 ·exact sl_er2 (f := Dc.er) (fun _ => rfl) p.globals
 ·exact sl_er2 pc_er2 p.procs
theorem law_any (hLV : ∀ w, Gl w → Calls Tryz.prog 7 #[] w fun e w' => e = .returned (.bool true) ∧ Below w.heap.size w w') (s : ByteArray) (w : World) (hg : Gl w) :
  Calls Tryz.prog 5 #[.string s] w fun e w' => e = .returned (.bool true) ∧ Below w.heap.size w w' := by
 have HG := hdn hg
 have HLV := hdn hLV
 clear hg hLV
 by_cases hl : 8000 < s.size
 ·go_enter Tryz.func5, Tryz.ntmps5
  go_wp2_with (go_at_call 7; refine (HLV.out _ HG.out).mono ?_; rintro e w' ⟨rfl, hb⟩)
  go_ret
  exact ⟨rfl, by assumption⟩
 ·have h8 : s.size ≤ 8000 := by omega
  have HM1 := hdn (program6_any s w (by omega) HG.out)
  have HTG := hdn (Pn.tightP_mono (N := 8010) (by omega) (Pn.rd_tight s))
  have HRR := hdn (Pn.rd_right s)
  have HAG : Hid (∀ u : ByteArray, u.data.toList = Pn.progT (Pr.rd s).2 → u.size ≤ 65536 → Pr.rd u = (0, (Pr.rd s).2.er)) := hdn (fun u h1 h2 => Pn.rd_again s h1 h2)
  have HNO : Hid ((Pr.rd s).1 ≠ 0 → (Pr.rd s).2 = Pr.noPg) := hdn rd_none
  clear hl
  by_cases he : (Pr.rd s).1 = 0
  ·go_enter Tryz.func5, Tryz.ntmps5
   go_wp2_with fail
   refine (HM1.out).mono ?_; rintro en w2 ⟨y1, p1, rfl, hy1, hl1, hb1⟩
   have HY1 := hdn hy1
   have HT1 : Hid (Pn.tightP 8010 y1) := hdn (tightP_of_er (by rw [hy1]; exact HTG.out))
   have HR1 : Hid (Pn.right y1 = true) := hdn (by rw [← Pn.right_er, hy1]; exact HRR.out)
   have HX1 : Hid (Pn.progT y1 = Pn.progT (Pr.rd s).2) := hdn (by rw [← Pn.progT_er, hy1])
   have HL1 := hdn (pgLies_ext (Ext.mask _ _) hl1)
   have HB2 := hdn hb1
   clear hy1 hl1 hb1 HM1
   rw [he]
   go_upto_region 4 with (first | ((with_reducible show wpList _ _ _ (Oper.mk none (Op.store 26 (.tmp 3) (.tmp 18)) _ _ _ _ :: _) _ _); refine wpList_store_new rfl 26 (.tmp 3) (.tmp 18) rfl _ (Pg.cells y1).toArray rfl rfl size33 rfl rfl ?_))
   have hm : Below w2.heap.size w2 (w2.alloc (.cells #[.slice y1.structs.p y1.structs.l.length y1.structs.cap, .slice y1.globals.p y1.globals.l.length y1.globals.cap, .slice y1.procs.p y1.procs.l.length y1.procs.cap] 26)) := (Below.refl _ _).alloc (Nat.le_refl _) _
   have HK1 : Hid (Bk (w2.alloc (.cells #[.slice y1.structs.p y1.structs.l.length y1.structs.cap, .slice y1.globals.p y1.globals.l.length y1.globals.cap, .slice y1.procs.p y1.procs.l.length y1.procs.cap] 26)) w2.heap.size 26 #[.slice y1.structs.p y1.structs.l.length y1.structs.cap, .slice y1.globals.p y1.globals.l.length y1.globals.cap, .slice y1.procs.p y1.procs.l.length y1.procs.cap]) := hdn (heap_alloc_new _ _)
   have HB3 := hdn (HB2.out.trans (hm.mono HB2.out.size))
   have HL3 := hdn (pgLies_below HL1.out hm)
   generalize w2.alloc (.cells #[.slice y1.structs.p y1.structs.l.length y1.structs.cap, .slice y1.globals.p y1.globals.l.length y1.globals.cap, .slice y1.procs.p y1.procs.l.length y1.procs.cap] 26) = wA at HK1 HB3 HL3 ⊢
   clear hm HB2 HL1
   generalize w2.heap.size = g2 at *
   have r0 : wA.cell? ⟨g2, 0, none⟩ = some (.slice y1.structs.p y1.structs.l.length y1.structs.cap) := HK1.out.cell 0
   have r1 : wA.cell? ⟨g2, 1, none⟩ = some (.slice y1.globals.p y1.globals.l.length y1.globals.cap) := HK1.out.cell 1
   have r2 : wA.cell? ⟨g2, 2, none⟩ = some (.slice y1.procs.p y1.procs.l.length y1.procs.cap) := HK1.out.cell 2
   have CP := progT_any digOk y1 wA HL3.out HR1.out HT1.out
   have hts : (bt (Pn.progT y1)).size ≤ 100000000000 := Pn.prog_tlen HR1.out HT1.out
   have HA2 : Hid ((bt (Pn.progT y1)).size ≤ 65536 → Pr.rd (bt (Pn.progT y1)) = (0, (Pr.rd s).2.er)) := hdn (fun h => HAG.out _ (by rw [bt_list]; exact HX1.out) h)
   generalize bt (Pn.progT y1) = tx at *
   by_cases hz : 65536 < tx.size
   ·have hz' : (65536 : Int) < (tx.size : Int) := by omega
    go_wp2_with (first | (go_at_call 13; refine CP.mono ?_; rintro en w3 ⟨rfl, hb⟩; have HB4 := hdn (HB3.out.trans (hb.mono HB3.out.size)); have HL4 := hdn (pgLies_below HL3.out hb); have HK2 := hdn (HK1.out.below hb HK1.out.lt); clear hb) | (go_at_call 7; refine (HLV.out _ (HG.out.below HB4.out HG.out.two)).mono ?_; rintro e w' ⟨rfl, hb⟩))
    go_ret
    exact ⟨rfl, HB4.out.trans (Below.mono (by assumption) HB4.out.size)⟩
   ·have hz' : ¬ (65536 : Int) < (tx.size : Int) := by omega
    have HRD := hdn (HA2.out (by omega))
    have HM2 := hdn (fun w hg => program6_any tx w (by omega) hg)
    have HY2 := hdn HY1.out
    clear HA2 HTG HRR HAG HNO HX1
    go_wp2_with (go_at_call 13; refine CP.mono ?_; rintro en w3 ⟨rfl, hb⟩; have HB4 := hdn (HB3.out.trans (hb.mono HB3.out.size)); have HL4 := hdn (pgLies_below HL3.out hb); have HK2 := hdn (HK1.out.below hb HK1.out.lt); clear hb)
    refine (HM2.out _ (HG.out.below HB4.out HG.out.two)).mono ?_; rintro en w4 ⟨y2, p2, rfl, hy2, hl2, hb2⟩
    have HYY : Hid (y1.er = y2.er) := hdn (by rw [hy2, HRD.out]; show y1.er = (Pr.rd s).2.er; rw [← HY1.out]; exact (er_twice y1).symm)
    have h1 : (Pr.rd tx).1 = 0 := by rw [HRD.out]
    rw [h1]
    have HL2 := hdn (pgLies_ext (Ext.mask _ _) hl2)
    have HL5 := hdn (pgLies_below HL4.out hb2)
    have HB5 := hdn (HB4.out.trans (hb2.mono HB4.out.size))
    have HK3 := hdn (HK2.out.below hb2 HK2.out.lt)
    clear hy2 hl2 hb2 HM2 HB4 HL4 HK2 HY1 HRD r0 r1 r2 CP
    have hm4 : Below w4.heap.size w4 (w4.alloc (.cells #[.slice y2.structs.p y2.structs.l.length y2.structs.cap, .slice y2.globals.p y2.globals.l.length y2.globals.cap, .slice y2.procs.p y2.procs.l.length y2.procs.cap] 26)) := (Below.refl _ _).alloc (Nat.le_refl _) _
    have HB6 := hdn (HB5.out.trans (hm4.mono HB5.out.size))
    have HS := hdn (refProgram_any y1 y2 (w4.alloc (.cells #[.slice y2.structs.p y2.structs.l.length y2.structs.cap, .slice y2.globals.p y2.globals.l.length y2.globals.cap, .slice y2.procs.p y2.procs.l.length y2.procs.cap] 26)) (pgLies_below HL5.out hm4) (pgLies_below HL2.out hm4))
    rw [samePg_of HYY.out] at HS
    have hk1 := HK3.out.below hm4 HK3.out.lt
    have hk2 : Bk (w4.alloc (.cells #[.slice y2.structs.p y2.structs.l.length y2.structs.cap, .slice y2.globals.p y2.globals.l.length y2.globals.cap, .slice y2.procs.p y2.procs.l.length y2.procs.cap] 26)) w4.heap.size 26 #[.slice y2.structs.p y2.structs.l.length y2.structs.cap, .slice y2.globals.p y2.globals.l.length y2.globals.cap, .slice y2.procs.p y2.procs.l.length y2.procs.cap] := heap_alloc_new _ _
    have q1 : World.cell? (w4.alloc (.cells #[.slice y2.structs.p y2.structs.l.length y2.structs.cap, .slice y2.globals.p y2.globals.l.length y2.globals.cap, .slice y2.procs.p y2.procs.l.length y2.procs.cap] 26)) ⟨g2, 0, none⟩ = some (.slice y1.structs.p y1.structs.l.length y1.structs.cap) := hk1.cell 0
    have q2 : World.cell? (w4.alloc (.cells #[.slice y2.structs.p y2.structs.l.length y2.structs.cap, .slice y2.globals.p y2.globals.l.length y2.globals.cap, .slice y2.procs.p y2.procs.l.length y2.procs.cap] 26)) ⟨g2, 1, none⟩ = some (.slice y1.globals.p y1.globals.l.length y1.globals.cap) := hk1.cell 1
    have q3 : World.cell? (w4.alloc (.cells #[.slice y2.structs.p y2.structs.l.length y2.structs.cap, .slice y2.globals.p y2.globals.l.length y2.globals.cap, .slice y2.procs.p y2.procs.l.length y2.procs.cap] 26)) ⟨g2, 2, none⟩ = some (.slice y1.procs.p y1.procs.l.length y1.procs.cap) := hk1.cell 2
    have q4 : World.cell? (w4.alloc (.cells #[.slice y2.structs.p y2.structs.l.length y2.structs.cap, .slice y2.globals.p y2.globals.l.length y2.globals.cap, .slice y2.procs.p y2.procs.l.length y2.procs.cap] 26)) ⟨w4.heap.size, 0, none⟩ = some (.slice y2.structs.p y2.structs.l.length y2.structs.cap) := hk2.cell 0
    have q5 : World.cell? (w4.alloc (.cells #[.slice y2.structs.p y2.structs.l.length y2.structs.cap, .slice y2.globals.p y2.globals.l.length y2.globals.cap, .slice y2.procs.p y2.procs.l.length y2.procs.cap] 26)) ⟨w4.heap.size, 1, none⟩ = some (.slice y2.globals.p y2.globals.l.length y2.globals.cap) := hk2.cell 1
    have q6 : World.cell? (w4.alloc (.cells #[.slice y2.structs.p y2.structs.l.length y2.structs.cap, .slice y2.globals.p y2.globals.l.length y2.globals.cap, .slice y2.procs.p y2.procs.l.length y2.procs.cap] 26)) ⟨w4.heap.size, 2, none⟩ = some (.slice y2.procs.p y2.procs.l.length y2.procs.cap) := hk2.cell 2
    clear hk1 hk2 hm4 HK3 HL2 HL5 HB5 HYY
    go_wp2_with (first | ((with_reducible show wpList _ _ _ (Oper.mk none (Op.store 26 (.tmp 8) (.tmp 52)) _ _ _ _ :: _) _ _); refine wpList_store_new rfl 26 (.tmp 8) (.tmp 52) rfl _ (Pg.cells y2).toArray rfl rfl size33 rfl rfl ?_))
    refine (HS.out).mono ?_; rintro en w5 ⟨rfl, hb4⟩
    have HB7 := hdn (HB6.out.trans (hb4.mono HB6.out.size))
    clear hb4 HS HB6
    go_wp2_with (go_at_call 7; refine (HLV.out _ (HG.out.below HB7.out HG.out.two)).mono ?_; rintro e w' ⟨rfl, hb⟩)
    go_ret
    exact ⟨rfl, HB7.out.trans (Below.mono (by assumption) HB7.out.size)⟩
  ·go_enter Tryz.func5, Tryz.ntmps5
   go_wp2_with fail
   refine (HM1.out).mono ?_; rintro en w2 ⟨y1, p1, rfl, hy1, hl1, hb1⟩
   obtain ⟨n1, n2, n3⟩ := er_none (hy1.trans (HNO.out he))
   have n4 : Pg.cells y1 = [.slice y1.structs.p 0 y1.structs.cap, .slice y1.globals.p 0 y1.globals.cap, .slice y1.procs.p 0 y1.procs.cap] := by simp [Pg.cells, n1, n2, n3]
   rw [n4]
   have HB2 := hdn hb1
   clear hy1 hl1 hb1 HM1 n1 n2 n3 n4
   have he2 : ((Pr.rd s).1 != 0) = true := by rw [bne_iff_ne]; exact he
   generalize (Pr.rd s).1 = e1 at *
   go_wp2_with (first | (go_at_call 7; refine (HLV.out _ (HG.out.below (HB2.out.alloc HB2.out.size _) HG.out.two)).mono ?_; rintro e w' ⟨rfl, hb⟩))
   go_ret
   exact ⟨rfl, (HB2.out.alloc HB2.out.size _).trans (Below.mono (by assumption) (HB2.out.alloc HB2.out.size _).size)⟩
end Go.Proofs.YtdlchhimkelinaaGreatDoor
namespace Go.Proofs.YtdlchhimkelinaaGreatDoor
open Go.RowKit Go.Sort
/-! Hp -/
theorem enters93 : ∀ args w, (callFunc 212 args).run Tryz.prog w = .ok (.enter 212 args) w := enters Tryz.func212 (by kernel_rfl) rfl
/-- What is asked of the function that says whether two items are the same. -/
def OkHp (x y : Hp) : Prop := ∀ (b1 q1 b2 q2 : Nat) (w : World), w.rangeAt b1 q1 (Hp.cells x) → w.rangeAt b2 q2 (Hp.cells y) → triv w x → triv w y →
 Calls Tryz.prog 201 #[.pointer (some ⟨b1, q1, none⟩), .pointer (some ⟨b2, q2, none⟩)] w fun en w' => en = .returned (.bool (sameHp x y)) ∧ Below w.heap.size w w'
theorem cloFHp (i : Int) (b1 q1 bs bb : Nat) (w : World) :
  Calls Tryz.prog 212 #[.bool false, .int .i64 i, .pointer (some ⟨b1, q1, none⟩), .pointer (some ⟨bs, 0, none⟩), .pointer (some ⟨bb, 0, none⟩)] w fun en w' => en = .returned (.bool false) ∧ Below w.heap.size w w' := by
 go_enter Tryz.func212, Tryz.ntmps212
 go_wp2_with fail
 go_quiet (fail)
 go_wp2_with fail
 go_ret
 exact ⟨rfl, below_drewN_ (Below.refl _ _) _⟩
theorem cloTHp (v : Bool) (k n c b1 q1 b2 o2 bs bb : Nat) (w : World) (hk : k < n)
  (hs : w.cell? ⟨bs, 0, none⟩ = some (.func (.func 201) #[] #[])) (hb : w.cell? ⟨bb, 0, none⟩ = some (.slice (some ⟨b2, o2, none⟩) n c))
  (hS : ∀ w', Below w.heap.size w w' → Calls Tryz.prog 201 #[.pointer (some ⟨b1, q1, none⟩), .pointer (some ⟨b2, o2 + k * 2, none⟩)] w' fun en w'' => en = .returned (.bool v) ∧ Below w'.heap.size w' w'') :
  Calls Tryz.prog 212 #[.bool true, .int .i64 k, .pointer (some ⟨b1, q1, none⟩), .pointer (some ⟨bs, 0, none⟩), .pointer (some ⟨bb, 0, none⟩)] w fun en w' => en = .returned (.bool v) ∧ Below w.heap.size w w' := by
 have cS : ∀ dd os, Calls Tryz.prog 201 #[.pointer (some ⟨b1, q1, none⟩), .pointer (some ⟨b2, o2 + k * 2, none⟩)] (grow (redrawn w dd) os) fun en w'' => en = .returned (.bool v) ∧ ∃ p : Regrown, w'' = grow (redrawn w p.d) p.os :=
  fun dd os => Calls.regrown_of (hS _ (below_regrown _ _ _))
 have ks := cell_regrown hs
 have kb := cell_regrown hb
 have hk0 : (0 : Int) ≤ (k : Int) := Int.natCast_nonneg _
 have hk1 : (k : Int) < (n : Int) := by omega
 clear hS hs hb
 go_enter Tryz.func212, Tryz.ntmps212
 go_wp2_with fail
 refine wp_region_quiet_below (by kernel_rfl) (by kernel_rfl) ?_
 repeat (go_big_quiet_step (with_reducible exact cS _ _))
 refine wpQuiet_nil ?_
 intro _ hw'
 obtain ⟨⟨dq, osq⟩, hw''⟩ := hw'
 subst hw''
 have HB3 := hdn (below_regrown w dq osq)
 generalize grow (redrawn w dq) osq = w3 at HB3 ⊢
 go_wp2_with fail
 go_ret
 exact ⟨rfl, HB3.out⟩
theorem foldHp (l m : List Hp) (p1 p2 : Option Addr) (c1 c2 bs bb : Nat) (w : World) (h1 : Lay 2 Hp.cells triv w p1 l) (h2 : Lay 2 Hp.cells triv w p2 m)
  (hs : w.cell? ⟨bs, 0, none⟩ = some (.func (.func 201) #[] #[])) (hb : w.cell? ⟨bb, 0, none⟩ = some (.slice p2 m.length c2)) (hS : ∀ x ∈ l, ∀ y ∈ m, OkHp x y) :
  Calls Tryz.prog 211 #[.slice p1 l.length c1, .bool ((l.length : Int) == (m.length : Int)), .func (.func 212) #[] #[.pointer (some ⟨bs, 0, none⟩), .pointer (some ⟨bb, 0, none⟩)]] w fun en w' => en = .returned (.bool (sameL sameHp l m)) ∧ Below w.heap.size w w' := by
 obtain ⟨hl1, h1⟩ := h1
 obtain ⟨_, h2⟩ := h2
 have H1 := hdn h1
 have H2 := hdn h2
 have HS := hdn hS
 have HBS := hdn hs
 have HBB := hdn hb
 clear h1 h2 hS hs hb
 by_cases he : l.length = m.length
 ·have heq : ((l.length : Int) == (m.length : Int)) = true := by rw [he]; simp
  rw [heq]
  have HE := hdn he
  clear he heq
  go_enter Tryz.func211, Tryz.ntmps211
  go_wp2_with fail
  go_loopw [1, 10] (fun v i wr => ∃ k : Nat, i = .int .i64 k ∧ k ≤ l.length ∧ v = .bool (sameL sameHp (l.take k) (m.take k)) ∧ Hid (Below w.heap.size w wr)) (fun _ i _ => l.length - (intOf i).toNat)
  case atStart => exact ⟨0, rfl, Nat.zero_le _, rfl, hdn (Below.refl _ _)⟩
  case round =>
   obtain ⟨k, rfl, hk, rfl, HB⟩ := hrel
   by_cases hkl : k < l.length
   ·have hkm : k < m.length := by have := HE.out; omega
    obtain ⟨b1, o1, rfl, hx⟩ : ∃ b o, p1 = some ⟨b, o, none⟩ ∧ ∀ k x, l[k]? = some x → w.rangeAt b (o + k * 2) (Hp.cells x) ∧ triv w x := by
     rcases H1.out with h | h
     ·rw [h] at hkl; simp at hkl
     ·exact h
    obtain ⟨b2, o2, rfl, hy⟩ : ∃ b o, p2 = some ⟨b, o, none⟩ ∧ ∀ k x, m[k]? = some x → w.rangeAt b (o + k * 2) (Hp.cells x) ∧ triv w x := by
     rcases H2.out with h | h
     ·rw [h] at hkm; simp at hkm
     ·exact h
    have hx1 := hx k l[k] (List.getElem?_eq_getElem hkl)
    have hy1 := hy k m[k] (List.getElem?_eq_getElem hkm)
    have hSS : ∀ w', Below wr.heap.size wr w' → Calls Tryz.prog 201 #[.pointer (some ⟨b1, o1 + k * 2, none⟩), .pointer (some ⟨b2, o2 + k * 2, none⟩)] w' fun en w'' => en = .returned (.bool (sameHp l[k] m[k])) ∧ Below w'.heap.size w' w'' := fun w' hb' =>
     have hb2 := HB.out.trans (hb'.mono HB.out.size)
     HS.out l[k] (List.getElem_mem _) m[k] (List.getElem_mem _) _ _ _ _ w' (rangeAt_below hx1.1 hb2) (rangeAt_below hy1.1 hb2) (triv_below hx1.2 hb2) (triv_below hy1.2 hb2)
    have hst := sameL_step (f := sameHp) k hkl hkm
    generalize sameHp l[k] m[k] = vb at hSS hst
    have HSS := hdn hSS
    have HST := hdn hst
    have HCT : Hid (Calls Tryz.prog 212 #[.bool true, .int .i64 k, .pointer (some ⟨b1, o1 + k * 2, none⟩), .pointer (some ⟨bs, 0, none⟩), .pointer (some ⟨bb, 0, none⟩)] wr fun en w' => en = .returned (.bool vb) ∧ Below wr.heap.size wr w') :=
     hdn (cloTHp vb k m.length c2 b1 (o1 + k * 2) b2 o2 bs bb wr hkm ((HB.out.cell (p := ⟨bs, 0, none⟩) (World.block_lt_of_cell? w _ HBS.out)).trans HBS.out) ((HB.out.cell (p := ⟨bb, 0, none⟩) (World.block_lt_of_cell? w _ HBB.out)).trans HBB.out) HSS.out)
    have hcl := enters93
    clear hx hy hx1 hy1 hSS hst
    generalize sameL sameHp (l.take k) (m.take k) = sb at HST ⊢
    cases sb
    ·go_wp2_with fail
     refine (cloFHp _ _ _ _ _ _).mono ?_; rintro en w2 ⟨rfl, hb2⟩
     have HB2 : Hid (Below w.heap.size w w2) := hdn (HB.out.trans (hb2.mono HB.out.size))
     clear hb2
     go_wp2_with fail
     go_roundw
     case rel => exact ⟨k + 1, by go_num, by omega, by rw [HST.out]; rfl, HB2⟩
     case measure => simp [intOf]; omega
    ·go_wp2_with fail
     refine (HCT.out).mono ?_; rintro en w2 ⟨rfl, hb2⟩
     have HB2 : Hid (Below w.heap.size w w2) := hdn (HB.out.trans (hb2.mono HB.out.size))
     clear hb2
     go_wp2_with fail
     go_roundw
     case rel => exact ⟨k + 1, by go_num, by omega, by rw [HST.out]; rfl, HB2⟩
     case measure => simp [intOf]; omega
   ·have h1 : l.take k = l := List.take_of_length_le (by omega)
    have h2 : m.take k = m := List.take_of_length_le (by have := HE.out; omega)
    rw [h1, h2]
    clear h1 h2
    go_wp2_with fail
    go_ret
    exact ⟨rfl, HB.out⟩
 ·have heq : ((l.length : Int) == (m.length : Int)) = false := by
   rw [Bool.eq_false_iff]; intro e; rw [beq_iff_eq] at e; exact he (by omega)
  rw [heq, sameL_len he]
  clear he heq
  go_enter Tryz.func211, Tryz.ntmps211
  go_wp2_with fail
  go_loopw [1, 10] (fun v i wr => ∃ k : Nat, i = .int .i64 k ∧ k ≤ l.length ∧ v = .bool false ∧ Hid (Below w.heap.size w wr)) (fun _ i _ => l.length - (intOf i).toNat)
  case atStart => exact ⟨0, rfl, Nat.zero_le _, rfl, hdn (Below.refl _ _)⟩
  case round =>
   obtain ⟨k, rfl, hk, rfl, HB⟩ := hrel
   by_cases hkl : k < l.length
   ·obtain ⟨b1, o1, rfl, hx⟩ : ∃ b o, p1 = some ⟨b, o, none⟩ ∧ ∀ k x, l[k]? = some x → w.rangeAt b (o + k * 2) (Hp.cells x) ∧ triv w x := by
     rcases H1.out with h | h
     ·rw [h] at hkl; simp at hkl
     ·exact h
    have hcl := enters93
    clear hx
    go_wp2_with fail
    refine (cloFHp _ _ _ _ _ _).mono ?_; rintro en w2 ⟨rfl, hb2⟩
    have HB2 : Hid (Below w.heap.size w w2) := hdn (HB.out.trans (hb2.mono HB.out.size))
    clear hb2
    go_wp2_with fail
    go_roundw
    case rel => exact ⟨k + 1, by go_num, by omega, rfl, HB2⟩
    case measure => simp [intOf]; omega
   ·go_wp2_with fail
    go_ret
    exact ⟨rfl, HB.out⟩
theorem allHp (l m : List Hp) (p1 p2 : Option Addr) (c1 c2 : Nat) (w : World) (h1 : Lay 2 Hp.cells triv w p1 l) (h2 : Lay 2 Hp.cells triv w p2 m) (hS : ∀ x ∈ l, ∀ y ∈ m, OkHp x y) :
  Calls Tryz.prog 200 #[.slice p1 l.length c1, .slice p2 m.length c2, .func (.func 201) #[] #[]] w fun en w' => en = .returned (.bool (sameL sameHp l m)) ∧ Below w.heap.size w w' := by
 have ha : Below w.heap.size w ((w.alloc (.cells #[.slice p2 m.length c2] 43)).alloc (.cells #[.func (.func 201) #[] #[]] 222)) := ((Below.refl _ _).alloc (Nat.le_refl _) _).alloc (by simp) _
 have HF := hdn (foldHp l m p1 p2 c1 c2 (w.heap.size + 1) w.heap.size ((w.alloc (.cells #[.slice p2 m.length c2] 43)).alloc (.cells #[.func (.func 201) #[] #[]] 222)) (h1.below ha (fun _ h => triv_below h ha)) (h2.below ha (fun _ h => triv_below h ha))
  (cell_of_row _ _ 0 _ _ _ (heap_alloc2_new w _ _)) (cell_of_row _ _ 0 _ _ _ (heap_alloc2_old w _ _)) hS)
 have HA := hdn ha
 have hl1 := h1.1
 have hl2 := h2.1
 clear ha h1 h2 hS
 go_enter Tryz.func200, Tryz.ntmps200
 go_wp2_with fail
 refine (HF.out).mono ?_; rintro en w2 ⟨rfl, hb2⟩
 have HB2 : Hid (Below w.heap.size w w2) := hdn (HA.out.trans (hb2.mono HA.out.size))
 clear hb2
 go_wp2_with fail
 go_ret
 exact ⟨rfl, HB2.out⟩
end Go.Proofs.YtdlchhimkelinaaGreatDoor
namespace Go.Proofs.YtdlchhimkelinaaGreatDoor
open Go.RowKit Go.Sort
theorem hop_any (x y : Hp) (b1 q1 b2 q2 : Nat) (w : World) (hx : w.rangeAt b1 q1 (Hp.cells x)) (hy : w.rangeAt b2 q2 (Hp.cells y)) (_rx : triv w x) (_ry : triv w y) :
  Calls Tryz.prog 201 #[.pointer (some ⟨b1, q1, none⟩), .pointer (some ⟨b2, q2, none⟩)] w fun en w' => en = .returned (.bool (sameHp x y)) ∧ Below w.heap.size w w' := by
 have cx0 := cell_at hx 0 _ rfl
 have cy0 := cell_at hy 0 _ rfl
 rw [Nat.add_zero] at cx0 cy0
 have kx0 := cell_regrown cx0
 have ky0 := cell_regrown cy0
 show Calls _ _ _ _ (fun en w' => en = .returned (.bool ((x.name.toList == y.name.toList))) ∧ Below w.heap.size w w')
 generalize e0 : (x.name.toList == y.name.toList) = v0
 clear hx hy _rx _ry
 cases v0
 ·go_enter Tryz.func201, Tryz.ntmps201
  go_wp2_with fail
  refine wp_region_quiet_below (by kernel_rfl) (by kernel_rfl) ?_
  repeat (go_big_quiet_step (fail))
  refine wpQuiet_nil ?_
  intro _ hw'
  obtain ⟨⟨dq, osq⟩, hw''⟩ := hw'
  subst hw''
  have HB3 := hdn (below_regrown w dq osq)
  generalize grow (redrawn w dq) osq = w3 at HB3 ⊢
  go_wp2_with fail
  go_ret
  exact ⟨rfl, HB3.out⟩
 ·go_enter Tryz.func201, Tryz.ntmps201
  go_wp2_with fail
  refine wp_region_quiet_below (by kernel_rfl) (by kernel_rfl) ?_
  repeat (go_big_quiet_step (fail))
  refine wpQuiet_nil ?_
  intro _ hw'
  obtain ⟨⟨dq, osq⟩, hw''⟩ := hw'
  subst hw''
  have HB3 := hdn (below_regrown w dq osq)
  generalize grow (redrawn w dq) osq = w3 at HB3 ⊢
  go_wp2_with fail
  go_ret
  exact ⟨rfl, HB3.out⟩
theorem okHp (x y : Hp) : OkHp x y := fun b1 q1 b2 q2 w hx hy rx ry => hop_any x y b1 q1 b2 q2 w hx hy rx ry
theorem termS_any (x y : Tm) (b1 q1 b2 q2 : Nat) (w : World) (hx : w.rangeAt b1 q1 (Tm.cells x)) (hy : w.rangeAt b2 q2 (Tm.cells y)) (_rx : triv w x) (_ry : triv w y) :
  Calls Tryz.prog 202 #[.pointer (some ⟨b1, q1, none⟩), .pointer (some ⟨b2, q2, none⟩)] w fun en w' => en = .returned (.bool (sameTm x y)) ∧ Below w.heap.size w w' := by
 have cx0 := cell_at hx 0 _ rfl
 have cy0 := cell_at hy 0 _ rfl
 rw [Nat.add_zero] at cx0 cy0
 have kx0 := cell_regrown cx0
 have ky0 := cell_regrown cy0
 have cx1 := cell_at hx 1 _ rfl
 have cy1 := cell_at hy 1 _ rfl
 have kx1 := cell_regrown cx1
 have ky1 := cell_regrown cy1
 show Calls _ _ _ _ (fun en w' => en = .returned (.bool ((x.name.toList == y.name.toList) && ((x.n == y.n)))) ∧ Below w.heap.size w w')
 generalize e0 : (x.name.toList == y.name.toList) = v0
 generalize e1 : (x.n == y.n) = v1
 clear hx hy _rx _ry
 cases v0
 ·go_enter Tryz.func202, Tryz.ntmps202
  go_wp2_with fail
  refine wp_region_quiet_below (by kernel_rfl) (by kernel_rfl) ?_
  repeat (go_big_quiet_step (fail))
  refine wpQuiet_nil ?_
  intro _ hw'
  obtain ⟨⟨dq, osq⟩, hw''⟩ := hw'
  subst hw''
  have HB3 := hdn (below_regrown w dq osq)
  generalize grow (redrawn w dq) osq = w3 at HB3 ⊢
  go_wp2_with fail
  go_ret
  exact ⟨rfl, HB3.out⟩
 ·cases v1
  ·go_enter Tryz.func202, Tryz.ntmps202
   go_wp2_with fail
   refine wp_region_quiet_below (by kernel_rfl) (by kernel_rfl) ?_
   repeat (go_big_quiet_step (fail))
   refine wpQuiet_nil ?_
   intro _ hw'
   obtain ⟨⟨dq, osq⟩, hw''⟩ := hw'
   subst hw''
   have HB3 := hdn (below_regrown w dq osq)
   generalize grow (redrawn w dq) osq = w3 at HB3 ⊢
   go_wp2_with fail
   go_ret
   exact ⟨rfl, HB3.out⟩
  ·go_enter Tryz.func202, Tryz.ntmps202
   go_wp2_with fail
   refine wp_region_quiet_below (by kernel_rfl) (by kernel_rfl) ?_
   repeat (go_big_quiet_step (fail))
   refine wpQuiet_nil ?_
   intro _ hw'
   obtain ⟨⟨dq, osq⟩, hw''⟩ := hw'
   subst hw''
   have HB3 := hdn (below_regrown w dq osq)
   generalize grow (redrawn w dq) osq = w3 at HB3 ⊢
   go_wp2_with fail
   go_ret
   exact ⟨rfl, HB3.out⟩
theorem pathS_any (x y : Pth) (b1 q1 b2 q2 : Nat) (w : World) (hx : w.rangeAt b1 q1 (Pth.cells x)) (hy : w.rangeAt b2 q2 (Pth.cells y)) (rx : pthLies w x) (ry : pthLies w y) :
  Calls Tryz.prog 188 #[.pointer (some ⟨b1, q1, none⟩), .pointer (some ⟨b2, q2, none⟩)] w fun en w' => en = .returned (.bool (samePth x y)) ∧ Below w.heap.size w w' := by
 have cx0 := cell_at hx 0 _ rfl
 have cy0 := cell_at hy 0 _ rfl
 rw [Nat.add_zero] at cx0 cy0
 have kx0 := cell_regrown cx0
 have ky0 := cell_regrown cy0
 have C1 : ∀ w', Below w.heap.size w w' → Calls Tryz.prog 200 #[.slice x.hops.p x.hops.l.length x.hops.cap, .slice y.hops.p y.hops.l.length y.hops.cap, .func (.func 201) #[] #[]] w' fun en w'' => en = .returned (.bool (sameL sameHp x.hops.l y.hops.l)) ∧ Below w'.heap.size w' w'' := fun w' hb =>
  allHp _ _ _ _ _ _ w' (Lay.of_sl (pthLies_below rx hb) (by decide)) (Lay.of_sl (pthLies_below ry hb) (by decide)) (fun a _ b _ => okHp a b)
 have cx1 := cell_at hx 2 _ rfl
 have cy1 := cell_at hy 2 _ rfl
 have kx1 := cell_regrown cx1
 have ky1 := cell_regrown cy1
 show Calls _ _ _ _ (fun en w' => en = .returned (.bool ((x.name.toList == y.name.toList) && (sameL sameHp x.hops.l y.hops.l))) ∧ Below w.heap.size w w')
 generalize e0 : (x.name.toList == y.name.toList) = v0
 generalize sameL sameHp x.hops.l y.hops.l = v1 at C1 ⊢
 clear hx hy rx ry
 have cC1 : ∀ dd os, Calls Tryz.prog 200 #[.slice x.hops.p x.hops.l.length x.hops.cap, .slice y.hops.p y.hops.l.length y.hops.cap, .func (.func 201) #[] #[]] (grow (redrawn w dd) os) fun en w'' => en = .returned (.bool v1) ∧ ∃ p : Regrown, w'' = grow (redrawn w p.d) p.os := fun dd os => Calls.regrown_of (C1 _ (below_regrown _ _ _))
 clear C1
 cases v0
 ·go_enter Tryz.func188, Tryz.ntmps188
  go_wp2_with fail
  refine wp_region_quiet_below (by kernel_rfl) (by kernel_rfl) ?_
  repeat (go_big_quiet_step (first | (with_reducible exact cC1 _ _)))
  refine wpQuiet_nil ?_
  intro _ hw'
  obtain ⟨⟨dq, osq⟩, hw''⟩ := hw'
  subst hw''
  have HB3 := hdn (below_regrown w dq osq)
  generalize grow (redrawn w dq) osq = w3 at HB3 ⊢
  go_wp2_with fail
  go_ret
  exact ⟨rfl, HB3.out⟩
 ·cases v1
  ·go_enter Tryz.func188, Tryz.ntmps188
   go_wp2_with fail
   refine wp_region_quiet_below (by kernel_rfl) (by kernel_rfl) ?_
   repeat (go_big_quiet_step (first | (with_reducible exact cC1 _ _)))
   refine wpQuiet_nil ?_
   intro _ hw'
   obtain ⟨⟨dq, osq⟩, hw''⟩ := hw'
   subst hw''
   have HB3 := hdn (below_regrown w dq osq)
   generalize grow (redrawn w dq) osq = w3 at HB3 ⊢
   go_wp2_with fail
   go_ret
   exact ⟨rfl, HB3.out⟩
  ·go_enter Tryz.func188, Tryz.ntmps188
   go_wp2_with fail
   refine wp_region_quiet_below (by kernel_rfl) (by kernel_rfl) ?_
   repeat (go_big_quiet_step (first | (with_reducible exact cC1 _ _)))
   refine wpQuiet_nil ?_
   intro _ hw'
   obtain ⟨⟨dq, osq⟩, hw''⟩ := hw'
   subst hw''
   have HB3 := hdn (below_regrown w dq osq)
   generalize grow (redrawn w dq) osq = w3 at HB3 ⊢
   go_wp2_with fail
   go_ret
   exact ⟨rfl, HB3.out⟩
theorem valueS_any (x y : Vl) (b1 q1 b2 q2 : Nat) (w : World) (hx : w.rangeAt b1 q1 (Vl.cells x)) (hy : w.rangeAt b2 q2 (Vl.cells y)) (rx : vlLies w x) (ry : vlLies w y) :
  Calls Tryz.prog 189 #[.pointer (some ⟨b1, q1, none⟩), .pointer (some ⟨b2, q2, none⟩)] w fun en w' => en = .returned (.bool (sameVl x y)) ∧ Below w.heap.size w w' := by
 have cx0 := cell_at hx 0 _ rfl
 have cy0 := cell_at hy 0 _ rfl
 rw [Nat.add_zero] at cx0 cy0
 have kx0 := cell_regrown cx0
 have ky0 := cell_regrown cy0
 have cx1 := cell_at hx 5 _ rfl
 have cy1 := cell_at hy 5 _ rfl
 have kx1 := cell_regrown cx1
 have ky1 := cell_regrown cy1
 have C2 : ∀ w', Below w.heap.size w w' → Calls Tryz.prog 188 #[.pointer (some ⟨b1, q1 + 2, none⟩), .pointer (some ⟨b2, q2 + 2, none⟩)] w' fun en w'' => en = .returned (.bool (samePth x.path y.path)) ∧ Below w'.heap.size w' w'' := fun w' hb =>
  pathS_any _ _ _ _ _ _ w' (rangeAt_below (rangeAt_sub hx 2 3 rfl) hb) (rangeAt_below (rangeAt_sub hy 2 3 rfl) hb) (pthLies_of (vlLies_below rx hb)) (pthLies_of (vlLies_below ry hb))
 have C3 : ∀ w', Below w.heap.size w w' → Calls Tryz.prog 202 #[.pointer (some ⟨b1, q1 + 6, none⟩), .pointer (some ⟨b2, q2 + 6, none⟩)] w' fun en w'' => en = .returned (.bool (sameTm x.left y.left)) ∧ Below w'.heap.size w' w'' := fun w' hb =>
  termS_any _ _ _ _ _ _ w' (rangeAt_below (rangeAt_sub hx 6 3 rfl) hb) (rangeAt_below (rangeAt_sub hy 6 3 rfl) hb) trivial trivial
 have C4 : ∀ w', Below w.heap.size w w' → Calls Tryz.prog 202 #[.pointer (some ⟨b1, q1 + 9, none⟩), .pointer (some ⟨b2, q2 + 9, none⟩)] w' fun en w'' => en = .returned (.bool (sameTm x.right y.right)) ∧ Below w'.heap.size w' w'' := fun w' hb =>
  termS_any _ _ _ _ _ _ w' (rangeAt_below (rangeAt_sub hx 9 3 rfl) hb) (rangeAt_below (rangeAt_sub hy 9 3 rfl) hb) trivial trivial
 show Calls _ _ _ _ (fun en w' => en = .returned (.bool ((x.kind == y.kind) && ((x.type.toList == y.type.toList) && (samePth x.path y.path && (sameTm x.left y.left && (sameTm x.right y.right)))))) ∧ Below w.heap.size w w')
 generalize e0 : (x.kind == y.kind) = v0
 generalize e1 : (x.type.toList == y.type.toList) = v1
 generalize samePth x.path y.path = v2 at C2 ⊢
 generalize sameTm x.left y.left = v3 at C3 ⊢
 generalize sameTm x.right y.right = v4 at C4 ⊢
 clear hx hy rx ry
 have cC2 : ∀ dd os, Calls Tryz.prog 188 #[.pointer (some ⟨b1, q1 + 2, none⟩), .pointer (some ⟨b2, q2 + 2, none⟩)] (grow (redrawn w dd) os) fun en w'' => en = .returned (.bool v2) ∧ ∃ p : Regrown, w'' = grow (redrawn w p.d) p.os := fun dd os => Calls.regrown_of (C2 _ (below_regrown _ _ _))
 clear C2
 have cC3 : ∀ dd os, Calls Tryz.prog 202 #[.pointer (some ⟨b1, q1 + 6, none⟩), .pointer (some ⟨b2, q2 + 6, none⟩)] (grow (redrawn w dd) os) fun en w'' => en = .returned (.bool v3) ∧ ∃ p : Regrown, w'' = grow (redrawn w p.d) p.os := fun dd os => Calls.regrown_of (C3 _ (below_regrown _ _ _))
 clear C3
 have cC4 : ∀ dd os, Calls Tryz.prog 202 #[.pointer (some ⟨b1, q1 + 9, none⟩), .pointer (some ⟨b2, q2 + 9, none⟩)] (grow (redrawn w dd) os) fun en w'' => en = .returned (.bool v4) ∧ ∃ p : Regrown, w'' = grow (redrawn w p.d) p.os := fun dd os => Calls.regrown_of (C4 _ (below_regrown _ _ _))
 clear C4
 cases v0
 ·go_enter Tryz.func189, Tryz.ntmps189
  go_wp2_with fail
  refine wp_region_quiet_below (by kernel_rfl) (by kernel_rfl) ?_
  repeat (go_big_quiet_step (first | (with_reducible exact cC2 _ _) | (with_reducible exact cC3 _ _) | (with_reducible exact cC4 _ _)))
  refine wpQuiet_nil ?_
  intro _ hw'
  obtain ⟨⟨dq, osq⟩, hw''⟩ := hw'
  subst hw''
  have HB3 := hdn (below_regrown w dq osq)
  generalize grow (redrawn w dq) osq = w3 at HB3 ⊢
  go_wp2_with fail
  go_ret
  exact ⟨rfl, HB3.out⟩
 ·cases v1
  ·go_enter Tryz.func189, Tryz.ntmps189
   go_wp2_with fail
   refine wp_region_quiet_below (by kernel_rfl) (by kernel_rfl) ?_
   repeat (go_big_quiet_step (first | (with_reducible exact cC2 _ _) | (with_reducible exact cC3 _ _) | (with_reducible exact cC4 _ _)))
   refine wpQuiet_nil ?_
   intro _ hw'
   obtain ⟨⟨dq, osq⟩, hw''⟩ := hw'
   subst hw''
   have HB3 := hdn (below_regrown w dq osq)
   generalize grow (redrawn w dq) osq = w3 at HB3 ⊢
   go_wp2_with fail
   go_ret
   exact ⟨rfl, HB3.out⟩
  ·cases v2
   ·go_enter Tryz.func189, Tryz.ntmps189
    go_wp2_with fail
    refine wp_region_quiet_below (by kernel_rfl) (by kernel_rfl) ?_
    repeat (go_big_quiet_step (first | (with_reducible exact cC2 _ _) | (with_reducible exact cC3 _ _) | (with_reducible exact cC4 _ _)))
    refine wpQuiet_nil ?_
    intro _ hw'
    obtain ⟨⟨dq, osq⟩, hw''⟩ := hw'
    subst hw''
    have HB3 := hdn (below_regrown w dq osq)
    generalize grow (redrawn w dq) osq = w3 at HB3 ⊢
    go_wp2_with fail
    go_ret
    exact ⟨rfl, HB3.out⟩
   ·cases v3
    ·go_enter Tryz.func189, Tryz.ntmps189
     go_wp2_with fail
     refine wp_region_quiet_below (by kernel_rfl) (by kernel_rfl) ?_
     repeat (go_big_quiet_step (first | (with_reducible exact cC2 _ _) | (with_reducible exact cC3 _ _) | (with_reducible exact cC4 _ _)))
     refine wpQuiet_nil ?_
     intro _ hw'
     obtain ⟨⟨dq, osq⟩, hw''⟩ := hw'
     subst hw''
     have HB3 := hdn (below_regrown w dq osq)
     generalize grow (redrawn w dq) osq = w3 at HB3 ⊢
     go_wp2_with fail
     go_ret
     exact ⟨rfl, HB3.out⟩
    ·cases v4
     ·go_enter Tryz.func189, Tryz.ntmps189
      go_wp2_with fail
      refine wp_region_quiet_below (by kernel_rfl) (by kernel_rfl) ?_
      repeat (go_big_quiet_step (first | (with_reducible exact cC2 _ _) | (with_reducible exact cC3 _ _) | (with_reducible exact cC4 _ _)))
      refine wpQuiet_nil ?_
      intro _ hw'
      obtain ⟨⟨dq, osq⟩, hw''⟩ := hw'
      subst hw''
      have HB3 := hdn (below_regrown w dq osq)
      generalize grow (redrawn w dq) osq = w3 at HB3 ⊢
      go_wp2_with fail
      go_ret
      exact ⟨rfl, HB3.out⟩
     ·go_enter Tryz.func189, Tryz.ntmps189
      go_wp2_with fail
      refine wp_region_quiet_below (by kernel_rfl) (by kernel_rfl) ?_
      repeat (go_big_quiet_step (first | (with_reducible exact cC2 _ _) | (with_reducible exact cC3 _ _) | (with_reducible exact cC4 _ _)))
      refine wpQuiet_nil ?_
      intro _ hw'
      obtain ⟨⟨dq, osq⟩, hw''⟩ := hw'
      subst hw''
      have HB3 := hdn (below_regrown w dq osq)
      generalize grow (redrawn w dq) osq = w3 at HB3 ⊢
      go_wp2_with fail
      go_ret
      exact ⟨rfl, HB3.out⟩
def cdLies (w : World) (x : Cd) : Prop := vlLies w x.left ∧ vlLies w x.right
theorem condS_any (x y : Cd) (b1 q1 b2 q2 : Nat) (w : World) (hx : w.rangeAt b1 q1 (Cd.cells x)) (hy : w.rangeAt b2 q2 (Cd.cells y)) (rx : cdLies w x) (ry : cdLies w y) :
  Calls Tryz.prog 190 #[.pointer (some ⟨b1, q1, none⟩), .pointer (some ⟨b2, q2, none⟩)] w fun en w' => en = .returned (.bool (sameCd x y)) ∧ Below w.heap.size w w' := by
 have cx0 := cell_at hx 0 _ rfl
 have cy0 := cell_at hy 0 _ rfl
 rw [Nat.add_zero] at cx0 cy0
 have kx0 := cell_regrown cx0
 have ky0 := cell_regrown cy0
 have C1 : ∀ w', Below w.heap.size w w' → Calls Tryz.prog 189 #[.pointer (some ⟨b1, q1 + 2, none⟩), .pointer (some ⟨b2, q2 + 2, none⟩)] w' fun en w'' => en = .returned (.bool (sameVl x.left y.left)) ∧ Below w'.heap.size w' w'' := fun w' hb =>
  valueS_any _ _ _ _ _ _ w' (rangeAt_below (rangeAt_sub hx 2 12 rfl) hb) (rangeAt_below (rangeAt_sub hy 2 12 rfl) hb) (vlLies_below rx.1 hb) (vlLies_below ry.1 hb)
 have C2 : ∀ w', Below w.heap.size w w' → Calls Tryz.prog 189 #[.pointer (some ⟨b1, q1 + 14, none⟩), .pointer (some ⟨b2, q2 + 14, none⟩)] w' fun en w'' => en = .returned (.bool (sameVl x.right y.right)) ∧ Below w'.heap.size w' w'' := fun w' hb =>
  valueS_any _ _ _ _ _ _ w' (rangeAt_below (rangeAt_sub hx 14 12 rfl) hb) (rangeAt_below (rangeAt_sub hy 14 12 rfl) hb) (vlLies_below rx.2 hb) (vlLies_below ry.2 hb)
 show Calls _ _ _ _ (fun en w' => en = .returned (.bool ((x.kind == y.kind) && (sameVl x.left y.left && (sameVl x.right y.right)))) ∧ Below w.heap.size w w')
 generalize e0 : (x.kind == y.kind) = v0
 generalize sameVl x.left y.left = v1 at C1 ⊢
 generalize sameVl x.right y.right = v2 at C2 ⊢
 clear hx hy rx ry
 have cC1 : ∀ dd os, Calls Tryz.prog 189 #[.pointer (some ⟨b1, q1 + 2, none⟩), .pointer (some ⟨b2, q2 + 2, none⟩)] (grow (redrawn w dd) os) fun en w'' => en = .returned (.bool v1) ∧ ∃ p : Regrown, w'' = grow (redrawn w p.d) p.os := fun dd os => Calls.regrown_of (C1 _ (below_regrown _ _ _))
 clear C1
 have cC2 : ∀ dd os, Calls Tryz.prog 189 #[.pointer (some ⟨b1, q1 + 14, none⟩), .pointer (some ⟨b2, q2 + 14, none⟩)] (grow (redrawn w dd) os) fun en w'' => en = .returned (.bool v2) ∧ ∃ p : Regrown, w'' = grow (redrawn w p.d) p.os := fun dd os => Calls.regrown_of (C2 _ (below_regrown _ _ _))
 clear C2
 cases v0
 ·go_enter Tryz.func190, Tryz.ntmps190
  go_wp2_with fail
  refine wp_region_quiet_below (by kernel_rfl) (by kernel_rfl) ?_
  repeat (go_big_quiet_step (first | (with_reducible exact cC1 _ _) | (with_reducible exact cC2 _ _)))
  refine wpQuiet_nil ?_
  intro _ hw'
  obtain ⟨⟨dq, osq⟩, hw''⟩ := hw'
  subst hw''
  have HB3 := hdn (below_regrown w dq osq)
  generalize grow (redrawn w dq) osq = w3 at HB3 ⊢
  go_wp2_with fail
  go_ret
  exact ⟨rfl, HB3.out⟩
 ·cases v1
  ·go_enter Tryz.func190, Tryz.ntmps190
   go_wp2_with fail
   refine wp_region_quiet_below (by kernel_rfl) (by kernel_rfl) ?_
   repeat (go_big_quiet_step (first | (with_reducible exact cC1 _ _) | (with_reducible exact cC2 _ _)))
   refine wpQuiet_nil ?_
   intro _ hw'
   obtain ⟨⟨dq, osq⟩, hw''⟩ := hw'
   subst hw''
   have HB3 := hdn (below_regrown w dq osq)
   generalize grow (redrawn w dq) osq = w3 at HB3 ⊢
   go_wp2_with fail
   go_ret
   exact ⟨rfl, HB3.out⟩
  ·cases v2
   ·go_enter Tryz.func190, Tryz.ntmps190
    go_wp2_with fail
    refine wp_region_quiet_below (by kernel_rfl) (by kernel_rfl) ?_
    repeat (go_big_quiet_step (first | (with_reducible exact cC1 _ _) | (with_reducible exact cC2 _ _)))
    refine wpQuiet_nil ?_
    intro _ hw'
    obtain ⟨⟨dq, osq⟩, hw''⟩ := hw'
    subst hw''
    have HB3 := hdn (below_regrown w dq osq)
    generalize grow (redrawn w dq) osq = w3 at HB3 ⊢
    go_wp2_with fail
    go_ret
    exact ⟨rfl, HB3.out⟩
   ·go_enter Tryz.func190, Tryz.ntmps190
    go_wp2_with fail
    refine wp_region_quiet_below (by kernel_rfl) (by kernel_rfl) ?_
    repeat (go_big_quiet_step (first | (with_reducible exact cC1 _ _) | (with_reducible exact cC2 _ _)))
    refine wpQuiet_nil ?_
    intro _ hw'
    obtain ⟨⟨dq, osq⟩, hw''⟩ := hw'
    subst hw''
    have HB3 := hdn (below_regrown w dq osq)
    generalize grow (redrawn w dq) osq = w3 at HB3 ⊢
    go_wp2_with fail
    go_ret
    exact ⟨rfl, HB3.out⟩
end Go.Proofs.YtdlchhimkelinaaGreatDoor
namespace Go.Proofs.YtdlchhimkelinaaGreatDoor
open Go.RowKit Go.Sort
theorem enters83 : ∀ args w, (callFunc 204 args).run Tryz.prog w = .ok (.enter 204 args) w := enters Tryz.func204 (by kernel_rfl) rfl
/-- What is asked of the function that says whether two items are the same. -/
def OkVl (x y : Vl) : Prop := ∀ (b1 q1 b2 q2 : Nat) (w : World), w.rangeAt b1 q1 (Vl.cells x) → w.rangeAt b2 q2 (Vl.cells y) → vlLies w x → vlLies w y →
 Calls Tryz.prog 189 #[.pointer (some ⟨b1, q1, none⟩), .pointer (some ⟨b2, q2, none⟩)] w fun en w' => en = .returned (.bool (sameVl x y)) ∧ Below w.heap.size w w'
theorem cloFVl (i : Int) (b1 q1 bs bb : Nat) (w : World) :
  Calls Tryz.prog 204 #[.bool false, .int .i64 i, .pointer (some ⟨b1, q1, none⟩), .pointer (some ⟨bs, 0, none⟩), .pointer (some ⟨bb, 0, none⟩)] w fun en w' => en = .returned (.bool false) ∧ Below w.heap.size w w' := by
 go_enter Tryz.func204, Tryz.ntmps204
 go_wp2_with fail
 go_quiet (fail)
 go_wp2_with fail
 go_ret
 exact ⟨rfl, below_drewN_ (Below.refl _ _) _⟩
theorem cloTVl (v : Bool) (k n c b1 q1 b2 o2 bs bb : Nat) (w : World) (hk : k < n)
  (hs : w.cell? ⟨bs, 0, none⟩ = some (.func (.func 189) #[] #[])) (hb : w.cell? ⟨bb, 0, none⟩ = some (.slice (some ⟨b2, o2, none⟩) n c))
  (hS : ∀ w', Below w.heap.size w w' → Calls Tryz.prog 189 #[.pointer (some ⟨b1, q1, none⟩), .pointer (some ⟨b2, o2 + k * 12, none⟩)] w' fun en w'' => en = .returned (.bool v) ∧ Below w'.heap.size w' w'') :
  Calls Tryz.prog 204 #[.bool true, .int .i64 k, .pointer (some ⟨b1, q1, none⟩), .pointer (some ⟨bs, 0, none⟩), .pointer (some ⟨bb, 0, none⟩)] w fun en w' => en = .returned (.bool v) ∧ Below w.heap.size w w' := by
 have cS : ∀ dd os, Calls Tryz.prog 189 #[.pointer (some ⟨b1, q1, none⟩), .pointer (some ⟨b2, o2 + k * 12, none⟩)] (grow (redrawn w dd) os) fun en w'' => en = .returned (.bool v) ∧ ∃ p : Regrown, w'' = grow (redrawn w p.d) p.os :=
  fun dd os => Calls.regrown_of (hS _ (below_regrown _ _ _))
 have ks := cell_regrown hs
 have kb := cell_regrown hb
 have hk0 : (0 : Int) ≤ (k : Int) := Int.natCast_nonneg _
 have hk1 : (k : Int) < (n : Int) := by omega
 clear hS hs hb
 go_enter Tryz.func204, Tryz.ntmps204
 go_wp2_with fail
 refine wp_region_quiet_below (by kernel_rfl) (by kernel_rfl) ?_
 repeat (go_big_quiet_step (with_reducible exact cS _ _))
 refine wpQuiet_nil ?_
 intro _ hw'
 obtain ⟨⟨dq, osq⟩, hw''⟩ := hw'
 subst hw''
 have HB3 := hdn (below_regrown w dq osq)
 generalize grow (redrawn w dq) osq = w3 at HB3 ⊢
 go_wp2_with fail
 go_ret
 exact ⟨rfl, HB3.out⟩
theorem foldVl (l m : List Vl) (p1 p2 : Option Addr) (c1 c2 bs bb : Nat) (w : World) (h1 : Lay 12 Vl.cells vlLies w p1 l) (h2 : Lay 12 Vl.cells vlLies w p2 m)
  (hs : w.cell? ⟨bs, 0, none⟩ = some (.func (.func 189) #[] #[])) (hb : w.cell? ⟨bb, 0, none⟩ = some (.slice p2 m.length c2)) (hS : ∀ x ∈ l, ∀ y ∈ m, OkVl x y) :
  Calls Tryz.prog 203 #[.slice p1 l.length c1, .bool ((l.length : Int) == (m.length : Int)), .func (.func 204) #[] #[.pointer (some ⟨bs, 0, none⟩), .pointer (some ⟨bb, 0, none⟩)]] w fun en w' => en = .returned (.bool (sameL sameVl l m)) ∧ Below w.heap.size w w' := by
 obtain ⟨hl1, h1⟩ := h1
 obtain ⟨_, h2⟩ := h2
 have H1 := hdn h1
 have H2 := hdn h2
 have HS := hdn hS
 have HBS := hdn hs
 have HBB := hdn hb
 clear h1 h2 hS hs hb
 by_cases he : l.length = m.length
 ·have heq : ((l.length : Int) == (m.length : Int)) = true := by rw [he]; simp
  rw [heq]
  have HE := hdn he
  clear he heq
  go_enter Tryz.func203, Tryz.ntmps203
  go_wp2_with fail
  go_loopw [1, 10] (fun v i wr => ∃ k : Nat, i = .int .i64 k ∧ k ≤ l.length ∧ v = .bool (sameL sameVl (l.take k) (m.take k)) ∧ Hid (Below w.heap.size w wr)) (fun _ i _ => l.length - (intOf i).toNat)
  case atStart => exact ⟨0, rfl, Nat.zero_le _, rfl, hdn (Below.refl _ _)⟩
  case round =>
   obtain ⟨k, rfl, hk, rfl, HB⟩ := hrel
   by_cases hkl : k < l.length
   ·have hkm : k < m.length := by have := HE.out; omega
    obtain ⟨b1, o1, rfl, hx⟩ : ∃ b o, p1 = some ⟨b, o, none⟩ ∧ ∀ k x, l[k]? = some x → w.rangeAt b (o + k * 12) (Vl.cells x) ∧ vlLies w x := by
     rcases H1.out with h | h
     ·rw [h] at hkl; simp at hkl
     ·exact h
    obtain ⟨b2, o2, rfl, hy⟩ : ∃ b o, p2 = some ⟨b, o, none⟩ ∧ ∀ k x, m[k]? = some x → w.rangeAt b (o + k * 12) (Vl.cells x) ∧ vlLies w x := by
     rcases H2.out with h | h
     ·rw [h] at hkm; simp at hkm
     ·exact h
    have hx1 := hx k l[k] (List.getElem?_eq_getElem hkl)
    have hy1 := hy k m[k] (List.getElem?_eq_getElem hkm)
    have hSS : ∀ w', Below wr.heap.size wr w' → Calls Tryz.prog 189 #[.pointer (some ⟨b1, o1 + k * 12, none⟩), .pointer (some ⟨b2, o2 + k * 12, none⟩)] w' fun en w'' => en = .returned (.bool (sameVl l[k] m[k])) ∧ Below w'.heap.size w' w'' := fun w' hb' =>
     have hb2 := HB.out.trans (hb'.mono HB.out.size)
     HS.out l[k] (List.getElem_mem _) m[k] (List.getElem_mem _) _ _ _ _ w' (rangeAt_below hx1.1 hb2) (rangeAt_below hy1.1 hb2) (vlLies_below hx1.2 hb2) (vlLies_below hy1.2 hb2)
    have hst := sameL_step (f := sameVl) k hkl hkm
    generalize sameVl l[k] m[k] = vb at hSS hst
    have HSS := hdn hSS
    have HST := hdn hst
    have HCT : Hid (Calls Tryz.prog 204 #[.bool true, .int .i64 k, .pointer (some ⟨b1, o1 + k * 12, none⟩), .pointer (some ⟨bs, 0, none⟩), .pointer (some ⟨bb, 0, none⟩)] wr fun en w' => en = .returned (.bool vb) ∧ Below wr.heap.size wr w') :=
     hdn (cloTVl vb k m.length c2 b1 (o1 + k * 12) b2 o2 bs bb wr hkm ((HB.out.cell (p := ⟨bs, 0, none⟩) (World.block_lt_of_cell? w _ HBS.out)).trans HBS.out) ((HB.out.cell (p := ⟨bb, 0, none⟩) (World.block_lt_of_cell? w _ HBB.out)).trans HBB.out) HSS.out)
    have hcl := enters83
    clear hx hy hx1 hy1 hSS hst
    generalize sameL sameVl (l.take k) (m.take k) = sb at HST ⊢
    cases sb
    ·go_wp2_with fail
     refine (cloFVl _ _ _ _ _ _).mono ?_; rintro en w2 ⟨rfl, hb2⟩
     have HB2 : Hid (Below w.heap.size w w2) := hdn (HB.out.trans (hb2.mono HB.out.size))
     clear hb2
     go_wp2_with fail
     go_roundw
     case rel => exact ⟨k + 1, by go_num, by omega, by rw [HST.out]; rfl, HB2⟩
     case measure => simp [intOf]; omega
    ·go_wp2_with fail
     refine (HCT.out).mono ?_; rintro en w2 ⟨rfl, hb2⟩
     have HB2 : Hid (Below w.heap.size w w2) := hdn (HB.out.trans (hb2.mono HB.out.size))
     clear hb2
     go_wp2_with fail
     go_roundw
     case rel => exact ⟨k + 1, by go_num, by omega, by rw [HST.out]; rfl, HB2⟩
     case measure => simp [intOf]; omega
   ·have h1 : l.take k = l := List.take_of_length_le (by omega)
    have h2 : m.take k = m := List.take_of_length_le (by have := HE.out; omega)
    rw [h1, h2]
    clear h1 h2
    go_wp2_with fail
    go_ret
    exact ⟨rfl, HB.out⟩
 ·have heq : ((l.length : Int) == (m.length : Int)) = false := by
   rw [Bool.eq_false_iff]; intro e; rw [beq_iff_eq] at e; exact he (by omega)
  rw [heq, sameL_len he]
  clear he heq
  go_enter Tryz.func203, Tryz.ntmps203
  go_wp2_with fail
  go_loopw [1, 10] (fun v i wr => ∃ k : Nat, i = .int .i64 k ∧ k ≤ l.length ∧ v = .bool false ∧ Hid (Below w.heap.size w wr)) (fun _ i _ => l.length - (intOf i).toNat)
  case atStart => exact ⟨0, rfl, Nat.zero_le _, rfl, hdn (Below.refl _ _)⟩
  case round =>
   obtain ⟨k, rfl, hk, rfl, HB⟩ := hrel
   by_cases hkl : k < l.length
   ·obtain ⟨b1, o1, rfl, hx⟩ : ∃ b o, p1 = some ⟨b, o, none⟩ ∧ ∀ k x, l[k]? = some x → w.rangeAt b (o + k * 12) (Vl.cells x) ∧ vlLies w x := by
     rcases H1.out with h | h
     ·rw [h] at hkl; simp at hkl
     ·exact h
    have hcl := enters83
    clear hx
    go_wp2_with fail
    refine (cloFVl _ _ _ _ _ _).mono ?_; rintro en w2 ⟨rfl, hb2⟩
    have HB2 : Hid (Below w.heap.size w w2) := hdn (HB.out.trans (hb2.mono HB.out.size))
    clear hb2
    go_wp2_with fail
    go_roundw
    case rel => exact ⟨k + 1, by go_num, by omega, rfl, HB2⟩
    case measure => simp [intOf]; omega
   ·go_wp2_with fail
    go_ret
    exact ⟨rfl, HB.out⟩
theorem allVl (l m : List Vl) (p1 p2 : Option Addr) (c1 c2 : Nat) (w : World) (h1 : Lay 12 Vl.cells vlLies w p1 l) (h2 : Lay 12 Vl.cells vlLies w p2 m) (hS : ∀ x ∈ l, ∀ y ∈ m, OkVl x y) :
  Calls Tryz.prog 191 #[.slice p1 l.length c1, .slice p2 m.length c2, .func (.func 189) #[] #[]] w fun en w' => en = .returned (.bool (sameL sameVl l m)) ∧ Below w.heap.size w w' := by
 have ha : Below w.heap.size w ((w.alloc (.cells #[.slice p2 m.length c2] 52)).alloc (.cells #[.func (.func 189) #[] #[]] 211)) := ((Below.refl _ _).alloc (Nat.le_refl _) _).alloc (by simp) _
 have HF := hdn (foldVl l m p1 p2 c1 c2 (w.heap.size + 1) w.heap.size ((w.alloc (.cells #[.slice p2 m.length c2] 52)).alloc (.cells #[.func (.func 189) #[] #[]] 211)) (h1.below ha (fun _ h => vlLies_below h ha)) (h2.below ha (fun _ h => vlLies_below h ha))
  (cell_of_row _ _ 0 _ _ _ (heap_alloc2_new w _ _)) (cell_of_row _ _ 0 _ _ _ (heap_alloc2_old w _ _)) hS)
 have HA := hdn ha
 have hl1 := h1.1
 have hl2 := h2.1
 clear ha h1 h2 hS
 go_enter Tryz.func191, Tryz.ntmps191
 go_wp2_with fail
 refine (HF.out).mono ?_; rintro en w2 ⟨rfl, hb2⟩
 have HB2 : Hid (Below w.heap.size w w2) := hdn (HA.out.trans (hb2.mono HA.out.size))
 clear hb2
 go_wp2_with fail
 go_ret
 exact ⟨rfl, HB2.out⟩
theorem okVl (x y : Vl) : OkVl x y := fun b1 q1 b2 q2 w hx hy rx ry => valueS_any x y b1 q1 b2 q2 w hx hy rx ry
end Go.Proofs.YtdlchhimkelinaaGreatDoor
