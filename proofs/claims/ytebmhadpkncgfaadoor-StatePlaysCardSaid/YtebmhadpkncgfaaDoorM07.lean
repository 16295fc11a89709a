/-
  The document's fails. The document's Begin. The document's Right, of a state that is right. The walks of the document's has, number, operand, word, pointer, operandText. The walks of the document's has and word. The walk of the document's Right. The walk of the document's Right: a test. The walk of 
-/
import Derived.Test.YtebmhadpkncgfaaDoorM06
import Derived.Test.YtebmhadpkncgfaaDoorM04
import Derived.Deep.RegionWith
import Derived.IntWalk
import Derived.Deep.CutRange
set_option maxHeartbeats 40000000
set_option maxRecDepth 100000
namespace Go.Proofs.YtebmhadpkncgfaaDoor
open Go.RowKit Go.Maps
open Aw.Ac (Acn Opd)
/-- A state of its own, and an event. -/
def DoP (w : World) (s : SV) (ev : Array Value) (e : Ending) (w' : World) : Prop := ∃ t : SV, e = .returned (.tuple #[.agg t.A, .agg ev]) ∧ Sal s t ∧ Lv w w' t ∧ RowKit.Below w.heap.size w w'
theorem results_two {fn : Func} {p u : Tmp} (h : fn.results = #[.cell p 33, .cell u 37]) {tmps : Array Value} {w : World} {g k : Nat} {cs ds : Array Value} (hp : tmps.getD p undef = .pointer (some ⟨g, 0, none⟩)) (hu : tmps.getD u undef = .pointer (some ⟨k, 0, none⟩)) (hz : cs.size = 4) (hy : ds.size = 3) (hg : Bk w g 33 cs) (hk : Bk w k 37 ds) :
    (results fn tmps).run Tryd.prog w = .ok (.tuple #[.agg cs, .agg ds]) w := by
  have hp' : tmps[p]?.getD undef = .pointer (some ⟨g, 0, none⟩) := by simpa using hp
  have hu' : tmps[u]?.getD undef = .pointer (some ⟨k, 0, none⟩) := by simpa using hu
  simp [results, h, hp', hu', asAddr, run_loadVar_row w g 33 33 cs (0, 0) _ hg Tryd.underlying33 rfl (by rw [hz]; exact size33), run_loadVar_row w k 37 37 ds (0, 0) _ hk Tryd.underlying37 rfl (by rw [hy]; exact size37)]
theorem Gr.s4' {w w' : World} {S : Nat → Prop} {C : Nat} (h : Gr w w' S) (hC : S C) (x y z u : Value) : Gr w ((((w'.setCell ⟨C, 0, none⟩ x).setCell ⟨C, 1, none⟩ y).setCell ⟨C, 2, none⟩ z).setCell ⟨C, 3, none⟩ u) S :=
  (((h.setCell (p := ⟨C, 0, none⟩) (fun _ => hC) x).setCell (p := ⟨C, 1, none⟩) (fun _ => hC) y).setCell (p := ⟨C, 2, none⟩) (fun _ => hC) z).setCell (p := ⟨C, 3, none⟩) (fun _ => hC) u
theorem alloc4 (w : World) (a b c d : Obj) : RowKit.Below w.heap.size w ((((w.alloc a).alloc b).alloc c).alloc d) := ((alloc2_below w a b).trans ((alloc2_below _ c d).mono (by simp; omega)))
theorem fails_any (F : Nat) (s : SV) (a : Acn) (n : Int) (w : World) (hl : s.lies w) (hv : s.vs.length ≤ 2000000) (hi : s.is.length ≤ 2000000) (hn : s.rs.length ≤ 2000000) (hlen : ∀ r ∈ s.rs, r.c.to.length = F) (hF : F ≤ 2000000) : Calls Tryd.prog 28 #[.agg s.A, .agg a.cs, .int .i64 n] w (DoP w s (evA 3 a.pl n)) := by
  obtain ⟨w1, hw1⟩ : ∃ w1, (w.alloc (.cells s.A 33)).alloc (.cells a.cs 43) = w1 := ⟨_, rfl⟩
  obtain ⟨w2, hw2⟩ : ∃ w2, (w1.alloc (.cells (stA 0 none 0 0 none 0 0 none 0 0) 33)).alloc (.cells (evA 0 0 0) 37) = w2 := ⟨_, rfl⟩
  have e1 : w1.heap.size = w.heap.size + 2 := by rw [← hw1]; simp
  have k1 : Bk w1 w.heap.size 33 s.A := by rw [← hw1]; exact alloc2_old _ _ _ _
  have k2 : Bk w1 (w.heap.size + 1) 43 a.cs := by rw [← hw1]; exact alloc2_new _ _ _ _
  have b12 : RowKit.Below w1.heap.size w1 w2 := by rw [← hw2]; exact alloc2_below _ _ _
  have K1 := k1.below b12 k1.lt
  have K2 := k2.below b12 k2.lt
  have K3 : Bk w2 (w.heap.size + 1 + 1) 33 (stA 0 none 0 0 none 0 0 none 0 0) := by rw [← hw2, ← e1]; exact alloc2_old _ _ _ _
  have K4 : Bk w2 (w.heap.size + 1 + 1 + 1) 37 (evA 0 0 0) := by have := alloc2_new w1 (.cells (stA 0 none 0 0 none 0 0 none 0 0) 33) (evA 0 0 0) 37; rw [hw2, e1] at this; exact this
  have HR3 := hdn K3
  have HR4 := hdn K4
  have HB : Hid (RowKit.Below w.heap.size w w2) := hdn (by rw [← hw2, ← hw1]; exact alloc4 _ _ _ _ _)
  have HZ : Hid (w2.heap.size = w.heap.size + 4) := hdn (by rw [← hw2]; simp [e1])
  have HC : Hid (∀ wz, RowKit.Below w2.heap.size w2 wz → Calls Tryd.prog 21 #[.agg s.A] wz fun e w' => ∃ t : SV, e = .returned (.agg #[.int .i64 t.pt, .slice t.vp t.vs.length t.vc, .slice t.ip t.is.length t.ic, .slice t.cp t.rs.length t.cc]) ∧ Sal s t ∧ Lv wz w' t ∧ RowKit.Below wz.heap.size wz w') := hdn (fun wz (hz : RowKit.Below w2.heap.size w2 wz) => own21_any F s wz ((hl.below HB.out).below hz) hv hi hn hlen hF)
  have HS0 : ∀ w', Gr w2 w' (fun i => i = w.heap.size + 2 ∨ i = w.heap.size + 1 + 1 + 1) → Bk w' w.heap.size 33 s.A ∧ Bk w' (w.heap.size + 1) 43 a.cs := fun w' hg => ⟨hg.bk K1 (by omega), hg.bk K2 (by omega)⟩
  have HS : Hid (∀ w', Gr w2 w' (fun i => i = w.heap.size + 2 ∨ i = w.heap.size + 1 + 1 + 1) → w'.cell? ⟨w.heap.size, 0, none⟩ = some (.int .i64 s.pt) ∧ w'.cell? ⟨w.heap.size, 1, none⟩ = some (.slice s.vp s.vs.length s.vc) ∧ w'.cell? ⟨w.heap.size, 2, none⟩ = some (.slice s.ip s.is.length s.ic) ∧ w'.cell? ⟨w.heap.size, 3, none⟩ = some (.slice s.cp s.rs.length s.cc) ∧ w'.cell? ⟨w.heap.size + 1, 5, none⟩ = some (.int .i64 a.pl)) := hdn (fun w' hg => by
    obtain ⟨p0, p1⟩ := HS0 w' hg
    exact ⟨p0.cell 0, p0.cell 1, p0.cell 2, p0.cell 3, p1.cell 5⟩)
  have HW : Hid ((((w.alloc (.cells s.A 33)).alloc (.cells a.cs 43)).alloc (.cells #[.int .i64 0, .slice none 0 0, .slice none 0 0, .slice none 0 0] 33)).alloc (.cells #[.int .i64 0, .int .i64 0, .int .i64 0] 37) = w2) := hdn (by rw [← hw2, ← hw1]; rfl)
  have K0 : Gr w2 w2 (fun i => i = w.heap.size + 2 ∨ i = w.heap.size + 1 + 1 + 1) := Gr.refl _ _
  have KB : Hid (RowKit.Below w2.heap.size w2 w2.drew) := hdn (below_drew (Below.refl _ _))
  have HSA : Hid (s.A = #[.int .i64 s.pt, .slice s.vp s.vs.length s.vc, .slice s.ip s.is.length s.ic, .slice s.cp s.rs.length s.cc]) := hdn rfl
  rw [HSA.out] at HC
  clear HS0 K1 K2 K3 K4 hw1 hw2 e1 k1 k2 b12 hl hlen
  go_enter Tryd.func28, Tryd.ntmps28
  go_upto_region 1 with fail
  rw [HW.out]
  clear HW
  go_region_held3 (fun w' => w'.cell? ⟨w.heap.size, 0, none⟩ = some (.int .i64 s.pt) ∧ w'.cell? ⟨w.heap.size, 1, none⟩ = some (.slice s.vp s.vs.length s.vc) ∧ w'.cell? ⟨w.heap.size, 2, none⟩ = some (.slice s.ip s.is.length s.ic) ∧ w'.cell? ⟨w.heap.size, 3, none⟩ = some (.slice s.cp s.rs.length s.cc) ∧ w'.cell? ⟨w.heap.size + 1, 5, none⟩ = some (.int .i64 a.pl))
    (first | with_reducible exact HS.out _ K0.drew | with_reducible exact HS.out _ K0 | with_reducible exact HS.out _ K3 | with_reducible exact HS.out _ (Gr.s4' K3 (.inl rfl) _ _ _ _) | with_reducible exact HS.out _ (Gr.s3 K3 (.inr rfl) _ _ _) | with_reducible exact HS.out _ (Gr.s3 (Gr.s4' K3 (.inl rfl) _ _ _ _) (.inr rfl) _ _ _) | with_reducible exact HS.out _ (Gr.s4' (Gr.s3 K3 (.inr rfl) _ _ _) (.inl rfl) _ _ _ _) | fail) (first
    | (go_at_call 21; refine (HC.out _ KB.out).mono ?_; rintro e w3 ⟨t, rfl, hs3, hv3, hb3⟩; have HT := hdn hs3; have HV := hdn hv3; have HB3 := hdn (KB.out.trans (hb3.mono KB.out.size)); have K3 : Gr w2 w3 (fun i => i = w.heap.size + 2 ∨ i = w.heap.size + 1 + 1 + 1) := Gr.of_below HB3.out; have HE3 := hdn (HR3.out.below HB3.out HR3.out.lt); have HE4 := hdn (HR4.out.below HB3.out HR4.out.lt); have z0 : w3.cell? ⟨w.heap.size + 1 + 1, 0, none⟩ = some (.int .i64 0) := HE3.out.cell 0; have z1 : w3.cell? ⟨w.heap.size + 1 + 1, 1, none⟩ = some (.slice none 0 0) := HE3.out.cell 1; have z2 : w3.cell? ⟨w.heap.size + 1 + 1, 2, none⟩ = some (.slice none 0 0) := HE3.out.cell 2; have z3 : w3.cell? ⟨w.heap.size + 1 + 1, 3, none⟩ = some (.slice none 0 0) := HE3.out.cell 3; have f0 := HE3.out.frozen 0; have f1 := HE3.out.frozen 1; have f2 := HE3.out.frozen 2; have f3 := HE3.out.frozen 3; have y0 : w3.cell? ⟨w.heap.size + 1 + 1 + 1, 0, none⟩ = some (.int .i64 0) := HE4.out.cell 0; have y1 : w3.cell? ⟨w.heap.size + 1 + 1 + 1, 1, none⟩ = some (.int .i64 0) := HE4.out.cell 1; have y2 : w3.cell? ⟨w.heap.size + 1 + 1 + 1, 2, none⟩ = some (.int .i64 0) := HE4.out.cell 2; have x0 := HE4.out.frozen 0; have x1 := HE4.out.frozen 1; have x2 := HE4.out.frozen 2; clear hs3 hv3 hb3)
    | fail)
  go_wp2_with fail
  have q1 := (gr3 ((((w3.setCell ⟨w.heap.size + 1 + 1, 0, none⟩ (.int .i64 t.pt)).setCell ⟨w.heap.size + 1 + 1, 1, none⟩ (.slice t.vp t.vs.length t.vc)).setCell ⟨w.heap.size + 1 + 1, 2, none⟩ (.slice t.ip t.is.length t.ic)).setCell ⟨w.heap.size + 1 + 1, 3, none⟩ (.slice t.cp t.rs.length t.cc)) (w.heap.size + 1 + 1 + 1) (.int .i64 3) (.int .i64 a.pl) (.int .i64 n))
  have q2 : Gr w3 ((((w3.setCell ⟨w.heap.size + 1 + 1, 0, none⟩ (.int .i64 t.pt)).setCell ⟨w.heap.size + 1 + 1, 1, none⟩ (.slice t.vp t.vs.length t.vc)).setCell ⟨w.heap.size + 1 + 1, 2, none⟩ (.slice t.ip t.is.length t.ic)).setCell ⟨w.heap.size + 1 + 1, 3, none⟩ (.slice t.cp t.rs.length t.cc)) (fun i => i = w.heap.size + 1 + 1) := Gr.s4' (S := fun i => i = w.heap.size + 1 + 1) (Gr.refl _ _) (C := w.heap.size + 1 + 1) rfl _ _ _ _
  have q3 := Gr.of_grown q1
  have q4 := q3.bk (set4 HE3.out (.int .i64 t.pt) (.slice t.vp t.vs.length t.vc) (.slice t.ip t.is.length t.ic) (.slice t.cp t.rs.length t.cc)) (by simp)
  have q5 := bk3 (q2.bk HE4.out (by omega)) (.int .i64 3) (.int .i64 a.pl) (.int .i64 n)
  have hz := HZ.out
  have hg : Gr w3 _ (fun i => i = w.heap.size + 1 + 1 ∨ i = w.heap.size + 1 + 1 + 1) := (q2.mono (fun _ _ h => .inl h)).trans (q3.mono (fun k _ h => .inr (by injection h)))
  refine bodyPost_ret (results_two Tryd.results28 rfl rfl rfl rfl q4 q5) rfl ⟨t, rfl, HT.out, fun w9 h9 => HV.out w9 ((hg.mono (fun k _ h => ?_)).trans (h9.mono (fun k _ h => ?_))), ?_⟩
  · have := KB.out.size; omega
  · have := KB.out.size; omega
  · exact HB.out.trans (HB3.out.mono HB.out.size) |>.trans (hg.below (N := w.heap.size) (by have := HB.out.size; have := HB3.out.size; omega) (fun k h => by omega))
end Go.Proofs.YtebmhadpkncgfaaDoor
namespace Go.Proofs.YtebmhadpkncgfaaDoor
open Go.RowKit Go.Maps Go.Sort
open Aw.Ac (Acn Opd)
theorem beg_fin7 {g : GR} {w W : World} {C a b : Nat} {A : Act} (hb : RowKit.Below w.heap.size w W) (h : Bk W C 33 (stA g.st (some ⟨a, 0, none⟩) g.V g.V (some ⟨b, 0, none⟩) g.I g.I none 0 0)) (ha : Bk W a 3 (ints (zeros g.V)).toArray) (hi : Bk W b 3 (ints (zeros g.I)).toArray)
    (hp : A.tmps.getD 2 undef = .pointer (some ⟨C, 0, none⟩)) (hd : A.defers = []) : bodyPost Tryd.prog Tryd.f7 (BegP g w) Exit.ret A W :=
  bodyPost_ret (results_cell_row Tryd.results7 _ W C 33 _ (0, 0) _ hp h Tryd.underlying33 rfl size33) hd (beg_end hb ha hi)
theorem begin7_any (g : GR) (w : World) (hg : Gok g) : Calls Tryd.prog 7 #[.agg g.cs] w (BegP g w) := by
  have hmV : ∀ w, (Instr.makeSlice 28 (.int .i64 (max 0 (min (g.V : Int) 24))) (.int .i64 (max 0 (min (g.V : Int) 24)))).run Tryd.prog w = .ok (.slice (some ⟨w.heap.size, 0, none⟩) g.V g.V) (w.alloc (.cells (ints (zeros g.V)).toArray 3)) := fun w => by
    have e : max 0 (min (g.V : Int) 24) = g.V := by have := hg.V; omega
    rw [e]; exact make44 g.V w (by have := hg.V; omega)
  have hmI : ∀ w, (Instr.makeSlice 28 (.int .i64 (max 0 (min (g.I : Int) 24))) (.int .i64 (max 0 (min (g.I : Int) 24)))).run Tryd.prog w = .ok (.slice (some ⟨w.heap.size, 0, none⟩) g.I g.I) (w.alloc (.cells (ints (zeros g.I)).toArray 3)) := fun w => by
    have e : max 0 (min (g.I : Int) 24) = g.I := by have := hg.I; omega
    rw [e]; exact make44 g.I w (by have := hg.I; omega)
  have hv1 : (g.V : Int) ≤ 24 := by have := hg.V; omega
  have hi1 : (g.I : Int) ≤ 24 := by have := hg.I; omega
  have hv0 : (0 : Int) ≤ (g.V : Int) := Int.natCast_nonneg _
  have hi0 : (0 : Int) ≤ (g.I : Int) := Int.natCast_nonneg _
  obtain ⟨w1, hw1⟩ : ∃ w1, w1 = (w.alloc (.cells g.cs 30)).alloc (.cells (stA 0 none 0 0 none 0 0 none 0 0) 33) := ⟨_, rfl⟩
  have HB1 : Below w.heap.size w w1 := by rw [hw1]; exact alloc2_below _ _ _
  have HG : Bk w1 w.heap.size 30 g.cs := by rw [hw1]; exact alloc2_old _ _ _ _
  have HR : Hid (Bk w1 (w.heap.size + 1) 33 (stA 0 none 0 0 none 0 0 none 0 0)) := hdn (by rw [hw1]; exact alloc2_new _ _ _ _)
  have hs1 : w1.heap.size = w.heap.size + 1 + 1 := by rw [hw1]; simp
  have HS : Hid (∀ w', Gr w1 w' (fun k => k = w.heap.size + 1) → G10 g w.heap.size w') := hdn (fun w' hb => G10.gr HG (by omega) hb)
  have HW : Hid ((w.alloc (.cells g.cs 30)).alloc (.cells #[.int .i64 0, .slice none 0 0, .slice none 0 0, .slice none 0 0] 33) = w1) := hdn hw1.symm
  obtain ⟨pts, st, en, ea, ed, hd, V, I, S, fp, F, fc⟩ := g
  simp only [GR.cs, G10] at HS HW HG ⊢
  simp only at hmV hmI hv1 hi1 hv0 hi0
  clear hw1 hg HG
  go_enter Tryd.func7, Tryd.ntmps7
  go_upto_region 1 with fail
  rw [HW.out]
  have HB10 := fun k : Nat => Gr.refl w1 (fun i => i = k + 1)
  clear HW
  have hbw : Below w.heap.size w w1 := HB1
  generalize hGG : w.heap.size = G at *
  replace HB10 : Gr w1 w1 (fun k => k = G + 1) := HB10 G
  obtain ⟨d0, d1, d2, d3, f0, f1, f2, f3⟩ := Z4.of HR.out
  obtain ⟨c0, c1, c2, c3, c4, c5, c6, c7, c8, c9⟩ := HS.out w1 HB10
  go_region_held3 (fun w' => w'.cell? ⟨G, 0, none⟩ = some (.int .i64 pts) ∧ w'.cell? ⟨G, 1, none⟩ = some (.int .i64 st) ∧ w'.cell? ⟨G, 2, none⟩ = some (.int .i64 en) ∧ w'.cell? ⟨G, 3, none⟩ = some (.int .i64 ea) ∧ w'.cell? ⟨G, 4, none⟩ = some ed ∧ w'.cell? ⟨G, 5, none⟩ = some hd ∧
  w'.cell? ⟨G, 6, none⟩ = some (.int .i64 V) ∧ w'.cell? ⟨G, 7, none⟩ = some (.int .i64 I) ∧ w'.cell? ⟨G, 8, none⟩ = some (.int .i64 S) ∧ w'.cell? ⟨G, 9, none⟩ = some (.slice fp F fc))
   (first | with_reducible exact Hid.out HS _ (Gr.drew HB10) | with_reducible exact Hid.out HS _ (Gr.drew (Gr.alloc HB10 _)) | with_reducible exact Hid.out HS _ (Gr.drew (Gr.alloc (Gr.alloc HB10 _) _)) | with_reducible exact Hid.out HS _ (Gr.drew (Gr.alloc (Gr.alloc (Gr.alloc HB10 _) _) _)) | with_reducible exact Hid.out HS _ (Gr.drew (Gr.alloc (Gr.alloc (Gr.alloc (Gr.alloc HB10 _) _) _) _)) | with_reducible exact Hid.out HS _ (Gr.drew (Gr.s4 HB10 _ _ _ _)) | with_reducible exact Hid.out HS _ (Gr.drew (Gr.alloc (Gr.s4 HB10 _ _ _ _) _)) | with_reducible exact Hid.out HS _ (Gr.drew (Gr.alloc (Gr.alloc (Gr.s4 HB10 _ _ _ _) _) _)) | with_reducible exact Hid.out HS _ (Gr.drew (Gr.alloc (Gr.alloc (Gr.alloc (Gr.s4 HB10 _ _ _ _) _) _) _)) | with_reducible exact Hid.out HS _ (Gr.drew (Gr.alloc (Gr.alloc (Gr.alloc (Gr.alloc (Gr.s4 HB10 _ _ _ _) _) _) _) _)) | with_reducible exact Hid.out HS _ HB10 | with_reducible exact Hid.out HS _ (Gr.alloc HB10 _) | with_reducible exact Hid.out HS _ (Gr.alloc (Gr.alloc HB10 _) _) | with_reducible exact Hid.out HS _ (Gr.alloc (Gr.alloc (Gr.alloc HB10 _) _) _) | with_reducible exact Hid.out HS _ (Gr.alloc (Gr.alloc (Gr.alloc (Gr.alloc HB10 _) _) _) _) | with_reducible exact Hid.out HS _ (Gr.s4 HB10 _ _ _ _) | with_reducible exact Hid.out HS _ (Gr.alloc (Gr.s4 HB10 _ _ _ _) _) | with_reducible exact Hid.out HS _ (Gr.alloc (Gr.alloc (Gr.s4 HB10 _ _ _ _) _) _) | with_reducible exact Hid.out HS _ (Gr.alloc (Gr.alloc (Gr.alloc (Gr.s4 HB10 _ _ _ _) _) _) _) | with_reducible exact Hid.out HS _ (Gr.alloc (Gr.alloc (Gr.alloc (Gr.alloc (Gr.s4 HB10 _ _ _ _) _) _) _) _) | fail) (fail)
  all_goals
    go_wp2_with fail
    refine beg_fin7 (g := ⟨pts, st, en, ea, ed, hd, V, I, S, fp, F, fc⟩) (C := G + 1) ?_ (Bk.drewN (n := 1) (Bk.al (Bk.al (set4 HR.out _ _ _ _) _) _)) ?_ ?_ rfl rfl
    · rw [hGG]
      exact hbw.trans (Gr.below (N := G) (((Gr.s4 HB10 _ _ _ _).alloc _).alloc _).drew (by omega) (fun k h => by omega))
    · refine Bk.drewN (n := 1) ?_
      repeat' (first | (with_reducible refine Bk.new' ?_; simp [hs1]; done) | with_reducible apply Bk.al)
    · refine Bk.drewN (n := 1) ?_
      repeat' (first | (with_reducible refine Bk.new' ?_; simp [hs1]; done) | with_reducible apply Bk.al)
end Go.Proofs.YtebmhadpkncgfaaDoor
namespace Go.Proofs.YtebmhadpkncgfaaDoor
open Go.RowKit Go.Maps
open Aw.Ac (Acn Opd)
theorem Rt.cal {g : GR} {s : SV} {rs : List RC} (h : Rt g s) (e : rs.map RC.c = Go.Proofs.YtebmhadpkncgfaaDoor.loaded g.F s.rs) : rs.map RC.c = s.rs.map RC.c := by rw [e, h.loaded]; rfl
theorem Rt.lens {g : GR} {s : SV} (h : Rt g s) : ∀ r ∈ s.rs, r.c.to.length = g.F := fun _ hr => h.len hr
theorem map_lens {rs l : List RC} {F : Nat} (e : rs.map RC.c = l.map RC.c) (h : ∀ r ∈ l, r.c.to.length = F) : ∀ r ∈ rs, r.c.to.length = F := fun r hr => by
  have h1 : r.c ∈ l.map RC.c := by rw [← e]; exact List.mem_map.2 ⟨r, hr, rfl⟩
  obtain ⟨r2, h2, h3⟩ := List.mem_map.1 h1
  rw [← h3]; exact h r2 h2
theorem map_len {rs l : List RC} (e : rs.map RC.c = l.map RC.c) : rs.length = l.length := by have := congrArg List.length e; simpa using this
theorem right22_any (g : GR) (s : SV) (w : World) (hg : Gok g) (hs : Rt g s) (hl : s.lies w) : Calls Tryd.prog 22 #[.agg g.cs, .agg s.A] w (RetV w (.bool true)) := by
  obtain ⟨w2, hw2⟩ : ∃ w2, (w.alloc (.cells g.cs 30)).alloc (.cells s.A 33) = w2 := ⟨_, rfl⟩
  have HX : Hid (Bx w w2 g s) := hdn (by rw [← hw2]; exact Bx.start w g s)
  have HW := hdn hw2
  have HL : Hid (s.lies w2) := hdn (hl.below HX.out.below)
  have HRt := hdn hs
  have HG := hdn hg
  have HLO : Hid (∀ wz, RowKit.Below w2.heap.size w2 wz → Calls Tryd.prog 24 #[.slice g.fp g.F g.fc, .slice s.cp s.rs.length s.cc] wz fun e w' => ∃ (p : Option Addr) (cc : Nat) (rs : List RC), e = .returned (.agg #[.int .i64 g.F, .slice p rs.length cc, .bool true]) ∧ rs.map RC.c = s.rs.map RC.c ∧ LayR 3 RC.cells RC.lies w' p rs ∧ RowKit.Below wz.heap.size wz w') := hdn (fun wz hz => by
    refine (refLoad_any g.F g.fc s.cc g.fp s.cp s.rs wz (HL.out.c.below hz (fun x h => RC.lies_below' h hz)) hg.F hs.n).mono ?_
    rintro e w' ⟨v, N, rfl, h1, h2, h3⟩
    have hok : ∀ c ∈ Go.Proofs.YtebmhadpkncgfaaDoor.loaded g.F s.rs, c.ok := by rw [hs.loaded]; exact SV.oks HL.out
    obtain ⟨p, cc, rs, rfl, e1, h4⟩ := Out.lay h1 hok
    exact ⟨p, cc, rs, rfl, HRt.out.cal e1, h4 w' (Gr.refl _ _), h3⟩)
  have HSM : Hid (∀ (p : Option Addr) (cc : Nat) (rs : List RC) (wz : World), RowKit.Below w2.heap.size w2 wz → rs.map RC.c = s.rs.map RC.c → LayR 3 RC.cells RC.lies wz p rs → Calls Tryd.prog 20 #[.slice p rs.length cc, .slice s.cp s.rs.length s.cc] wz (RetV wz (.bool true))) := hdn (fun p cc rs wz hz e h => by
    have h1 := same20_any p s.cp rs s.rs cc s.cc wz ⟨h, HL.out.c.below hz (fun x h => RC.lies_below' h hz), e⟩ (by rw [map_len e]; exact hs.n) (fun r hr => by rw [map_lens e hs.lens r hr]; exact hg.F)
    rw [map_len e] at h1 ⊢
    exact h1)
  obtain ⟨⟨c0, c1, c2, c3, c4, c5, c6, c7, c8, c9⟩, ⟨s0, s1, s2, s3⟩⟩ := HX.out.cells (RowKit.Below.refl _ _)
  have e1 : decide (s.pt < 0) = false := decide_eq_false (by have := hs.pt; omega)
  have e2 : decide (g.pts ≤ s.pt) = false := decide_eq_false (by have := hs.pt; omega)
  have e3 : ((s.vs.length : Int) != (g.V : Int)) = false := by have := hs.vl; simp; omega
  have e4 : ((s.is.length : Int) != (g.I : Int)) = false := by have := hs.il; simp; omega
  have hvn : s.vs.length ≤ 2000000 := by have := hs.vl; have := hg.V; omega
  have hrn : s.rs.length ≤ 2000000 := hs.n
  clear hw2 hl hs hg
  go_enter Tryd.func22, Tryd.ntmps22
  go_upto_region 1 with fail
  rw [HW.out]
  go_wp2_with fail
  clear c0 c1 c2 c3 c4 c5 c6 c7 c8 c9 s0 s1 s2 s3 e1 e2 e3 e4
  have HB0 : Hid (RowKit.Below w2.heap.size w2 w2) := hdn (RowKit.Below.refl _ _)
  go_loopw [5] (fun t wr => ∃ k : Nat, t = .int .i64 k ∧ k ≤ s.vs.length ∧ Hid (RowKit.Below w2.heap.size w2 wr)) (fun t _ => s.vs.length - (intOf t).toNat)
  case atStart => exact ⟨0, rfl, Nat.zero_le _, HB0⟩
  case round =>
    obtain ⟨k, rfl, hk, HB⟩ := hrel
    obtain ⟨_, ⟨_, s1, _, s3⟩⟩ := HX.out.cells HB.out
    by_cases hkl : k < s.vs.length
    · obtain ⟨v, hv⟩ : ∃ v, s.vs[k]? = some v := ⟨_, List.getElem?_eq_getElem hkl⟩
      have hb := HRt.out.vs v (List.mem_of_getElem? hv)
      obtain ⟨b, o, hp, hc⟩ := (HL.out.v.below HB.out).at_ hv
      rw [hp] at s1
      have d1 : decide (v < 0) = false := decide_eq_false (by omega)
      have d2 : decide ((s.rs.length : Int) < v) = false := decide_eq_false (by omega)
      have hk0 : (0 : Int) ≤ (k : Int) := Int.natCast_nonneg _
      have hk1 : (k : Int) < (s.vs.length : Int) := by omega
      clear hv hb hp
      go_wp2_with fail
      go_quiet (fail)
      go_wp2_with fail
      go_roundw
      case rel => exact ⟨k + 1, by go_num, by omega, hdn (below_drewN_ HB.out _)⟩
      case measure => simp [intOf]; omega
    · go_wp2_with fail
      clear s1 s3
      go_loopw [6] (fun t wr => ∃ k : Nat, t = .int .i64 k ∧ k ≤ s.rs.length ∧ Hid (RowKit.Below w2.heap.size w2 wr)) (fun t _ => s.rs.length - (intOf t).toNat)
      case atStart => exact ⟨0, rfl, Nat.zero_le _, HB⟩
      case round =>
        obtain ⟨j, rfl, hj, HJ⟩ := hrel
        obtain ⟨⟨_, _, _, _, _, _, _, _, c8, c9⟩, ⟨_, _, _, s3⟩⟩ := HX.out.cells HJ.out
        by_cases hjl : j < s.rs.length
        · obtain ⟨r, hr⟩ : ∃ r, s.rs[j]? = some r := ⟨_, List.getElem?_eq_getElem hjl⟩
          have hb := HRt.out.ty r (List.mem_of_getElem? hr)
          obtain ⟨b, o, hp, hit, _⟩ := (HL.out.c.below HJ.out (fun x h => RC.lies_below' h HJ.out)).at_ hr
          have a0 : wr.cell? ⟨b, o + j * 3, none⟩ = some (.int .i64 r.c.ty) := hit 0 _ rfl
          rw [hp] at s3
          generalize r.c.ty = v at hb a0
          have d1 : decide (v < 0) = false := decide_eq_false (by omega)
          have d2 : decide (g.S ≤ v) = false := decide_eq_false (by omega)
          have hj0 : (0 : Int) ≤ (j : Int) := Int.natCast_nonneg _
          have hj1 : (j : Int) < (s.rs.length : Int) := by omega
          clear hr hb hp hit c9
          go_wp2_with fail
          go_quiet (fail)
          go_wp2_with fail
          go_roundw
          case rel => exact ⟨j + 1, by go_num, by omega, hdn (below_drewN_ HJ.out _)⟩
          case measure => simp [intOf]; omega
        · have HS : Hid (∀ w', RowKit.Below wr.heap.size wr w' → w'.cell? ⟨w.heap.size, 9, none⟩ = some (.slice g.fp g.F g.fc) ∧ w'.cell? ⟨w.heap.size + 1, 3, none⟩ = some (.slice s.cp s.rs.length s.cc)) := hdn (fun w' hb => ⟨at_below hb c9, at_below hb s3⟩)
          have K0 : RowKit.Below wr.heap.size wr wr := RowKit.Below.refl _ _
          have K1 : Hid (RowKit.Below wr.heap.size wr wr.drew) := hdn (below_drew K0)
          have HD : Hid (RowKit.Below w2.heap.size w2 wr.drew) := hdn (HJ.out.trans (K1.out.mono HJ.out.size))
          have hfd := field59_1 (.int .i64 g.F) (.bool true)
          clear c8
          go_wp2_with fail
          go_region_held3 (fun w' => w'.cell? ⟨w.heap.size, 9, none⟩ = some (.slice g.fp g.F g.fc) ∧ w'.cell? ⟨w.heap.size + 1, 3, none⟩ = some (.slice s.cp s.rs.length s.cc))
            (first | with_reducible exact HS.out _ K1.out | with_reducible exact HS.out _ K0 | with_reducible exact HS.out _ K3 | with_reducible exact HS.out _ K4 | fail) (first
            | (go_at_call 24; refine (HLO.out _ HD.out).mono ?_; rintro e w3 ⟨p, cc, rs, rfl, hrs, hly, hb3⟩; have K3 : RowKit.Below wr.heap.size wr w3 := K1.out.trans (hb3.mono K1.out.size); have HRS := hdn hrs; have HLY := hdn hly; clear hrs hly hb3)
            | (go_at_call 20; refine (HSM.out p cc rs w3 (HJ.out.trans (K3.mono HJ.out.size)) HRS.out HLY.out).mono ?_; rintro e w4 ⟨rfl, hb4⟩; have K4 : RowKit.Below wr.heap.size wr w4 := K3.trans (hb4.mono K3.size); clear hb4)
            | fail)
          go_wp2_with fail
          go_ret
          exact ⟨rfl, HX.out.below.trans ((HJ.out.trans (K4.mono HJ.out.size)).mono HX.out.below.size)⟩
end Go.Proofs.YtebmhadpkncgfaaDoor
namespace Go.Proofs.YtebmhadpkncgfaaDoor
namespace Aw
open Go.RowKit Go.Sort
open Ac
theorem size39 : (Tryd.prog.info? 109).map (·.size) = some 8 := by kernel_rfl
/-- What a kind has, by value. -/
def hcs (h : Bool × Bool × Bool × Bool × Bool × Bool × Bool × Bool) : Array Value := #[.bool h.1, .bool h.2.1, .bool h.2.2.1, .bool h.2.2.2.1, .bool h.2.2.2.2.1, .bool h.2.2.2.2.2.1, .bool h.2.2.2.2.2.2.1, .bool h.2.2.2.2.2.2.2]
theorem hcs_one (h : Bool × Bool × Bool × Bool × Bool × Bool × Bool × Bool) : (hcs h).all (·.oneCell') = true := by simp [hcs, Value.oneCell']
theorem numb_any (n lim : Int) (w : World) : Calls Tryd.prog 71 #[.int .i64 n, .int .i64 lim] w fun e w' => e = .returned (.bool (numB n lim)) ∧ w = w' := by
  by_cases h1 : 0 ≤ n
  · by_cases h2 : n < lim
    · have HR : Hid (numB n lim = true) := hdn (by unfold numB; simp [h1, h2])
      go_enter Tryd.func71, Tryd.ntmps71
      go_wp2_with fail
      go_ret
      exact ⟨lret_bool HR.out.symm, rfl⟩
    · have HR : Hid (numB n lim = false) := hdn (by unfold numB; simp [h2])
      go_enter Tryd.func71, Tryd.ntmps71
      go_wp2_with fail
      go_ret
      exact ⟨lret_bool HR.out.symm, rfl⟩
  · have HR : Hid (numB n lim = false) := hdn (by unfold numB; simp [h1])
    go_enter Tryd.func71, Tryd.ntmps71
    go_wp2_with fail
    go_ret
    exact ⟨lret_bool HR.out.symm, rfl⟩
theorem operb_any (o : Opd) (w : World) : Calls Tryd.prog 72 #[.agg #[.int .i64 o.v, .int .i64 o.n]] w fun e w' => e = .returned (.bool (operB o)) ∧ Below w.heap.size w w' := by
  obtain ⟨v, n⟩ := o
  obtain ⟨wA, hwA⟩ : ∃ wA : World, wA = w.alloc (.cells #[.int .i64 v, .int .i64 n] 41) := ⟨_, rfl⟩
  have HBA : Hid (Below w.heap.size w wA) := hdn (by rw [hwA]; exact (Below.refl _ _).alloc (Nat.le_refl _) _)
  have HK : Hid (Bk wA w.heap.size 41 #[.int .i64 v, .int .i64 n]) := hdn (by rw [hwA]; exact heap_alloc_new _ _)
  have c0 : wA.cell? ⟨w.heap.size, 0, none⟩ = some (.int .i64 v) := HK.out.cell 0
  have c1 : wA.cell? ⟨w.heap.size, 1, none⟩ = some (.int .i64 n) := HK.out.cell 1
  by_cases hv : v = -1
  · have d1 : (v == -1) = true := by rw [beq_iff_eq]; exact hv
    have HR : Hid (operB ⟨v, n⟩ = (decide (0 ≤ n) && decide (n ≤ 999999999))) := hdn (by unfold operB; rw [if_pos hv])
    clear hv
    by_cases h1 : 0 ≤ n
    · have HR2 : Hid (operB ⟨v, n⟩ = decide (n ≤ 999999999)) := hdn (by rw [HR.out]; simp [h1])
      go_enter Tryd.func72, Tryd.ntmps72
      go_upto_region 1 with fail
      rw [← hwA]
      clear hwA
      go_wp2_with fail
      all_goals
        go_ret
        exact ⟨lret_bool HR2.out.symm, HBA.out⟩
    · have HR2 : Hid (operB ⟨v, n⟩ = false) := hdn (by rw [HR.out]; simp [h1])
      go_enter Tryd.func72, Tryd.ntmps72
      go_upto_region 1 with fail
      rw [← hwA]
      clear hwA
      go_wp2_with fail
      go_ret
      exact ⟨lret_bool HR2.out.symm, HBA.out⟩
  · have d1 : (v == -1) = false := by rw [beq_eq_false_iff_ne]; exact hv
    have HR : Hid (operB ⟨v, n⟩ = (numB v 24 && decide (n = 0))) := hdn (by unfold operB; rw [if_neg hv])
    have CN := hdn (fun w => numb_any v 24 w)
    clear hv
    generalize numB v 24 = b at *
    cases b
    · have HR2 : Hid (operB ⟨v, n⟩ = false) := hdn (by rw [HR.out]; rfl)
      go_enter Tryd.func72, Tryd.ntmps72
      go_upto_region 1 with fail
      rw [← hwA]
      clear hwA
      go_wp2_with (go_at_call 71; refine (CN.out _).mono ?_; rintro e w1 ⟨rfl, rfl⟩)
      go_ret
      exact ⟨lret_bool HR2.out.symm, HBA.out⟩
    · have HR2 : Hid (operB ⟨v, n⟩ = (n == 0)) := hdn (by rw [HR.out]; rfl)
      go_enter Tryd.func72, Tryd.ntmps72
      go_upto_region 1 with fail
      rw [← hwA]
      clear hwA
      go_wp2_with (go_at_call 71; refine (CN.out _).mono ?_; rintro e w1 ⟨rfl, rfl⟩)
      go_ret
      exact ⟨lret_bool HR2.out.symm, HBA.out⟩
end Aw
end Go.Proofs.YtebmhadpkncgfaaDoor
namespace Go.Proofs.YtebmhadpkncgfaaDoor
namespace Aw
open Go.RowKit Go.Sort
open Ac
def hz : Array Value := hcs (false, false, false, false, false, false, false, false)
theorem has_any (a : Acn) (w : World) : Calls Tryd.prog 70 #[.agg a.cs] w fun e w' => e = .returned (.agg (hcs (hasOf a.kind a.op))) ∧ Below w.heap.size w w' := by
  obtain ⟨wB, hwB⟩ : ∃ wB : World, wB = (w.alloc (.cells a.cs 43)).alloc (.cells hz 109) := ⟨_, rfl⟩
  have hsz : (w.alloc (.cells a.cs 43)).heap.size = w.heap.size + 1 := by simp
  have HBB : Hid (Below w.heap.size w wB) := hdn (by rw [hwB]; exact ((Below.refl _ _).alloc (Nat.le_refl _) _).alloc (by rw [hsz]; omega) _)
  have HKB : Hid (Bk wB w.heap.size 43 a.cs) := hdn (by
    rw [hwB]
    have h1 : Bk (w.alloc (.cells a.cs 43)) w.heap.size 43 a.cs := heap_alloc_new _ _
    exact h1.below ((Below.refl _ _).alloc (Nat.le_refl _) _) (by rw [hsz]; omega))
  have HKR : Hid (Bk wB (w.heap.size + 1) 109 hz) := hdn (by rw [hwB, ← hsz]; exact heap_alloc_new _ _)
  have hwB' : (w.alloc (.cells a.cs 43)).alloc (.cells #[.bool false, .bool false, .bool false, .bool false, .bool false, .bool false, .bool false, .bool false] 109) = wB := hwB.symm
  have HWB := hdn hwB'
  have c0 : wB.cell? ⟨w.heap.size, 0, none⟩ = some (.int .i64 a.kind) := HKB.out.cell 0
  have c6 : wB.cell? ⟨w.heap.size, 6, none⟩ = some (.int .i64 a.op) := HKB.out.cell 6
  clear hwB hwB' hsz
  generalize a.op = op at *
  generalize a.kind = k at *
  have hc : k = 0 ∨ k = 1 ∨ k = 2 ∨ k = 3 ∨ k = 4 ∨ k = 5 ∨ k = 6 ∨ k = 7 ∨ k = 8 ∨ k = 9 ∨ k = 10 ∨ k = 11 ∨ k = 12 ∨ ((k == 1) = false ∧ (k == 2) = false ∧ (k == 3) = false ∧ (k == 4) = false ∧ (k == 5) = false ∧ (k == 6) = false ∧ (k == 7) = false ∧ (k == 8) = false ∧ (k == 9) = false ∧ (k == 10) = false ∧ (k == 11) = false ∧ (k == 12) = false) := by
    simp only [beq_eq_false_iff_ne]; omega
  rcases hc with rfl | rfl | rfl | rfl | rfl | rfl | rfl | rfl | rfl | rfl | rfl | rfl | rfl | ⟨h1, h2, h3, h4, h5, h6, h7, h8, h9, h10, h11, h12⟩
  · have HE : Hid (Ending.returned (.agg (hcs (false, false, false, false, false, false, false, false))) = .returned (.agg (hcs (hasOf 0 op)))) := hdn (by rfl)
    go_enter Tryd.func70, Tryd.ntmps70
    go_upto_region 1 with fail
    rw [HWB.out]
    clear HWB
    go_wp2_with (first
      | ((with_reducible show wpList _ _ _ (Oper.mk _ (Op.store 109 _ _) _ _ _ _ :: _) _ _); refine wpList_store_bk rfl 109 _ _ rfl (w.heap.size + 1) 109 _ (hcs (false, false, false, false, false, false, false, false)) rfl rfl HKR.out size39 rfl (hcs_one _) ?_; intro w3 hk3 hg3; have HK3 := hdn hk3; have HG3 := hdn hg3; clear hk3 hg3))
    exact bodyPost_ret (results_cell_row Tryd.results70 _ w3 (w.heap.size + 1) 109 _ (0, 0) _ rfl HK3.out Tryd.underlying109 rfl size39) rfl ⟨HE.out, HBB.out.trans (below_of_grown HG3.out (by omega) HBB.out.size)⟩
  · have HE : Hid (Ending.returned (.agg (hcs (true, false, false, false, false, false, false, false))) = .returned (.agg (hcs (hasOf 1 op)))) := hdn (by rfl)
    go_enter Tryd.func70, Tryd.ntmps70
    go_upto_region 1 with fail
    rw [HWB.out]
    clear HWB
    go_wp2_with (first
      | ((with_reducible show wpList _ _ _ (Oper.mk _ (Op.store 109 _ _) _ _ _ _ :: _) _ _); refine wpList_store_bk rfl 109 _ _ rfl (w.heap.size + 1) 109 _ (hcs (true, false, false, false, false, false, false, false)) rfl rfl HKR.out size39 rfl (hcs_one _) ?_; intro w3 hk3 hg3; have HK3 := hdn hk3; have HG3 := hdn hg3; clear hk3 hg3))
    exact bodyPost_ret (results_cell_row Tryd.results70 _ w3 (w.heap.size + 1) 109 _ (0, 0) _ rfl HK3.out Tryd.underlying109 rfl size39) rfl ⟨HE.out, HBB.out.trans (below_of_grown HG3.out (by omega) HBB.out.size)⟩
  · have HE : Hid (Ending.returned (.agg (hcs (true, true, false, false, false, false, false, false))) = .returned (.agg (hcs (hasOf 2 op)))) := hdn (by rfl)
    go_enter Tryd.func70, Tryd.ntmps70
    go_upto_region 1 with fail
    rw [HWB.out]
    clear HWB
    go_wp2_with (first
      | ((with_reducible show wpList _ _ _ (Oper.mk _ (Op.store 109 _ _) _ _ _ _ :: _) _ _); refine wpList_store_bk rfl 109 _ _ rfl (w.heap.size + 1) 109 _ (hcs (true, true, false, false, false, false, false, false)) rfl rfl HKR.out size39 rfl (hcs_one _) ?_; intro w3 hk3 hg3; have HK3 := hdn hk3; have HG3 := hdn hg3; clear hk3 hg3))
    exact bodyPost_ret (results_cell_row Tryd.results70 _ w3 (w.heap.size + 1) 109 _ (0, 0) _ rfl HK3.out Tryd.underlying109 rfl size39) rfl ⟨HE.out, HBB.out.trans (below_of_grown HG3.out (by omega) HBB.out.size)⟩
  · have HE : Hid (Ending.returned (.agg (hcs (true, true, true, false, false, false, false, false))) = .returned (.agg (hcs (hasOf 3 op)))) := hdn (by rfl)
    go_enter Tryd.func70, Tryd.ntmps70
    go_upto_region 1 with fail
    rw [HWB.out]
    clear HWB
    go_wp2_with (first
      | ((with_reducible show wpList _ _ _ (Oper.mk _ (Op.store 109 _ _) _ _ _ _ :: _) _ _); refine wpList_store_bk rfl 109 _ _ rfl (w.heap.size + 1) 109 _ (hcs (true, true, true, false, false, false, false, false)) rfl rfl HKR.out size39 rfl (hcs_one _) ?_; intro w3 hk3 hg3; have HK3 := hdn hk3; have HG3 := hdn hg3; clear hk3 hg3))
    exact bodyPost_ret (results_cell_row Tryd.results70 _ w3 (w.heap.size + 1) 109 _ (0, 0) _ rfl HK3.out Tryd.underlying109 rfl size39) rfl ⟨HE.out, HBB.out.trans (below_of_grown HG3.out (by omega) HBB.out.size)⟩
  · have HE : Hid (Ending.returned (.agg (hcs (true, false, true, false, false, false, false, false))) = .returned (.agg (hcs (hasOf 4 op)))) := hdn (by rfl)
    go_enter Tryd.func70, Tryd.ntmps70
    go_upto_region 1 with fail
    rw [HWB.out]
    clear HWB
    go_wp2_with (first
      | ((with_reducible show wpList _ _ _ (Oper.mk _ (Op.store 109 _ _) _ _ _ _ :: _) _ _); refine wpList_store_bk rfl 109 _ _ rfl (w.heap.size + 1) 109 _ (hcs (true, false, true, false, false, false, false, false)) rfl rfl HKR.out size39 rfl (hcs_one _) ?_; intro w3 hk3 hg3; have HK3 := hdn hk3; have HG3 := hdn hg3; clear hk3 hg3))
    exact bodyPost_ret (results_cell_row Tryd.results70 _ w3 (w.heap.size + 1) 109 _ (0, 0) _ rfl HK3.out Tryd.underlying109 rfl size39) rfl ⟨HE.out, HBB.out.trans (below_of_grown HG3.out (by omega) HBB.out.size)⟩
  · have HE : Hid (Ending.returned (.agg (hcs (true, true, true, false, false, false, false, false))) = .returned (.agg (hcs (hasOf 5 op)))) := hdn (by rfl)
    go_enter Tryd.func70, Tryd.ntmps70
    go_upto_region 1 with fail
    rw [HWB.out]
    clear HWB
    go_wp2_with (first
      | ((with_reducible show wpList _ _ _ (Oper.mk _ (Op.store 109 _ _) _ _ _ _ :: _) _ _); refine wpList_store_bk rfl 109 _ _ rfl (w.heap.size + 1) 109 _ (hcs (true, true, true, false, false, false, false, false)) rfl rfl HKR.out size39 rfl (hcs_one _) ?_; intro w3 hk3 hg3; have HK3 := hdn hk3; have HG3 := hdn hg3; clear hk3 hg3))
    exact bodyPost_ret (results_cell_row Tryd.results70 _ w3 (w.heap.size + 1) 109 _ (0, 0) _ rfl HK3.out Tryd.underlying109 rfl size39) rfl ⟨HE.out, HBB.out.trans (below_of_grown HG3.out (by omega) HBB.out.size)⟩
  · have HE : Hid (Ending.returned (.agg (hcs (true, false, false, true, false, false, false, false))) = .returned (.agg (hcs (hasOf 6 op)))) := hdn (by rfl)
    go_enter Tryd.func70, Tryd.ntmps70
    go_upto_region 1 with fail
    rw [HWB.out]
    clear HWB
    go_wp2_with (first
      | ((with_reducible show wpList _ _ _ (Oper.mk _ (Op.store 109 _ _) _ _ _ _ :: _) _ _); refine wpList_store_bk rfl 109 _ _ rfl (w.heap.size + 1) 109 _ (hcs (true, false, false, true, false, false, false, false)) rfl rfl HKR.out size39 rfl (hcs_one _) ?_; intro w3 hk3 hg3; have HK3 := hdn hk3; have HG3 := hdn hg3; clear hk3 hg3))
    exact bodyPost_ret (results_cell_row Tryd.results70 _ w3 (w.heap.size + 1) 109 _ (0, 0) _ rfl HK3.out Tryd.underlying109 rfl size39) rfl ⟨HE.out, HBB.out.trans (below_of_grown HG3.out (by omega) HBB.out.size)⟩
  · have HE : Hid (Ending.returned (.agg (hcs (true, false, false, false, false, false, false, false))) = .returned (.agg (hcs (hasOf 7 op)))) := hdn (by rfl)
    go_enter Tryd.func70, Tryd.ntmps70
    go_upto_region 1 with fail
    rw [HWB.out]
    clear HWB
    go_wp2_with (first
      | ((with_reducible show wpList _ _ _ (Oper.mk _ (Op.store 109 _ _) _ _ _ _ :: _) _ _); refine wpList_store_bk rfl 109 _ _ rfl (w.heap.size + 1) 109 _ (hcs (true, false, false, false, false, false, false, false)) rfl rfl HKR.out size39 rfl (hcs_one _) ?_; intro w3 hk3 hg3; have HK3 := hdn hk3; have HG3 := hdn hg3; clear hk3 hg3))
    exact bodyPost_ret (results_cell_row Tryd.results70 _ w3 (w.heap.size + 1) 109 _ (0, 0) _ rfl HK3.out Tryd.underlying109 rfl size39) rfl ⟨HE.out, HBB.out.trans (below_of_grown HG3.out (by omega) HBB.out.size)⟩
  · have HE : Hid (Ending.returned (.agg (hcs (true, true, false, false, false, false, false, true))) = .returned (.agg (hcs (hasOf 8 op)))) := hdn (by rfl)
    go_enter Tryd.func70, Tryd.ntmps70
    go_upto_region 1 with fail
    rw [HWB.out]
    clear HWB
    go_wp2_with (first
      | ((with_reducible show wpList _ _ _ (Oper.mk _ (Op.store 109 _ _) _ _ _ _ :: _) _ _); refine wpList_store_bk rfl 109 _ _ rfl (w.heap.size + 1) 109 _ (hcs (true, true, false, false, false, false, false, true)) rfl rfl HKR.out size39 rfl (hcs_one _) ?_; intro w3 hk3 hg3; have HK3 := hdn hk3; have HG3 := hdn hg3; clear hk3 hg3))
    exact bodyPost_ret (results_cell_row Tryd.results70 _ w3 (w.heap.size + 1) 109 _ (0, 0) _ rfl HK3.out Tryd.underlying109 rfl size39) rfl ⟨HE.out, HBB.out.trans (below_of_grown HG3.out (by omega) HBB.out.size)⟩
  · have HE : Hid (Ending.returned (.agg (hcs (false, false, false, false, false, false, false, true))) = .returned (.agg (hcs (hasOf 9 op)))) := hdn (by rfl)
    go_enter Tryd.func70, Tryd.ntmps70
    go_upto_region 1 with fail
    rw [HWB.out]
    clear HWB
    go_wp2_with (first
      | ((with_reducible show wpList _ _ _ (Oper.mk _ (Op.store 109 _ _) _ _ _ _ :: _) _ _); refine wpList_store_bk rfl 109 _ _ rfl (w.heap.size + 1) 109 _ (hcs (false, false, false, false, false, false, false, true)) rfl rfl HKR.out size39 rfl (hcs_one _) ?_; intro w3 hk3 hg3; have HK3 := hdn hk3; have HG3 := hdn hg3; clear hk3 hg3))
    exact bodyPost_ret (results_cell_row Tryd.results70 _ w3 (w.heap.size + 1) 109 _ (0, 0) _ rfl HK3.out Tryd.underlying109 rfl size39) rfl ⟨HE.out, HBB.out.trans (below_of_grown HG3.out (by omega) HBB.out.size)⟩
  · have HE : Hid (Ending.returned (.agg (hcs (true, false, false, false, false, false, false, false))) = .returned (.agg (hcs (hasOf 10 op)))) := hdn (by rfl)
    go_enter Tryd.func70, Tryd.ntmps70
    go_upto_region 1 with fail
    rw [HWB.out]
    clear HWB
    go_wp2_with (first
      | ((with_reducible show wpList _ _ _ (Oper.mk _ (Op.store 109 _ _) _ _ _ _ :: _) _ _); refine wpList_store_bk rfl 109 _ _ rfl (w.heap.size + 1) 109 _ (hcs (true, false, false, false, false, false, false, false)) rfl rfl HKR.out size39 rfl (hcs_one _) ?_; intro w3 hk3 hg3; have HK3 := hdn hk3; have HG3 := hdn hg3; clear hk3 hg3))
    exact bodyPost_ret (results_cell_row Tryd.results70 _ w3 (w.heap.size + 1) 109 _ (0, 0) _ rfl HK3.out Tryd.underlying109 rfl size39) rfl ⟨HE.out, HBB.out.trans (below_of_grown HG3.out (by omega) HBB.out.size)⟩
  · have HE : Hid (Ending.returned (.agg (hcs (true, false, false, false, true, true, decide (0 < op), false))) = .returned (.agg (hcs (hasOf 11 op)))) := hdn (by rfl)
    go_enter Tryd.func70, Tryd.ntmps70
    go_upto_region 1 with fail
    rw [HWB.out]
    clear HWB
    go_wp2_with (first
      | ((with_reducible show wpList _ _ _ (Oper.mk _ (Op.store 109 _ _) _ _ _ _ :: _) _ _); refine wpList_store_bk rfl 109 _ _ rfl (w.heap.size + 1) 109 _ (hcs (true, false, false, false, true, true, decide (0 < op), false)) rfl rfl HKR.out size39 rfl (hcs_one _) ?_; intro w3 hk3 hg3; have HK3 := hdn hk3; have HG3 := hdn hg3; clear hk3 hg3))
    exact bodyPost_ret (results_cell_row Tryd.results70 _ w3 (w.heap.size + 1) 109 _ (0, 0) _ rfl HK3.out Tryd.underlying109 rfl size39) rfl ⟨HE.out, HBB.out.trans (below_of_grown HG3.out (by omega) HBB.out.size)⟩
  · have HE : Hid (Ending.returned (.agg (hcs (false, false, false, false, true, true, true, true))) = .returned (.agg (hcs (hasOf 12 op)))) := hdn (by rfl)
    go_enter Tryd.func70, Tryd.ntmps70
    go_upto_region 1 with fail
    rw [HWB.out]
    clear HWB
    go_wp2_with (first
      | ((with_reducible show wpList _ _ _ (Oper.mk _ (Op.store 109 _ _) _ _ _ _ :: _) _ _); refine wpList_store_bk rfl 109 _ _ rfl (w.heap.size + 1) 109 _ (hcs (false, false, false, false, true, true, true, true)) rfl rfl HKR.out size39 rfl (hcs_one _) ?_; intro w3 hk3 hg3; have HK3 := hdn hk3; have HG3 := hdn hg3; clear hk3 hg3))
    exact bodyPost_ret (results_cell_row Tryd.results70 _ w3 (w.heap.size + 1) 109 _ (0, 0) _ rfl HK3.out Tryd.underlying109 rfl size39) rfl ⟨HE.out, HBB.out.trans (below_of_grown HG3.out (by omega) HBB.out.size)⟩
  · have HE : Hid (Ending.returned (.agg hz) = .returned (.agg (hcs (hasOf k op)))) := hdn (by
      simp only [beq_eq_false_iff_ne] at h1 h2 h3 h4 h5 h6 h7 h8 h9 h10 h11 h12
      unfold hasOf
      simp [h1, h2, h3, h4, h5, h6, h7, h8, h9, h10, h11, h12]
      rfl)
    go_enter Tryd.func70, Tryd.ntmps70
    go_upto_region 1 with fail
    rw [HWB.out]
    clear HWB
    go_wp2_with (first
      | ((with_reducible show wpList _ _ _ (Oper.mk _ (Op.store 109 _ _) _ _ _ _ :: _) _ _); refine wpList_store_bk rfl 109 _ _ rfl (w.heap.size + 1) 109 _ (hcs (false, false, false, false, false, false, false, false)) rfl rfl HKR.out size39 rfl (hcs_one _) ?_; intro w3 hk3 hg3; have HK3 := hdn hk3; have HG3 := hdn hg3; clear hk3 hg3))
    exact bodyPost_ret (results_cell_row Tryd.results70 _ w3 (w.heap.size + 1) 109 _ (0, 0) _ rfl HK3.out Tryd.underlying109 rfl size39) rfl ⟨HE.out, HBB.out.trans (below_of_grown HG3.out (by omega) HBB.out.size)⟩
end Aw
end Go.Proofs.YtebmhadpkncgfaaDoor
namespace Go.Proofs.YtebmhadpkncgfaaDoor
namespace Aw
open Go.RowKit Go.Sort
open Ac
def opz (v n : Int) : Bool := decide ((⟨v, n⟩ : Opd) = ⟨0, 0⟩)
theorem eql_opd {w : World} (v n : Int) : (binOp .eql 41 (.agg #[.int .i64 v, .int .i64 n]) (.agg #[.int .i64 0, .int .i64 0])).run Tryd.prog w = .ok (.bool (opz v n)) w := by
  rw [run_eql_struct, show (10000 : Nat) = 9998 + 2 from rfl, agg_opd 9998 ⟨v, n⟩ ⟨0, 0⟩]; rfl
attribute [local go_sem ↓] eql_opd
theorem rright_out (a : Acn) (h : a.kind < 0 ∨ 12 < a.kind ∨ a.pl < 0 ∨ 65536 < a.pl) (w : World) : Calls Tryd.prog 48 #[.agg a.cs] w fun e w' => e = .returned (.bool (rRight a)) ∧ Below w.heap.size w w' := by
  have HR : Hid (rRight a = false) := hdn (by unfold rRight; rw [if_pos h])
  have HB0 : Hid (Bk (w.alloc (.cells a.cs 43)) w.heap.size 43 a.cs) := hdn (heap_alloc_new _ _)
  have c0 : (w.alloc (.cells a.cs 43)).cell? ⟨w.heap.size, 0, none⟩ = some (.int .i64 a.kind) := HB0.out.cell 0
  have c5 : (w.alloc (.cells a.cs 43)).cell? ⟨w.heap.size, 5, none⟩ = some (.int .i64 a.pl) := HB0.out.cell 5
  generalize a.kind = k at *
  generalize a.pl = p at *
  by_cases h1 : k < 0
  · clear h
    go_enter Tryd.func48, Tryd.ntmps48
    go_wp2_with fail
    go_ret
    exact ⟨lret_bool HR.out.symm, (Below.refl _ _).alloc (Nat.le_refl _) _⟩
  by_cases h2 : 12 < k
  · clear h
    go_enter Tryd.func48, Tryd.ntmps48
    go_wp2_with fail
    go_ret
    exact ⟨lret_bool HR.out.symm, (Below.refl _ _).alloc (Nat.le_refl _) _⟩
  by_cases h3 : p < 0
  · clear h
    go_enter Tryd.func48, Tryd.ntmps48
    go_wp2_with fail
    go_ret
    exact ⟨lret_bool HR.out.symm, (Below.refl _ _).alloc (Nat.le_refl _) _⟩
  have h4 : 65536 < p := by omega
  clear h
  go_enter Tryd.func48, Tryd.ntmps48
  go_wp2_with fail
  go_ret
  exact ⟨lret_bool HR.out.symm, (Below.refl _ _).alloc (Nat.le_refl _) _⟩
theorem z_of {v : Int} {b : Bool} (h : (v == 0) = b) : decide (v = 0) = b := by rw [← h]; rfl
theorem xB_f {lo x : Int} {b : Bool} (h : (x == 0) = b) : xB false lo x = b := by unfold xB; rw [z_of h]; simp
theorem xB_tt {lo x : Int} (q1 : lo ≤ x) (q2 : x < 24) : xB true lo x = true := by simp [xB, q1, q2]
theorem xB_tf {lo x : Int} (q2 : ¬ x < 24) : xB true lo x = false := by simp [xB, q2]
theorem xB_ft {lo x : Int} (q1 : ¬ lo ≤ x) : xB true lo x = false := by simp [xB, q1]
/-- What is asked behind the kind and the place. -/
def rRest (h0 h1 h2 h3 h4 h5 h6 h7 : Bool) (lo hi : Int) (a : Acn) : Bool :=
  xB h0 lo a.x && xB h1 lo a.y && fB h2 a.f 8 && fB h3 a.t 8 && fB h4 a.op hi && oB h5 a.l && oB h6 a.r && (h7 || !a.sense)
theorem rright_same (a : Acn) (h : ¬ (a.kind < 0 ∨ 12 < a.kind ∨ a.pl < 0 ∨ 65536 < a.pl)) (hk : a.kind = 8) (w : World) : Calls Tryd.prog 48 #[.agg a.cs] w fun e w' => e = .returned (.bool (rRight a)) ∧ Below w.heap.size w w' := by
  obtain ⟨q1, q2, q3, q4⟩ : ¬ a.kind < 0 ∧ ¬ 12 < a.kind ∧ ¬ a.pl < 0 ∧ ¬ 65536 < a.pl := by omega
  obtain ⟨hh, hhe⟩ : ∃ hh, hh = hasOf a.kind a.op := ⟨_, rfl⟩
  have HRR : Hid (rRight a = rRest hh.1 hh.2.1 hh.2.2.1 hh.2.2.2.1 hh.2.2.2.2.1 hh.2.2.2.2.2.1 hh.2.2.2.2.2.2.1 hh.2.2.2.2.2.2.2 (-1) 3 a) := hdn (by
    unfold rRight rRest
    rw [if_neg h, ← hhe, show Ac.leastOf a.kind = -1 by unfold Ac.leastOf; rw [if_pos hk], show Ac.mostOf a.kind = 3 by unfold Ac.mostOf; rw [if_neg (by omega)]])
  have HB0 : Hid (Bk (w.alloc (.cells a.cs 43)) w.heap.size 43 a.cs) := hdn (heap_alloc_new _ _)
  have HBA : Hid (Below w.heap.size w (w.alloc (.cells a.cs 43))) := hdn ((Below.refl _ _).alloc (Nat.le_refl _) _)
  have HLT : Hid (w.heap.size < (w.alloc (.cells a.cs 43)).heap.size) := hdn (by simp)
  have c0 : (w.alloc (.cells a.cs 43)).cell? ⟨w.heap.size, 0, none⟩ = some (.int .i64 a.kind) := HB0.out.cell 0
  have c5 : (w.alloc (.cells a.cs 43)).cell? ⟨w.heap.size, 5, none⟩ = some (.int .i64 a.pl) := HB0.out.cell 5
  have CH := hdn (has_any a (w.alloc (.cells a.cs 43)))
  rw [← hhe] at CH
  obtain ⟨h0, h1, h2, h3, h4, h5, h6, h7⟩ := hh
  clear hhe h
  go_enter Tryd.func48, Tryd.ntmps48
  go_upto_region 3 with fail
  clear c0 c5
  generalize w.alloc (.cells a.cs 43) = w1 at HB0 HBA HLT CH ⊢
  clear q1 q2 q3 q4
  go_upto_region 4 with (first
    | ((with_reducible show wpList _ _ _ (Oper.mk _ (Op.load 43 _) _ _ _ _ :: _) _ _); refine wpList_load_bk rfl 43 _ rfl w.heap.size 43 a.cs rfl _ HB0.out Tryd.underlying43 rfl size25 ?_)
    | (go_at_call 70; refine CH.out.mono ?_; rintro e wh ⟨rfl, hb⟩; have HBH := hdn hb; clear hb)
    | ((with_reducible show wpList _ _ _ (Oper.mk _ (Op.store 109 _ _) _ _ _ _ :: _) _ _); refine wpList_store_new rfl 109 _ _ rfl _ (hcs (h0, h1, h2, h3, h4, h5, h6, h7)) rfl rfl size39 rfl (hcs_one _) ?_))
  have HB2 : Hid (Below w.heap.size w (wh.alloc (.cells (hcs (h0, h1, h2, h3, h4, h5, h6, h7)) 109))) := hdn ((HBA.out.trans (HBH.out.mono HBA.out.size)).alloc (Nat.le_trans HBA.out.size HBH.out.size) _)
  have HA : Hid (Bk (wh.alloc (.cells (hcs (h0, h1, h2, h3, h4, h5, h6, h7)) 109)) w.heap.size 43 a.cs) := hdn ((HB0.out.below HBH.out HLT.out).below ((Below.refl _ _).alloc (Nat.le_refl _) _) (Nat.lt_of_lt_of_le HLT.out HBH.out.size))
  have HH : Hid (Bk (wh.alloc (.cells (hcs (h0, h1, h2, h3, h4, h5, h6, h7)) 109)) wh.heap.size 109 (hcs (h0, h1, h2, h3, h4, h5, h6, h7))) := hdn (heap_alloc_new _ _)
  generalize wh.alloc (.cells (hcs (h0, h1, h2, h3, h4, h5, h6, h7)) 109) = w2 at HB2 HA HH ⊢
  generalize wh.heap.size = g at HH ⊢
  have c0 : w2.cell? ⟨w.heap.size, 0, none⟩ = some (.int .i64 a.kind) := HA.out.cell 0
  rw [hk] at c0
  clear hk
  go_upto_region 10 with fail
  clear c0
  unfold rRest at HRR
  have c1 : w2.cell? ⟨w.heap.size, 1, none⟩ = some (.int .i64 a.x) := HA.out.cell 1
  have c2 : w2.cell? ⟨w.heap.size, 2, none⟩ = some (.int .i64 a.y) := HA.out.cell 2
  have c3 : w2.cell? ⟨w.heap.size, 3, none⟩ = some (.int .i64 a.f) := HA.out.cell 3
  have c4 : w2.cell? ⟨w.heap.size, 4, none⟩ = some (.int .i64 a.t) := HA.out.cell 4
  have c6 : w2.cell? ⟨w.heap.size, 6, none⟩ = some (.int .i64 a.op) := HA.out.cell 6
  have d0 : w2.cell? ⟨g, 0, none⟩ = some (.bool h0) := HH.out.cell 0
  have d1 : w2.cell? ⟨g, 1, none⟩ = some (.bool h1) := HH.out.cell 1
  have d2 : w2.cell? ⟨g, 2, none⟩ = some (.bool h2) := HH.out.cell 2
  have d3 : w2.cell? ⟨g, 3, none⟩ = some (.bool h3) := HH.out.cell 3
  have d4 : w2.cell? ⟨g, 4, none⟩ = some (.bool h4) := HH.out.cell 4
  go_cut [6] from 39 to 61 (fun c wx => c = .bool (xB h0 (-1) a.x) ∧ w2 = wx)
  case first =>
    cases h0
    · rcases hq : (a.x == 0) with _ | _
      · (go_wp2_with fail; go_meet; exact ⟨by rw [xB_f hq], rfl⟩)
      · (go_wp2_with fail; go_meet; exact ⟨by rw [xB_f hq], rfl⟩)
    · by_cases q1 : (-1) ≤ a.x
      · by_cases q2 : a.x < 24
        · (go_wp2_with fail; go_meet; exact ⟨by rw [xB_tt q1 q2], rfl⟩)
        · (go_wp2_with fail; go_meet; exact ⟨by rw [xB_tf (by omega)], rfl⟩)
      · (go_wp2_with fail; go_meet; exact ⟨by rw [xB_ft (by omega)], rfl⟩)
  case rest =>
  obtain ⟨rfl, rfl⟩ := hcut
  generalize xB h0 (-1) a.x = b6 at HRR ⊢
  clear c1 d0
  go_upto_region 11 with fail
  go_cut [7] from 62 to 84 (fun c wx => c = .bool (xB h1 (-1) a.y) ∧ w2 = wx)
  case first =>
    cases h1
    · rcases hq : (a.y == 0) with _ | _
      · (go_wp2_with fail; go_meet; exact ⟨by rw [xB_f hq], rfl⟩)
      · (go_wp2_with fail; go_meet; exact ⟨by rw [xB_f hq], rfl⟩)
    · by_cases q1 : (-1) ≤ a.y
      · by_cases q2 : a.y < 24
        · (go_wp2_with fail; go_meet; exact ⟨by rw [xB_tt q1 q2], rfl⟩)
        · (go_wp2_with fail; go_meet; exact ⟨by rw [xB_tf (by omega)], rfl⟩)
      · (go_wp2_with fail; go_meet; exact ⟨by rw [xB_ft (by omega)], rfl⟩)
  case rest =>
  obtain ⟨rfl, rfl⟩ := hcut
  generalize xB h1 (-1) a.y = b7 at HRR ⊢
  clear c2 d1
  go_upto_region 12 with fail
  have CN := hdn (fun w => numb_any a.f 8 w)
  have HF : Hid (fB h2 a.f 8 = ((!h2 && decide (a.f = 0)) || (h2 && numB a.f 8))) := hdn rfl
  generalize fB h2 a.f 8 = b8 at HRR HF
  generalize numB a.f 8 = nb at CN HF
  go_cut [8] from 85 to 101 (fun c wx => c = .bool b8 ∧ w2 = wx)
  case first =>
    cases h2
    · rcases hq : (a.f == 0) with _ | _
      · (go_wp2_with fail; go_meet; exact ⟨by rw [HF.out, z_of hq]; rfl, rfl⟩)
      · (go_wp2_with fail; go_meet; exact ⟨by rw [HF.out, z_of hq]; rfl, rfl⟩)
    · (go_wp2_with (go_at_call 71; refine (CN.out _).mono ?_; rintro e wn ⟨rfl, rfl⟩); go_meet; exact ⟨by rw [HF.out]; simp, rfl⟩)
  case rest =>
  obtain ⟨rfl, rfl⟩ := hcut
  clear CN HF
  clear c3 d2
  go_upto_region 13 with fail
  have CN := hdn (fun w => numb_any a.t 8 w)
  have HF : Hid (fB h3 a.t 8 = ((!h3 && decide (a.t = 0)) || (h3 && numB a.t 8))) := hdn rfl
  generalize fB h3 a.t 8 = b9 at HRR HF
  generalize numB a.t 8 = nb at CN HF
  go_cut [9] from 102 to 118 (fun c wx => c = .bool b9 ∧ w2 = wx)
  case first =>
    cases h3
    · rcases hq : (a.t == 0) with _ | _
      · (go_wp2_with fail; go_meet; exact ⟨by rw [HF.out, z_of hq]; rfl, rfl⟩)
      · (go_wp2_with fail; go_meet; exact ⟨by rw [HF.out, z_of hq]; rfl, rfl⟩)
    · (go_wp2_with (go_at_call 71; refine (CN.out _).mono ?_; rintro e wn ⟨rfl, rfl⟩); go_meet; exact ⟨by rw [HF.out]; simp, rfl⟩)
  case rest =>
  obtain ⟨rfl, rfl⟩ := hcut
  clear CN HF
  clear c4 d3
  go_upto_region 14 with fail
  have CN := hdn (fun w => numb_any a.op 3 w)
  have HF : Hid (fB h4 a.op 3 = ((!h4 && decide (a.op = 0)) || (h4 && numB a.op 3))) := hdn rfl
  generalize fB h4 a.op 3 = b10 at HRR HF
  generalize numB a.op 3 = nb at CN HF
  go_cut [10] from 119 to 136 (fun c wx => c = .bool b10 ∧ w2 = wx)
  case first =>
    cases h4
    · rcases hq : (a.op == 0) with _ | _
      · (go_wp2_with fail; go_meet; exact ⟨by rw [HF.out, z_of hq]; rfl, rfl⟩)
      · (go_wp2_with fail; go_meet; exact ⟨by rw [HF.out, z_of hq]; rfl, rfl⟩)
    · (go_wp2_with (go_at_call 71; refine (CN.out _).mono ?_; rintro e wn ⟨rfl, rfl⟩); go_meet; exact ⟨by rw [HF.out]; simp, rfl⟩)
  case rest =>
  obtain ⟨rfl, rfl⟩ := hcut
  clear CN HF
  clear c6 d4
  go_upto_region 15 with fail
  have CO := hdn (operb_any a.l w2)
  have HF : Hid (oB h5 a.l = ((!h5 && opz a.l.v a.l.n) || (h5 && operB a.l))) := hdn rfl
  generalize oB h5 a.l = b11 at HRR HF
  generalize operB a.l = ob at CO HF
  have k7 : w2.cell? ⟨w.heap.size, 7, none⟩ = some (.int .i64 a.l.v) := HA.out.cell 7
  have k7n : w2.cell? ⟨w.heap.size, 7 + 1, none⟩ = some (.int .i64 a.l.n) := HA.out.cell (7 + 1)
  have d11 : w2.cell? ⟨g, 5, none⟩ = some (.bool h5) := HH.out.cell 5
  go_cut [11] from 137 to 154 (fun c wx => c = .bool b11 ∧ Hid (Below w2.heap.size w2 wx))
  case first =>
    cases h5
    · rcases hq : opz a.l.v a.l.n with _ | _
      · (go_wp2_with fail; go_meet; exact ⟨by rw [HF.out, hq]; rfl, hdn (Below.refl _ _)⟩)
      · (go_wp2_with fail; go_meet; exact ⟨by rw [HF.out, hq]; rfl, hdn (Below.refl _ _)⟩)
    · (go_wp2_with (go_at_call 72; refine CO.out.mono ?_; rintro e wn ⟨rfl, hb⟩; have HBN := hdn hb; clear hb); go_meet; exact ⟨by rw [HF.out]; simp, HBN⟩)
  case rest =>
  obtain ⟨rfl, HBw3⟩ := hcut
  obtain ⟨w3, rfl⟩ : ∃ x, x = wc := ⟨_, rfl⟩
  clear CO HF k7 k7n d11
  have HA := hdn (HA.out.below HBw3.out HA.out.lt)
  have HH := hdn (HH.out.below HBw3.out HH.out.lt)
  go_upto_region 16 with fail
  have CO := hdn (operb_any a.r w3)
  have HF : Hid (oB h6 a.r = ((!h6 && opz a.r.v a.r.n) || (h6 && operB a.r))) := hdn rfl
  generalize oB h6 a.r = b12 at HRR HF
  generalize operB a.r = ob at CO HF
  have k9 : w3.cell? ⟨w.heap.size, 9, none⟩ = some (.int .i64 a.r.v) := HA.out.cell 9
  have k9n : w3.cell? ⟨w.heap.size, 9 + 1, none⟩ = some (.int .i64 a.r.n) := HA.out.cell (9 + 1)
  have d12 : w3.cell? ⟨g, 6, none⟩ = some (.bool h6) := HH.out.cell 6
  go_cut [12] from 155 to 172 (fun c wx => c = .bool b12 ∧ Hid (Below w3.heap.size w3 wx))
  case first =>
    cases h6
    · rcases hq : opz a.r.v a.r.n with _ | _
      · (go_wp2_with fail; go_meet; exact ⟨by rw [HF.out, hq]; rfl, hdn (Below.refl _ _)⟩)
      · (go_wp2_with fail; go_meet; exact ⟨by rw [HF.out, hq]; rfl, hdn (Below.refl _ _)⟩)
    · (go_wp2_with (go_at_call 72; refine CO.out.mono ?_; rintro e wn ⟨rfl, hb⟩; have HBN := hdn hb; clear hb); go_meet; exact ⟨by rw [HF.out]; simp, HBN⟩)
  case rest =>
  obtain ⟨rfl, HBw4⟩ := hcut
  obtain ⟨w4, rfl⟩ : ∃ x, x = wc := ⟨_, rfl⟩
  clear CO HF k9 k9n d12
  have HA := hdn (HA.out.below HBw4.out HA.out.lt)
  have HH := hdn (HH.out.below HBw4.out HH.out.lt)
  have d7 : w4.cell? ⟨g, 7, none⟩ = some (.bool h7) := HH.out.cell 7
  have c11 : w4.cell? ⟨w.heap.size, 11, none⟩ = some (.bool a.sense) := HA.out.cell 11
  have HBZ : Hid (Below w.heap.size w w4) := hdn ((HB2.out.trans (HBw3.out.mono HB2.out.size)).trans (HBw4.out.mono (Nat.le_trans HB2.out.size HBw3.out.size)))
  generalize a.sense = sn at *
  cases b6
  · go_wp2_with fail
    go_ret
    exact ⟨lret_bool (by rw [HRR.out]; simp), HBZ.out⟩
  cases b7
  · go_wp2_with fail
    go_ret
    exact ⟨lret_bool (by rw [HRR.out]; simp), HBZ.out⟩
  cases b8
  · go_wp2_with fail
    go_ret
    exact ⟨lret_bool (by rw [HRR.out]; simp), HBZ.out⟩
  cases b9
  · go_wp2_with fail
    go_ret
    exact ⟨lret_bool (by rw [HRR.out]; simp), HBZ.out⟩
  cases b10
  · go_wp2_with fail
    go_ret
    exact ⟨lret_bool (by rw [HRR.out]; simp), HBZ.out⟩
  cases b11
  · go_wp2_with fail
    go_ret
    exact ⟨lret_bool (by rw [HRR.out]; simp), HBZ.out⟩
  cases b12
  · go_wp2_with fail
    go_ret
    exact ⟨lret_bool (by rw [HRR.out]; simp), HBZ.out⟩
  cases h7
  · cases sn
    · go_wp2_with fail
      go_ret
      exact ⟨lret_bool (by rw [HRR.out]; rfl), HBZ.out⟩
    · go_wp2_with fail
      go_ret
      exact ⟨lret_bool (by rw [HRR.out]; rfl), HBZ.out⟩
  · go_wp2_with fail
    go_ret
    exact ⟨lret_bool (by rw [HRR.out]; rfl), HBZ.out⟩
end Aw
end Go.Proofs.YtebmhadpkncgfaaDoor
namespace Go.Proofs.YtebmhadpkncgfaaDoor
namespace Aw
open Go.RowKit Go.Sort
open Ac
attribute [local go_sem ↓] eql_opd
theorem rright_test (a : Acn) (h : ¬ (a.kind < 0 ∨ 12 < a.kind ∨ a.pl < 0 ∨ 65536 < a.pl)) (hk : a.kind = 12) (w : World) : Calls Tryd.prog 48 #[.agg a.cs] w fun e w' => e = .returned (.bool (rRight a)) ∧ Below w.heap.size w w' := by
  obtain ⟨q1, q2, q3, q4⟩ : ¬ a.kind < 0 ∧ ¬ 12 < a.kind ∧ ¬ a.pl < 0 ∧ ¬ 65536 < a.pl := by omega
  obtain ⟨hh, hhe⟩ : ∃ hh, hh = hasOf a.kind a.op := ⟨_, rfl⟩
  have HRR : Hid (rRight a = rRest hh.1 hh.2.1 hh.2.2.1 hh.2.2.2.1 hh.2.2.2.2.1 hh.2.2.2.2.2.1 hh.2.2.2.2.2.2.1 hh.2.2.2.2.2.2.2 (0) 2 a) := hdn (by
    unfold rRight rRest
    rw [if_neg h, ← hhe, show Ac.leastOf a.kind = 0 by unfold Ac.leastOf; rw [if_neg (by omega)], show Ac.mostOf a.kind = 2 by unfold Ac.mostOf; rw [if_pos hk]])
  have HB0 : Hid (Bk (w.alloc (.cells a.cs 43)) w.heap.size 43 a.cs) := hdn (heap_alloc_new _ _)
  have HBA : Hid (Below w.heap.size w (w.alloc (.cells a.cs 43))) := hdn ((Below.refl _ _).alloc (Nat.le_refl _) _)
  have HLT : Hid (w.heap.size < (w.alloc (.cells a.cs 43)).heap.size) := hdn (by simp)
  have c0 : (w.alloc (.cells a.cs 43)).cell? ⟨w.heap.size, 0, none⟩ = some (.int .i64 a.kind) := HB0.out.cell 0
  have c5 : (w.alloc (.cells a.cs 43)).cell? ⟨w.heap.size, 5, none⟩ = some (.int .i64 a.pl) := HB0.out.cell 5
  have CH := hdn (has_any a (w.alloc (.cells a.cs 43)))
  rw [← hhe] at CH
  obtain ⟨h0, h1, h2, h3, h4, h5, h6, h7⟩ := hh
  clear hhe h
  go_enter Tryd.func48, Tryd.ntmps48
  go_upto_region 3 with fail
  clear c0 c5
  generalize w.alloc (.cells a.cs 43) = w1 at HB0 HBA HLT CH ⊢
  clear q1 q2 q3 q4
  go_upto_region 4 with (first
    | ((with_reducible show wpList _ _ _ (Oper.mk _ (Op.load 43 _) _ _ _ _ :: _) _ _); refine wpList_load_bk rfl 43 _ rfl w.heap.size 43 a.cs rfl _ HB0.out Tryd.underlying43 rfl size25 ?_)
    | (go_at_call 70; refine CH.out.mono ?_; rintro e wh ⟨rfl, hb⟩; have HBH := hdn hb; clear hb)
    | ((with_reducible show wpList _ _ _ (Oper.mk _ (Op.store 109 _ _) _ _ _ _ :: _) _ _); refine wpList_store_new rfl 109 _ _ rfl _ (hcs (h0, h1, h2, h3, h4, h5, h6, h7)) rfl rfl size39 rfl (hcs_one _) ?_))
  have HB2 : Hid (Below w.heap.size w (wh.alloc (.cells (hcs (h0, h1, h2, h3, h4, h5, h6, h7)) 109))) := hdn ((HBA.out.trans (HBH.out.mono HBA.out.size)).alloc (Nat.le_trans HBA.out.size HBH.out.size) _)
  have HA : Hid (Bk (wh.alloc (.cells (hcs (h0, h1, h2, h3, h4, h5, h6, h7)) 109)) w.heap.size 43 a.cs) := hdn ((HB0.out.below HBH.out HLT.out).below ((Below.refl _ _).alloc (Nat.le_refl _) _) (Nat.lt_of_lt_of_le HLT.out HBH.out.size))
  have HH : Hid (Bk (wh.alloc (.cells (hcs (h0, h1, h2, h3, h4, h5, h6, h7)) 109)) wh.heap.size 109 (hcs (h0, h1, h2, h3, h4, h5, h6, h7))) := hdn (heap_alloc_new _ _)
  generalize wh.alloc (.cells (hcs (h0, h1, h2, h3, h4, h5, h6, h7)) 109) = w2 at HB2 HA HH ⊢
  generalize wh.heap.size = g at HH ⊢
  have c0 : w2.cell? ⟨w.heap.size, 0, none⟩ = some (.int .i64 a.kind) := HA.out.cell 0
  rw [hk] at c0
  clear hk
  go_upto_region 10 with fail
  clear c0
  unfold rRest at HRR
  have c1 : w2.cell? ⟨w.heap.size, 1, none⟩ = some (.int .i64 a.x) := HA.out.cell 1
  have c2 : w2.cell? ⟨w.heap.size, 2, none⟩ = some (.int .i64 a.y) := HA.out.cell 2
  have c3 : w2.cell? ⟨w.heap.size, 3, none⟩ = some (.int .i64 a.f) := HA.out.cell 3
  have c4 : w2.cell? ⟨w.heap.size, 4, none⟩ = some (.int .i64 a.t) := HA.out.cell 4
  have c6 : w2.cell? ⟨w.heap.size, 6, none⟩ = some (.int .i64 a.op) := HA.out.cell 6
  have d0 : w2.cell? ⟨g, 0, none⟩ = some (.bool h0) := HH.out.cell 0
  have d1 : w2.cell? ⟨g, 1, none⟩ = some (.bool h1) := HH.out.cell 1
  have d2 : w2.cell? ⟨g, 2, none⟩ = some (.bool h2) := HH.out.cell 2
  have d3 : w2.cell? ⟨g, 3, none⟩ = some (.bool h3) := HH.out.cell 3
  have d4 : w2.cell? ⟨g, 4, none⟩ = some (.bool h4) := HH.out.cell 4
  go_cut [6] from 39 to 61 (fun c wx => c = .bool (xB h0 (0) a.x) ∧ w2 = wx)
  case first =>
    cases h0
    · rcases hq : (a.x == 0) with _ | _
      · (go_wp2_with fail; go_meet; exact ⟨by rw [xB_f hq], rfl⟩)
      · (go_wp2_with fail; go_meet; exact ⟨by rw [xB_f hq], rfl⟩)
    · by_cases q1 : (0) ≤ a.x
      · by_cases q2 : a.x < 24
        · (go_wp2_with fail; go_meet; exact ⟨by rw [xB_tt q1 q2], rfl⟩)
        · (go_wp2_with fail; go_meet; exact ⟨by rw [xB_tf (by omega)], rfl⟩)
      · (go_wp2_with fail; go_meet; exact ⟨by rw [xB_ft (by omega)], rfl⟩)
  case rest =>
  obtain ⟨rfl, rfl⟩ := hcut
  generalize xB h0 (0) a.x = b6 at HRR ⊢
  clear c1 d0
  go_upto_region 11 with fail
  go_cut [7] from 62 to 84 (fun c wx => c = .bool (xB h1 (0) a.y) ∧ w2 = wx)
  case first =>
    cases h1
    · rcases hq : (a.y == 0) with _ | _
      · (go_wp2_with fail; go_meet; exact ⟨by rw [xB_f hq], rfl⟩)
      · (go_wp2_with fail; go_meet; exact ⟨by rw [xB_f hq], rfl⟩)
    · by_cases q1 : (0) ≤ a.y
      · by_cases q2 : a.y < 24
        · (go_wp2_with fail; go_meet; exact ⟨by rw [xB_tt q1 q2], rfl⟩)
        · (go_wp2_with fail; go_meet; exact ⟨by rw [xB_tf (by omega)], rfl⟩)
      · (go_wp2_with fail; go_meet; exact ⟨by rw [xB_ft (by omega)], rfl⟩)
  case rest =>
  obtain ⟨rfl, rfl⟩ := hcut
  generalize xB h1 (0) a.y = b7 at HRR ⊢
  clear c2 d1
  go_upto_region 12 with fail
  have CN := hdn (fun w => numb_any a.f 8 w)
  have HF : Hid (fB h2 a.f 8 = ((!h2 && decide (a.f = 0)) || (h2 && numB a.f 8))) := hdn rfl
  generalize fB h2 a.f 8 = b8 at HRR HF
  generalize numB a.f 8 = nb at CN HF
  go_cut [8] from 85 to 101 (fun c wx => c = .bool b8 ∧ w2 = wx)
  case first =>
    cases h2
    · rcases hq : (a.f == 0) with _ | _
      · (go_wp2_with fail; go_meet; exact ⟨by rw [HF.out, z_of hq]; rfl, rfl⟩)
      · (go_wp2_with fail; go_meet; exact ⟨by rw [HF.out, z_of hq]; rfl, rfl⟩)
    · (go_wp2_with (go_at_call 71; refine (CN.out _).mono ?_; rintro e wn ⟨rfl, rfl⟩); go_meet; exact ⟨by rw [HF.out]; simp, rfl⟩)
  case rest =>
  obtain ⟨rfl, rfl⟩ := hcut
  clear CN HF
  clear c3 d2
  go_upto_region 13 with fail
  have CN := hdn (fun w => numb_any a.t 8 w)
  have HF : Hid (fB h3 a.t 8 = ((!h3 && decide (a.t = 0)) || (h3 && numB a.t 8))) := hdn rfl
  generalize fB h3 a.t 8 = b9 at HRR HF
  generalize numB a.t 8 = nb at CN HF
  go_cut [9] from 102 to 118 (fun c wx => c = .bool b9 ∧ w2 = wx)
  case first =>
    cases h3
    · rcases hq : (a.t == 0) with _ | _
      · (go_wp2_with fail; go_meet; exact ⟨by rw [HF.out, z_of hq]; rfl, rfl⟩)
      · (go_wp2_with fail; go_meet; exact ⟨by rw [HF.out, z_of hq]; rfl, rfl⟩)
    · (go_wp2_with (go_at_call 71; refine (CN.out _).mono ?_; rintro e wn ⟨rfl, rfl⟩); go_meet; exact ⟨by rw [HF.out]; simp, rfl⟩)
  case rest =>
  obtain ⟨rfl, rfl⟩ := hcut
  clear CN HF
  clear c4 d3
  go_upto_region 14 with fail
  have CN := hdn (fun w => numb_any a.op 2 w)
  have HF : Hid (fB h4 a.op 2 = ((!h4 && decide (a.op = 0)) || (h4 && numB a.op 2))) := hdn rfl
  generalize fB h4 a.op 2 = b10 at HRR HF
  generalize numB a.op 2 = nb at CN HF
  go_cut [10] from 119 to 136 (fun c wx => c = .bool b10 ∧ w2 = wx)
  case first =>
    cases h4
    · rcases hq : (a.op == 0) with _ | _
      · (go_wp2_with fail; go_meet; exact ⟨by rw [HF.out, z_of hq]; rfl, rfl⟩)
      · (go_wp2_with fail; go_meet; exact ⟨by rw [HF.out, z_of hq]; rfl, rfl⟩)
    · (go_wp2_with (go_at_call 71; refine (CN.out _).mono ?_; rintro e wn ⟨rfl, rfl⟩); go_meet; exact ⟨by rw [HF.out]; simp, rfl⟩)
  case rest =>
  obtain ⟨rfl, rfl⟩ := hcut
  clear CN HF
  clear c6 d4
  go_upto_region 15 with fail
  have CO := hdn (operb_any a.l w2)
  have HF : Hid (oB h5 a.l = ((!h5 && opz a.l.v a.l.n) || (h5 && operB a.l))) := hdn rfl
  generalize oB h5 a.l = b11 at HRR HF
  generalize operB a.l = ob at CO HF
  have k7 : w2.cell? ⟨w.heap.size, 7, none⟩ = some (.int .i64 a.l.v) := HA.out.cell 7
  have k7n : w2.cell? ⟨w.heap.size, 7 + 1, none⟩ = some (.int .i64 a.l.n) := HA.out.cell (7 + 1)
  have d11 : w2.cell? ⟨g, 5, none⟩ = some (.bool h5) := HH.out.cell 5
  go_cut [11] from 137 to 154 (fun c wx => c = .bool b11 ∧ Hid (Below w2.heap.size w2 wx))
  case first =>
    cases h5
    · rcases hq : opz a.l.v a.l.n with _ | _
      · (go_wp2_with fail; go_meet; exact ⟨by rw [HF.out, hq]; rfl, hdn (Below.refl _ _)⟩)
      · (go_wp2_with fail; go_meet; exact ⟨by rw [HF.out, hq]; rfl, hdn (Below.refl _ _)⟩)
    · (go_wp2_with (go_at_call 72; refine CO.out.mono ?_; rintro e wn ⟨rfl, hb⟩; have HBN := hdn hb; clear hb); go_meet; exact ⟨by rw [HF.out]; simp, HBN⟩)
  case rest =>
  obtain ⟨rfl, HBw3⟩ := hcut
  obtain ⟨w3, rfl⟩ : ∃ x, x = wc := ⟨_, rfl⟩
  clear CO HF k7 k7n d11
  have HA := hdn (HA.out.below HBw3.out HA.out.lt)
  have HH := hdn (HH.out.below HBw3.out HH.out.lt)
  go_upto_region 16 with fail
  have CO := hdn (operb_any a.r w3)
  have HF : Hid (oB h6 a.r = ((!h6 && opz a.r.v a.r.n) || (h6 && operB a.r))) := hdn rfl
  generalize oB h6 a.r = b12 at HRR HF
  generalize operB a.r = ob at CO HF
  have k9 : w3.cell? ⟨w.heap.size, 9, none⟩ = some (.int .i64 a.r.v) := HA.out.cell 9
  have k9n : w3.cell? ⟨w.heap.size, 9 + 1, none⟩ = some (.int .i64 a.r.n) := HA.out.cell (9 + 1)
  have d12 : w3.cell? ⟨g, 6, none⟩ = some (.bool h6) := HH.out.cell 6
  go_cut [12] from 155 to 172 (fun c wx => c = .bool b12 ∧ Hid (Below w3.heap.size w3 wx))
  case first =>
    cases h6
    · rcases hq : opz a.r.v a.r.n with _ | _
      · (go_wp2_with fail; go_meet; exact ⟨by rw [HF.out, hq]; rfl, hdn (Below.refl _ _)⟩)
      · (go_wp2_with fail; go_meet; exact ⟨by rw [HF.out, hq]; rfl, hdn (Below.refl _ _)⟩)
    · (go_wp2_with (go_at_call 72; refine CO.out.mono ?_; rintro e wn ⟨rfl, hb⟩; have HBN := hdn hb; clear hb); go_meet; exact ⟨by rw [HF.out]; simp, HBN⟩)
  case rest =>
  obtain ⟨rfl, HBw4⟩ := hcut
  obtain ⟨w4, rfl⟩ : ∃ x, x = wc := ⟨_, rfl⟩
  clear CO HF k9 k9n d12
  have HA := hdn (HA.out.below HBw4.out HA.out.lt)
  have HH := hdn (HH.out.below HBw4.out HH.out.lt)
  have d7 : w4.cell? ⟨g, 7, none⟩ = some (.bool h7) := HH.out.cell 7
  have c11 : w4.cell? ⟨w.heap.size, 11, none⟩ = some (.bool a.sense) := HA.out.cell 11
  have HBZ : Hid (Below w.heap.size w w4) := hdn ((HB2.out.trans (HBw3.out.mono HB2.out.size)).trans (HBw4.out.mono (Nat.le_trans HB2.out.size HBw3.out.size)))
  generalize a.sense = sn at *
  cases b6
  · go_wp2_with fail
    go_ret
    exact ⟨lret_bool (by rw [HRR.out]; simp), HBZ.out⟩
  cases b7
  · go_wp2_with fail
    go_ret
    exact ⟨lret_bool (by rw [HRR.out]; simp), HBZ.out⟩
  cases b8
  · go_wp2_with fail
    go_ret
    exact ⟨lret_bool (by rw [HRR.out]; simp), HBZ.out⟩
  cases b9
  · go_wp2_with fail
    go_ret
    exact ⟨lret_bool (by rw [HRR.out]; simp), HBZ.out⟩
  cases b10
  · go_wp2_with fail
    go_ret
    exact ⟨lret_bool (by rw [HRR.out]; simp), HBZ.out⟩
  cases b11
  · go_wp2_with fail
    go_ret
    exact ⟨lret_bool (by rw [HRR.out]; simp), HBZ.out⟩
  cases b12
  · go_wp2_with fail
    go_ret
    exact ⟨lret_bool (by rw [HRR.out]; simp), HBZ.out⟩
  cases h7
  · cases sn
    · go_wp2_with fail
      go_ret
      exact ⟨lret_bool (by rw [HRR.out]; rfl), HBZ.out⟩
    · go_wp2_with fail
      go_ret
      exact ⟨lret_bool (by rw [HRR.out]; rfl), HBZ.out⟩
  · go_wp2_with fail
    go_ret
    exact ⟨lret_bool (by rw [HRR.out]; rfl), HBZ.out⟩
end Aw
end Go.Proofs.YtebmhadpkncgfaaDoor
namespace Go.Proofs.YtebmhadpkncgfaaDoor
namespace Aw
open Go.RowKit Go.Sort
open Ac
attribute [local go_sem ↓] eql_opd
theorem rright_else (a : Acn) (h : ¬ (a.kind < 0 ∨ 12 < a.kind ∨ a.pl < 0 ∨ 65536 < a.pl)) (hk8 : a.kind ≠ 8) (hk12 : a.kind ≠ 12) (w : World) : Calls Tryd.prog 48 #[.agg a.cs] w fun e w' => e = .returned (.bool (rRight a)) ∧ Below w.heap.size w w' := by
  obtain ⟨q1, q2, q3, q4⟩ : ¬ a.kind < 0 ∧ ¬ 12 < a.kind ∧ ¬ a.pl < 0 ∧ ¬ 65536 < a.pl := by omega
  obtain ⟨hh, hhe⟩ : ∃ hh, hh = hasOf a.kind a.op := ⟨_, rfl⟩
  have HRR : Hid (rRight a = rRest hh.1 hh.2.1 hh.2.2.1 hh.2.2.2.1 hh.2.2.2.2.1 hh.2.2.2.2.2.1 hh.2.2.2.2.2.2.1 hh.2.2.2.2.2.2.2 (0) 3 a) := hdn (by
    unfold rRight rRest
    rw [if_neg h, ← hhe, show Ac.leastOf a.kind = 0 by unfold Ac.leastOf; rw [if_neg hk8], show Ac.mostOf a.kind = 3 by unfold Ac.mostOf; rw [if_neg hk12]])
  have HB0 : Hid (Bk (w.alloc (.cells a.cs 43)) w.heap.size 43 a.cs) := hdn (heap_alloc_new _ _)
  have HBA : Hid (Below w.heap.size w (w.alloc (.cells a.cs 43))) := hdn ((Below.refl _ _).alloc (Nat.le_refl _) _)
  have HLT : Hid (w.heap.size < (w.alloc (.cells a.cs 43)).heap.size) := hdn (by simp)
  have c0 : (w.alloc (.cells a.cs 43)).cell? ⟨w.heap.size, 0, none⟩ = some (.int .i64 a.kind) := HB0.out.cell 0
  have c5 : (w.alloc (.cells a.cs 43)).cell? ⟨w.heap.size, 5, none⟩ = some (.int .i64 a.pl) := HB0.out.cell 5
  have CH := hdn (has_any a (w.alloc (.cells a.cs 43)))
  rw [← hhe] at CH
  obtain ⟨h0, h1, h2, h3, h4, h5, h6, h7⟩ := hh
  clear hhe h
  go_enter Tryd.func48, Tryd.ntmps48
  go_upto_region 3 with fail
  clear c0 c5
  generalize w.alloc (.cells a.cs 43) = w1 at HB0 HBA HLT CH ⊢
  clear q1 q2 q3 q4
  go_upto_region 4 with (first
    | ((with_reducible show wpList _ _ _ (Oper.mk _ (Op.load 43 _) _ _ _ _ :: _) _ _); refine wpList_load_bk rfl 43 _ rfl w.heap.size 43 a.cs rfl _ HB0.out Tryd.underlying43 rfl size25 ?_)
    | (go_at_call 70; refine CH.out.mono ?_; rintro e wh ⟨rfl, hb⟩; have HBH := hdn hb; clear hb)
    | ((with_reducible show wpList _ _ _ (Oper.mk _ (Op.store 109 _ _) _ _ _ _ :: _) _ _); refine wpList_store_new rfl 109 _ _ rfl _ (hcs (h0, h1, h2, h3, h4, h5, h6, h7)) rfl rfl size39 rfl (hcs_one _) ?_))
  have HB2 : Hid (Below w.heap.size w (wh.alloc (.cells (hcs (h0, h1, h2, h3, h4, h5, h6, h7)) 109))) := hdn ((HBA.out.trans (HBH.out.mono HBA.out.size)).alloc (Nat.le_trans HBA.out.size HBH.out.size) _)
  have HA : Hid (Bk (wh.alloc (.cells (hcs (h0, h1, h2, h3, h4, h5, h6, h7)) 109)) w.heap.size 43 a.cs) := hdn ((HB0.out.below HBH.out HLT.out).below ((Below.refl _ _).alloc (Nat.le_refl _) _) (Nat.lt_of_lt_of_le HLT.out HBH.out.size))
  have HH : Hid (Bk (wh.alloc (.cells (hcs (h0, h1, h2, h3, h4, h5, h6, h7)) 109)) wh.heap.size 109 (hcs (h0, h1, h2, h3, h4, h5, h6, h7))) := hdn (heap_alloc_new _ _)
  generalize wh.alloc (.cells (hcs (h0, h1, h2, h3, h4, h5, h6, h7)) 109) = w2 at HB2 HA HH ⊢
  generalize wh.heap.size = g at HH ⊢
  have c0 : w2.cell? ⟨w.heap.size, 0, none⟩ = some (.int .i64 a.kind) := HA.out.cell 0
  have e8 : (a.kind == 8) = false := by rw [beq_eq_false_iff_ne]; exact hk8
  have e12 : (a.kind == 12) = false := by rw [beq_eq_false_iff_ne]; exact hk12
  clear hk8 hk12
  go_upto_region 10 with fail
  clear c0
  unfold rRest at HRR
  have c1 : w2.cell? ⟨w.heap.size, 1, none⟩ = some (.int .i64 a.x) := HA.out.cell 1
  have c2 : w2.cell? ⟨w.heap.size, 2, none⟩ = some (.int .i64 a.y) := HA.out.cell 2
  have c3 : w2.cell? ⟨w.heap.size, 3, none⟩ = some (.int .i64 a.f) := HA.out.cell 3
  have c4 : w2.cell? ⟨w.heap.size, 4, none⟩ = some (.int .i64 a.t) := HA.out.cell 4
  have c6 : w2.cell? ⟨w.heap.size, 6, none⟩ = some (.int .i64 a.op) := HA.out.cell 6
  have d0 : w2.cell? ⟨g, 0, none⟩ = some (.bool h0) := HH.out.cell 0
  have d1 : w2.cell? ⟨g, 1, none⟩ = some (.bool h1) := HH.out.cell 1
  have d2 : w2.cell? ⟨g, 2, none⟩ = some (.bool h2) := HH.out.cell 2
  have d3 : w2.cell? ⟨g, 3, none⟩ = some (.bool h3) := HH.out.cell 3
  have d4 : w2.cell? ⟨g, 4, none⟩ = some (.bool h4) := HH.out.cell 4
  go_cut [6] from 39 to 61 (fun c wx => c = .bool (xB h0 (0) a.x) ∧ w2 = wx)
  case first =>
    cases h0
    · rcases hq : (a.x == 0) with _ | _
      · (go_wp2_with fail; go_meet; exact ⟨by rw [xB_f hq], rfl⟩)
      · (go_wp2_with fail; go_meet; exact ⟨by rw [xB_f hq], rfl⟩)
    · by_cases q1 : (0) ≤ a.x
      · by_cases q2 : a.x < 24
        · (go_wp2_with fail; go_meet; exact ⟨by rw [xB_tt q1 q2], rfl⟩)
        · (go_wp2_with fail; go_meet; exact ⟨by rw [xB_tf (by omega)], rfl⟩)
      · (go_wp2_with fail; go_meet; exact ⟨by rw [xB_ft (by omega)], rfl⟩)
  case rest =>
  obtain ⟨rfl, rfl⟩ := hcut
  generalize xB h0 (0) a.x = b6 at HRR ⊢
  clear c1 d0
  go_upto_region 11 with fail
  go_cut [7] from 62 to 84 (fun c wx => c = .bool (xB h1 (0) a.y) ∧ w2 = wx)
  case first =>
    cases h1
    · rcases hq : (a.y == 0) with _ | _
      · (go_wp2_with fail; go_meet; exact ⟨by rw [xB_f hq], rfl⟩)
      · (go_wp2_with fail; go_meet; exact ⟨by rw [xB_f hq], rfl⟩)
    · by_cases q1 : (0) ≤ a.y
      · by_cases q2 : a.y < 24
        · (go_wp2_with fail; go_meet; exact ⟨by rw [xB_tt q1 q2], rfl⟩)
        · (go_wp2_with fail; go_meet; exact ⟨by rw [xB_tf (by omega)], rfl⟩)
      · (go_wp2_with fail; go_meet; exact ⟨by rw [xB_ft (by omega)], rfl⟩)
  case rest =>
  obtain ⟨rfl, rfl⟩ := hcut
  generalize xB h1 (0) a.y = b7 at HRR ⊢
  clear c2 d1
  go_upto_region 12 with fail
  have CN := hdn (fun w => numb_any a.f 8 w)
  have HF : Hid (fB h2 a.f 8 = ((!h2 && decide (a.f = 0)) || (h2 && numB a.f 8))) := hdn rfl
  generalize fB h2 a.f 8 = b8 at HRR HF
  generalize numB a.f 8 = nb at CN HF
  go_cut [8] from 85 to 101 (fun c wx => c = .bool b8 ∧ w2 = wx)
  case first =>
    cases h2
    · rcases hq : (a.f == 0) with _ | _
      · (go_wp2_with fail; go_meet; exact ⟨by rw [HF.out, z_of hq]; rfl, rfl⟩)
      · (go_wp2_with fail; go_meet; exact ⟨by rw [HF.out, z_of hq]; rfl, rfl⟩)
    · (go_wp2_with (go_at_call 71; refine (CN.out _).mono ?_; rintro e wn ⟨rfl, rfl⟩); go_meet; exact ⟨by rw [HF.out]; simp, rfl⟩)
  case rest =>
  obtain ⟨rfl, rfl⟩ := hcut
  clear CN HF
  clear c3 d2
  go_upto_region 13 with fail
  have CN := hdn (fun w => numb_any a.t 8 w)
  have HF : Hid (fB h3 a.t 8 = ((!h3 && decide (a.t = 0)) || (h3 && numB a.t 8))) := hdn rfl
  generalize fB h3 a.t 8 = b9 at HRR HF
  generalize numB a.t 8 = nb at CN HF
  go_cut [9] from 102 to 118 (fun c wx => c = .bool b9 ∧ w2 = wx)
  case first =>
    cases h3
    · rcases hq : (a.t == 0) with _ | _
      · (go_wp2_with fail; go_meet; exact ⟨by rw [HF.out, z_of hq]; rfl, rfl⟩)
      · (go_wp2_with fail; go_meet; exact ⟨by rw [HF.out, z_of hq]; rfl, rfl⟩)
    · (go_wp2_with (go_at_call 71; refine (CN.out _).mono ?_; rintro e wn ⟨rfl, rfl⟩); go_meet; exact ⟨by rw [HF.out]; simp, rfl⟩)
  case rest =>
  obtain ⟨rfl, rfl⟩ := hcut
  clear CN HF
  clear c4 d3
  go_upto_region 14 with fail
  have CN := hdn (fun w => numb_any a.op 3 w)
  have HF : Hid (fB h4 a.op 3 = ((!h4 && decide (a.op = 0)) || (h4 && numB a.op 3))) := hdn rfl
  generalize fB h4 a.op 3 = b10 at HRR HF
  generalize numB a.op 3 = nb at CN HF
  go_cut [10] from 119 to 136 (fun c wx => c = .bool b10 ∧ w2 = wx)
  case first =>
    cases h4
    · rcases hq : (a.op == 0) with _ | _
      · (go_wp2_with fail; go_meet; exact ⟨by rw [HF.out, z_of hq]; rfl, rfl⟩)
      · (go_wp2_with fail; go_meet; exact ⟨by rw [HF.out, z_of hq]; rfl, rfl⟩)
    · (go_wp2_with (go_at_call 71; refine (CN.out _).mono ?_; rintro e wn ⟨rfl, rfl⟩); go_meet; exact ⟨by rw [HF.out]; simp, rfl⟩)
  case rest =>
  obtain ⟨rfl, rfl⟩ := hcut
  clear CN HF
  clear c6 d4
  go_upto_region 15 with fail
  have CO := hdn (operb_any a.l w2)
  have HF : Hid (oB h5 a.l = ((!h5 && opz a.l.v a.l.n) || (h5 && operB a.l))) := hdn rfl
  generalize oB h5 a.l = b11 at HRR HF
  generalize operB a.l = ob at CO HF
  have k7 : w2.cell? ⟨w.heap.size, 7, none⟩ = some (.int .i64 a.l.v) := HA.out.cell 7
  have k7n : w2.cell? ⟨w.heap.size, 7 + 1, none⟩ = some (.int .i64 a.l.n) := HA.out.cell (7 + 1)
  have d11 : w2.cell? ⟨g, 5, none⟩ = some (.bool h5) := HH.out.cell 5
  go_cut [11] from 137 to 154 (fun c wx => c = .bool b11 ∧ Hid (Below w2.heap.size w2 wx))
  case first =>
    cases h5
    · rcases hq : opz a.l.v a.l.n with _ | _
      · (go_wp2_with fail; go_meet; exact ⟨by rw [HF.out, hq]; rfl, hdn (Below.refl _ _)⟩)
      · (go_wp2_with fail; go_meet; exact ⟨by rw [HF.out, hq]; rfl, hdn (Below.refl _ _)⟩)
    · (go_wp2_with (go_at_call 72; refine CO.out.mono ?_; rintro e wn ⟨rfl, hb⟩; have HBN := hdn hb; clear hb); go_meet; exact ⟨by rw [HF.out]; simp, HBN⟩)
  case rest =>
  obtain ⟨rfl, HBw3⟩ := hcut
  obtain ⟨w3, rfl⟩ : ∃ x, x = wc := ⟨_, rfl⟩
  clear CO HF k7 k7n d11
  have HA := hdn (HA.out.below HBw3.out HA.out.lt)
  have HH := hdn (HH.out.below HBw3.out HH.out.lt)
  go_upto_region 16 with fail
  have CO := hdn (operb_any a.r w3)
  have HF : Hid (oB h6 a.r = ((!h6 && opz a.r.v a.r.n) || (h6 && operB a.r))) := hdn rfl
  generalize oB h6 a.r = b12 at HRR HF
  generalize operB a.r = ob at CO HF
  have k9 : w3.cell? ⟨w.heap.size, 9, none⟩ = some (.int .i64 a.r.v) := HA.out.cell 9
  have k9n : w3.cell? ⟨w.heap.size, 9 + 1, none⟩ = some (.int .i64 a.r.n) := HA.out.cell (9 + 1)
  have d12 : w3.cell? ⟨g, 6, none⟩ = some (.bool h6) := HH.out.cell 6
  go_cut [12] from 155 to 172 (fun c wx => c = .bool b12 ∧ Hid (Below w3.heap.size w3 wx))
  case first =>
    cases h6
    · rcases hq : opz a.r.v a.r.n with _ | _
      · (go_wp2_with fail; go_meet; exact ⟨by rw [HF.out, hq]; rfl, hdn (Below.refl _ _)⟩)
      · (go_wp2_with fail; go_meet; exact ⟨by rw [HF.out, hq]; rfl, hdn (Below.refl _ _)⟩)
    · (go_wp2_with (go_at_call 72; refine CO.out.mono ?_; rintro e wn ⟨rfl, hb⟩; have HBN := hdn hb; clear hb); go_meet; exact ⟨by rw [HF.out]; simp, HBN⟩)
  case rest =>
  obtain ⟨rfl, HBw4⟩ := hcut
  obtain ⟨w4, rfl⟩ : ∃ x, x = wc := ⟨_, rfl⟩
  clear CO HF k9 k9n d12
  have HA := hdn (HA.out.below HBw4.out HA.out.lt)
  have HH := hdn (HH.out.below HBw4.out HH.out.lt)
  have d7 : w4.cell? ⟨g, 7, none⟩ = some (.bool h7) := HH.out.cell 7
  have c11 : w4.cell? ⟨w.heap.size, 11, none⟩ = some (.bool a.sense) := HA.out.cell 11
  have HBZ : Hid (Below w.heap.size w w4) := hdn ((HB2.out.trans (HBw3.out.mono HB2.out.size)).trans (HBw4.out.mono (Nat.le_trans HB2.out.size HBw3.out.size)))
  generalize a.sense = sn at *
  cases b6
  · go_wp2_with fail
    go_ret
    exact ⟨lret_bool (by rw [HRR.out]; simp), HBZ.out⟩
  cases b7
  · go_wp2_with fail
    go_ret
    exact ⟨lret_bool (by rw [HRR.out]; simp), HBZ.out⟩
  cases b8
  · go_wp2_with fail
    go_ret
    exact ⟨lret_bool (by rw [HRR.out]; simp), HBZ.out⟩
  cases b9
  · go_wp2_with fail
    go_ret
    exact ⟨lret_bool (by rw [HRR.out]; simp), HBZ.out⟩
  cases b10
  · go_wp2_with fail
    go_ret
    exact ⟨lret_bool (by rw [HRR.out]; simp), HBZ.out⟩
  cases b11
  · go_wp2_with fail
    go_ret
    exact ⟨lret_bool (by rw [HRR.out]; simp), HBZ.out⟩
  cases b12
  · go_wp2_with fail
    go_ret
    exact ⟨lret_bool (by rw [HRR.out]; simp), HBZ.out⟩
  cases h7
  · cases sn
    · go_wp2_with fail
      go_ret
      exact ⟨lret_bool (by rw [HRR.out]; rfl), HBZ.out⟩
    · go_wp2_with fail
      go_ret
      exact ⟨lret_bool (by rw [HRR.out]; rfl), HBZ.out⟩
  · go_wp2_with fail
    go_ret
    exact ⟨lret_bool (by rw [HRR.out]; rfl), HBZ.out⟩
end Aw
end Go.Proofs.YtebmhadpkncgfaaDoor
namespace Go.Proofs.YtebmhadpkncgfaaDoor
namespace Aw
open Go.RowKit Go.Sort
open Ac
theorem rright_any (a : Acn) (w : World) : Calls Tryd.prog 48 #[.agg a.cs] w fun e w' => e = .returned (.bool (rights a)) ∧ Below w.heap.size w w' := by
  rw [← right_eq]
  by_cases h : a.kind < 0 ∨ 12 < a.kind ∨ a.pl < 0 ∨ 65536 < a.pl
  · exact rright_out a h w
  by_cases h8 : a.kind = 8
  · exact rright_same a h h8 w
  by_cases h12 : a.kind = 12
  · exact rright_test a h h12 w
  exact rright_else a h h8 h12 w
namespace Ac
/-- The bounds of what may be. -/
structure Bds (a : Acn) : Prop where
  x : -1 ≤ a.x ∧ a.x ≤ 23
  y : -1 ≤ a.y ∧ a.y ≤ 23
  f : 0 ≤ a.f ∧ a.f ≤ 7
  t : 0 ≤ a.t ∧ a.t ≤ 7
  pl : 0 ≤ a.pl ∧ a.pl ≤ 65536
  op : 0 ≤ a.op ∧ a.op ≤ 2
  x0 : a.kind ≠ 8 → 0 ≤ a.x
  l : a.kind = 11 ∨ a.kind = 12 → opOk a.l = true
  r : a.kind = 12 ∨ (a.kind = 11 ∧ 0 < a.op) → opOk a.r = true
  o12 : a.kind = 12 → a.op ≤ 1
theorem has_l (k op : Int) (h : k = 11 ∨ k = 12) : (hasOf k op).2.2.2.2.2.1 = true := by rcases h with rfl | rfl <;> rfl
theorem has_r (k op : Int) (h : k = 12 ∨ (k = 11 ∧ 0 < op)) : (hasOf k op).2.2.2.2.2.2.1 = true := by
  rcases h with rfl | ⟨rfl, h⟩
  · rfl
  · show decide (0 < op) = true; exact decide_eq_true h
theorem has_o (op : Int) : (hasOf 12 op).2.2.2.2.1 = true := rfl
theorem bounds (a : Acn) (h0 : rights a = true) : Bds a := by
  rw [← right_eq] at h0
  unfold rRight at h0
  split at h0
  · cases h0
  · rename_i hn
    have hl := has_l a.kind a.op
    have hr := has_r a.kind a.op
    have ho := has_o a.op
    have hlo : leastOf a.kind = if a.kind = 8 then -1 else 0 := rfl
    have hmo : mostOf a.kind = if a.kind = 12 then 2 else 3 := rfl
    have h12 : a.kind = 12 → (hasOf a.kind a.op).2.2.2.2.1 = true := fun e => by rw [e]; rfl
    generalize hasOf a.kind a.op = h at *
    obtain ⟨x1, x2, x3, x4, x5, x6, x7, x8⟩ := h
    simp only [Bool.and_eq_true, xB, fB, oB, numB, Bool.or_eq_true, Bool.not_eq_true', decide_eq_true_eq] at h0
    simp only at hl hr h12
    obtain ⟨⟨⟨⟨⟨⟨⟨hx, hy⟩, hf⟩, ht⟩, hop⟩, hL⟩, hR⟩, _⟩ := h0
    have hlo2 : -1 ≤ leastOf a.kind := by rw [hlo]; split <;> omega
    have hmo2 : mostOf a.kind ≤ 3 := by rw [hmo]; split <;> omega
    refine ⟨by omega, by omega, by omega, by omega, by omega, by omega, fun e => ?_, fun e => ?_, fun e => ?_, fun e => ?_⟩
    · rw [if_neg e] at hlo; omega
    · have := hl e
      subst this
      rcases hL with ⟨e1, _⟩ | ⟨_, e1⟩
      · cases e1
      · rw [operB_iff] at e1; exact (opTk_ok1 e1).1
    · have := hr e
      subst this
      rcases hR with ⟨e1, _⟩ | ⟨_, e1⟩
      · cases e1
      · rw [operB_iff] at e1; exact (opTk_ok1 e1).1
    · have := h12 e
      rw [if_pos e] at hmo
      subst this
      rcases hop with ⟨e1, _⟩ | ⟨_, e1⟩
      · cases e1
      · omega
end Ac
end Aw
end Go.Proofs.YtebmhadpkncgfaaDoor
