/-
  DERIVED. New; heaps that no call made; a heap of a law's own.
-/
import Derived.Test.YtocgallcmgnmgaaHo
namespace Go.Proofs.Ytocgallcmgnmgaa
open Go.RowKit Go.Maps

def NewP (F : Nat) (w : World) (e : Ending) (w' : World) : Prop := e = .returned (.pointer (some ⟨w.heap.size, 0, none⟩)) ∧ HIs w' w.heap.size (fun _ => False) F [] (.slice none 0 0) ∧ Below w.heap.size w w'
set_option maxHeartbeats 800000 in
set_option maxRecDepth 100000 in
theorem new_any (F c : Nat) (p : Option Addr) (w : World) : Calls Try.prog 11 #[.slice p F c] w (NewP F w) := by
  have HE : Hid (NewP F w (.returned (.pointer (some ⟨w.heap.size, 0, none⟩))) (w.alloc (.cells #[.bool true, .int .i64 F, .slice none 0 0] 50))) :=
    Lib.hid ⟨rfl, ⟨(MapKept.heap_alloc w _).1, id, Kin.Lie.nil _ _ (fun _ h => h.elim)⟩, (Below.refl _ _).alloc (Nat.le_refl _) _⟩
  go_enter Try.func11, Try.ntmps11
  go_wp2_with fail
  go_ret
  exact HE.out

/-- A heap that no call made. -/
def Un (w : World) (q : Value) : Prop := q = .pointer none ∨ ∃ b, q = .pointer (some ⟨b, 0, none⟩) ∧ Bk w b 50 #[.bool false, .int .i64 0, .slice none 0 0]
theorem Un.below {w w' : World} {q : Value} (h : Un w q) (hb : Below w.heap.size w w') : Un w' q := by
  rcases h with h | ⟨b, h, k⟩
  · exact .inl h
  · exact .inr ⟨b, h, k.below hb k.lt⟩
theorem Un.len {w : World} {q : Value} (h : Un w q) : LenIs w q 0 := by
  rcases h with rfl | ⟨b, rfl, k⟩
  · exact len_nil w
  · exact len_any b _ _ none 0 0 w k
theorem none_is (x : Int) : isCell 0 x = false := by
  cases h : isCell 0 x with
  | false => rfl
  | true => obtain ⟨i, hi, _⟩ := isCell_iff.1 h; omega
set_option maxHeartbeats 800000 in
set_option maxRecDepth 100000 in
theorem add_un (q : Value) (t : Int) (w : World) (h : Un w q) : Calls Try.prog 12 #[q, .int .i64 t] w fun e w' => e = .returned (.int .i64 0) ∧ w = w' := by
  rcases h with rfl | ⟨b, rfl, k⟩
  · go_enter Try.func12, Try.ntmps12
    go_wp2_with fail
    go_ret
    exact ⟨rfl, rfl⟩
  · have c0 : w.cell? ⟨b, 0, none⟩ = some (.bool false) := k.cell 0
    clear k
    go_enter Try.func12, Try.ntmps12
    go_wp2_with fail
    go_ret
    exact ⟨rfl, rfl⟩
set_option maxHeartbeats 1600000 in
set_option maxRecDepth 100000 in
theorem cells_un (q : Value) (w : World) (h : Un w q) : Calls Try.prog 14 #[q] w fun e w' => ∃ p : Option Addr, e = .returned (.slice p 0 0) ∧ Below w.heap.size w w' := by
  rcases h with rfl | ⟨b, rfl, k⟩
  · go_enter Try.func14, Try.ntmps14
    go_wp2_with fail
    go_ret
    exact ⟨none, rfl, Below.refl _ _⟩
  · have hmk : (Instr.makeSlice 23 (.int .i64 0) (.int .i64 0)).run Try.prog w = .ok (.slice (some ⟨w.heap.size, 0, none⟩) 0 0) (w.alloc (.cells (Zc 0) 46)) := make23 0 w (by omega)
    have hmk2 : ∀ w, (Instr.makeSlice 44 (.int .i64 0) (.int .i64 0)).run Try.prog w = .ok (.slice (some ⟨w.heap.size, 0, none⟩) 0 0) (w.alloc (.cells (ints (zeros 0)).toArray 3)) := fun w => make44_of 0 w (by omega)
    have c1 : w.cell? ⟨b, 1, none⟩ = some (.int .i64 0) := k.cell 1
    have c2 : w.cell? ⟨b, 2, none⟩ = some (.slice none 0 0) := k.cell 2
    have d1 : (w.alloc (.cells (Zc 0) 46)).cell? ⟨b, 1, none⟩ = some (.int .i64 0) := ((alloc_below_ w _).cell (p := ⟨b, 1, none⟩) k.lt).trans c1
    have d2 : (w.alloc (.cells (Zc 0) 46)).cell? ⟨b, 2, none⟩ = some (.slice none 0 0) := ((alloc_below_ w _).cell (p := ⟨b, 2, none⟩) k.lt).trans c2
    have HB : Hid (Below w.heap.size w ((w.alloc (.cells (Zc 0) 46)).alloc (.cells (ints (zeros 0)).toArray 3)).drew) := Lib.hid (below_drew ((alloc_below_ w _).alloc (by simp) _))
    clear k
    go_enter Try.func14, Try.ntmps14
    go_wp2_with fail
    clear hmk c1 c2
    go_region
    go_wp2_with fail
    refine wp_loop_rounds 1 ?_
    rw [rounds_succ]
    go_wp2
    go_ret
    exact ⟨_, rfl, HB.out⟩

/-- A heap that was made since. -/
def HM (w0 w : World) (b F : Nat) (cs : List PC) : Prop := ∃ R v, HIs w b R F cs v ∧ (∀ k, R k → w0.heap.size ≤ k) ∧ w0.heap.size ≤ b ∧ Below w0.heap.size w0 w
theorem HM.step {w0 w w' : World} {b F : Nat} {R : Nat → Prop} {cs' : List PC} {ret : Value} {e : Ending} (hR : ∀ k, R k → w0.heap.size ≤ k) (hb : w0.heap.size ≤ b) (hw : Below w0.heap.size w0 w)
    (h : HPost F w b R cs' ret e w') : HM w0 w' b F cs' := by
  obtain ⟨_, R', v', h1, h2⟩ := h
  refine ⟨R', v', h1, fun k hk => ?_, hb, hw.trans (h2.gr.below hw.size (fun k hk => ?_))⟩
  · rcases h2.new k hk with h | h
    · exact hR k h
    · have := hw.size; omega
  · rcases hk with rfl | hk
    · exact hb
    · exact hR k hk
theorem HM.new {F : Nat} {w : World} {e : Ending} {w' : World} (h : NewP F w e w') : HM w w' w.heap.size F [] := ⟨_, _, h.2.1, fun _ h => h.elim, Nat.le_refl _, h.2.2⟩
theorem HM.below {w0 w w' : World} {b F : Nat} {cs : List PC} (h : HM w0 w b F cs) (hb : Below w.heap.size w w') : HM w0 w' b F cs := by
  obtain ⟨R, v, h1, h2, h3, h4⟩ := h
  exact ⟨R, v, h1.below hb, h2, h3, h4.trans (hb.mono h4.size)⟩
theorem HM.add {w0 w : World} {b F : Nat} {cs : List PC} (h : HM w0 w b F cs) (t : Int) (hn : cs.length ≤ 2000000) :
    Calls Try.prog 12 #[.pointer (some ⟨b, 0, none⟩), .int .i64 t] w fun e w' => e = .returned (.int .i64 (cs.length + 1 : Nat)) ∧ Hid (HM w0 w' b F (cs ++ [newC F t])) := by
  obtain ⟨R, v, h1, h2, h3, h4⟩ := h
  exact (add_any F b R cs v t w h1 hn).mono fun e w' hp => ⟨hp.1, Lib.hid (HM.step h2 h3 h4 hp)⟩
theorem HM.put {w0 w : World} {b F : Nat} {cs : List PC} (h : HM w0 w b F cs) (c f t : Int) (hF : F ≤ 2000000) (hn : cs.length ≤ maxLen) (ht : okI t) :
    Calls Try.prog 13 #[.pointer (some ⟨b, 0, none⟩), .int .i64 c, .int .i64 f, .int .i64 t] w fun e w' => e = .returned (.int .i64 (faultC cs c)) ∧ Hid (HM w0 w' b F (putC F cs c f t)) := by
  obtain ⟨R, v, h1, h2, h3, h4⟩ := h
  exact (put_any F b R cs v c f t w h1 hF hn ht).mono fun e w' hp => ⟨hp.1, Lib.hid (HM.step h2 h3 h4 hp)⟩
theorem HM.free {w0 w : World} {b F : Nat} {cs : List PC} (h : HM w0 w b F cs) (c : Int) (hn : cs.length ≤ maxLen) :
    Calls Try.prog 15 #[.pointer (some ⟨b, 0, none⟩), .int .i64 c] w fun e w' => e = .returned (.int .i64 (freeE cs c)) ∧ Hid (HM w0 w' b F (freeC F cs c)) := by
  obtain ⟨R, v, h1, h2, h3, h4⟩ := h
  exact (free_any F b R cs v c w h1 hn).mono fun e w' hp => ⟨hp.1, Lib.hid (HM.step h2 h3 h4 hp)⟩
theorem HM.get {w0 w : World} {b F : Nat} {cs : List PC} (h : HM w0 w b F cs) (c f : Int) (hF : F ≤ 2000000) (hn : cs.length ≤ maxLen) :
    Calls Try.prog 16 #[.pointer (some ⟨b, 0, none⟩), .int .i64 c, .int .i64 f] w fun e w' => e = .returned (two (getV F cs c f) (faultC cs c)) ∧ w = w' := by
  obtain ⟨R, v, h1, h2, h3, h4⟩ := h
  exact get_any F b R cs v c f w h1 hF hn

def livesP (w : World) (e : Ending) (w' : World) : Prop := e = .returned (.bool true) ∧ Below w.heap.size w w'
def cs2 : List PC := [⟨0, false, [0]⟩, ⟨0, false, [0]⟩]
def cs3 : List PC := [⟨0, false, [2]⟩, ⟨0, false, [0]⟩]
def cs4 : List PC := [⟨0, false, [2]⟩, ⟨0, true, [0]⟩]
set_option maxHeartbeats 1600000 in
set_option maxRecDepth 100000 in
theorem lives_any (w : World) : Calls Try.prog 6 #[] w (livesP w) := by
  have HB0 : Hid (Below w.heap.size w (w.alloc (.cells #[.int .i64 0, .int .i64 0] 39))) := Lib.hid ((Below.refl _ _).alloc (Nat.le_refl _) _)
  have hN := fun w1 : World => new_any 1 1 (some ⟨w.heap.size, 0, none⟩) w1
  have h1 : ∀ (w0 w1 : World) b, Hid (HM w0 w1 b 1 []) → Calls Try.prog 12 #[.pointer (some ⟨b, 0, none⟩), .int .i64 0] w1 fun e w' => e = .returned (.int .i64 1) ∧ Hid (HM w0 w' b 1 [⟨0, false, [0]⟩]) := fun w0 w1 b h => h.out.add 0 (by decide)
  have h2 : ∀ (w0 w1 : World) b, Hid (HM w0 w1 b 1 [⟨0, false, [0]⟩]) → Calls Try.prog 12 #[.pointer (some ⟨b, 0, none⟩), .int .i64 0] w1 fun e w' => e = .returned (.int .i64 2) ∧ Hid (HM w0 w' b 1 cs2) := fun w0 w1 b h => h.out.add 0 (by decide)
  have h3 : ∀ (w0 w1 : World) b, Hid (HM w0 w1 b 1 cs2) → Calls Try.prog 13 #[.pointer (some ⟨b, 0, none⟩), .int .i64 1, .int .i64 0, .int .i64 2] w1 fun e w' => e = .returned (.int .i64 0) ∧ Hid (HM w0 w' b 1 cs3) := fun w0 w1 b h => h.out.put 1 0 2 (by decide) (by decide) rfl
  have h4 : ∀ (w0 w1 : World) b, Hid (HM w0 w1 b 1 cs3) → Calls Try.prog 16 #[.pointer (some ⟨b, 0, none⟩), .int .i64 1, .int .i64 0] w1 fun e w' => e = .returned (.tuple #[.int .i64 2, .int .i64 0]) ∧ w1 = w' := fun w0 w1 b h => h.out.get 1 0 (by decide) (by decide)
  have h5 : ∀ (w0 w1 : World) b, Hid (HM w0 w1 b 1 cs3) → Calls Try.prog 15 #[.pointer (some ⟨b, 0, none⟩), .int .i64 2] w1 fun e w' => e = .returned (.int .i64 0) ∧ Hid (HM w0 w' b 1 cs4) := fun w0 w1 b h => h.out.free 2 (by decide)
  have h6 : ∀ (w0 w1 : World) b, Hid (HM w0 w1 b 1 cs4) → Calls Try.prog 15 #[.pointer (some ⟨b, 0, none⟩), .int .i64 2] w1 fun e w' => e = .returned (.int .i64 3) ∧ Hid (HM w0 w' b 1 cs4) := fun w0 w1 b h => h.out.free 2 (by decide)
  have HN := Lib.hid hN
  have H1 := Lib.hid h1
  have H2 := Lib.hid h2
  have H3 := Lib.hid h3
  have H4 := Lib.hid h4
  have H5 := Lib.hid h5
  have H6 := Lib.hid h6
  clear hN h1 h2 h3 h4 h5 h6
  go_enter Try.func6, Try.ntmps6
  go_wp2_with fail
  generalize w.alloc (.cells #[.int .i64 0, .int .i64 0] 39) = wA at HB0 ⊢
  refine (HN.out wA).mono ?_; rintro e w1 ⟨rfl, hi, hb⟩
  have HA : Hid (HM wA w1 wA.heap.size 1 []) := Lib.hid (HM.new (e := .returned (.pointer (some ⟨wA.heap.size, 0, none⟩))) ⟨rfl, hi, hb⟩)
  clear hi hb
  generalize wA.heap.size = b at HA ⊢
  go_wp2_with fail
  refine (H1.out _ w1 b HA).mono ?_; rintro e w2 ⟨rfl, HA2⟩
  go_wp2_with fail
  refine (H2.out _ w2 b HA2).mono ?_; rintro e w3 ⟨rfl, HA3⟩
  go_wp2_with fail
  refine (H3.out _ w3 b HA3).mono ?_; rintro e w4 ⟨rfl, HA4⟩
  go_wp2_with fail
  refine (H4.out _ w4 b HA4).mono ?_; rintro e w5 ⟨rfl, rfl⟩
  go_wp2_with fail
  refine (H5.out _ w4 b HA4).mono ?_; rintro e w6 ⟨rfl, HA6⟩
  go_wp2_with fail
  refine (H6.out _ w6 b HA6).mono ?_; rintro e w7 ⟨rfl, HA7⟩
  go_wp2_with fail
  go_ret
  obtain ⟨_, _, _, _, _, hb7⟩ := HA7.out
  exact ⟨rfl, HB0.out.trans (hb7.mono HB0.out.size)⟩
end Go.Proofs.Ytocgallcmgnmgaa
