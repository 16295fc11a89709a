/-
  DERIVED. The walks of New, Add.
-/
import Derived.Test.YtocgallcmgnmgaaHj
namespace Go.Proofs.Ytocgallcmgnmgaa
open Go.RowKit Go.Maps

theorem z59 : ∃ i : TypeInfo, Try.prog.info? 59 = some i ∧ i.zero = some (.agg #[.int .i64 0, .bool false, .int .i64 0, .int .i64 0, .int .i64 0, .int .i64 0, .int .i64 0, .int .i64 0, .int .i64 0, .int .i64 0, .map none]) ∧ i.size = 11 ∧ i.bytes = 88 := by
  have h : (Try.prog.info? 59).map (fun i => (i.zero, i.size, i.bytes)) = some (some (.agg #[.int .i64 0, .bool false, .int .i64 0, .int .i64 0, .int .i64 0, .int .i64 0, .int .i64 0, .int .i64 0, .int .i64 0, .int .i64 0, .map none]), 11, 88) := by kernel_rfl
  obtain ⟨i, hi, hz⟩ := Option.map_eq_some_iff.1 h
  simp only [Prod.mk.injEq] at hz
  exact ⟨i, hi, hz.1, hz.2.1, hz.2.2⟩
abbrev newA (t : Int) : Array Value := #[.int .i64 t, .bool false, .int .i64 0, .int .i64 0, .int .i64 0, .int .i64 0, .int .i64 0, .int .i64 0, .int .i64 0, .int .i64 0, .map none]
theorem newA_is (F : Nat) (t : Int) : (newA t).toList = hcells (newC F t) none := by
  unfold hcells; simp only [at_zeros (c := newC F t) (F := F) rfl]; rfl
theorem newC_sub (F : Nat) (t : Int) (w : World) : (HeldK F).sub w (newC F t) none :=
  ⟨by simp [newC, zeros], fun k => by show okI ((zeros F).getD k 0); rw [zeros_at]; rfl, fun k _ => zeros_at F k⟩

/-- The heap with one cell more. -/
theorem add_post {F b : Nat} {R : Nat → Prop} {cs : List PC} {v : Value} {t : Int} {w : World} (h : HIs w b R F cs v) {wA : World} (hA : Below w.heap.size w wA) {ys : List Value} {g cap : Nat} {w1 : World}
    (hys : (v = .slice none 0 0 ∧ cs = []) ∨ ∃ g cap cur fm, v = .slice (some ⟨g, 0, none⟩) cs.length cap ∧ (HeldK F).At wA R g cap cur fm cs ∧ ∀ j, j < cs.length * 11 → ys[j]? = cur[j]?) (hyl : ys.length = cs.length * 11)
    (hown : w1.ownsRow 0 59 11 (.slice (some ⟨g, 0, none⟩) (cs.length + 1) cap) (cs.length + 1) (ys ++ (newA t).toList)) (hg : wA.grownBy w1 v.ownBlock) (hat : v.ownBlock = some g ∨ g = wA.heap.size) (hlt : g < w1.heap.size) :
    Bk w1 b 50 #[.bool true, .int .i64 F, v] ∧ HPost F w b R (cs ++ [newC F t]) (.int .i64 (cs.length + 1 : Nat)) (.returned (.int .i64 (cs.length + 1 : Nat))) (w1.setCell ⟨b, 2, none⟩ (.slice (some ⟨g, 0, none⟩) (cs.length + 1) cap)) := by
  have htopA : Bk wA b 50 #[.bool true, .int .i64 F, v] := h.top.below hA h.top.lt
  have hvb : ∀ k, some k = v.ownBlock → R k := by
    intro k hk
    rcases h.lie.2 with ⟨e, _⟩ | ⟨g0, cap0, cur0, fm0, e, ha0⟩
    · rw [e] at hk; cases hk
    · rw [e] at hk; simp only [Value.ownBlock] at hk; injection hk with hk; subst hk; exact ha0.mine
  have hvb' : some b ≠ v.ownBlock := fun e => h.out (hvb b e)
  have hbA : b < wA.heap.size := htopA.lt
  have htop1 : Bk w1 b 50 #[.bool true, .int .i64 F, v] := (hg.block b hbA hvb').trans htopA
  have hlieA : (HeldK F).Lie wA R v cs := h.lie.below hA
  have hgb : g ≠ b := by
    intro e
    rcases hat with h1 | h1
    · exact hvb' (by rw [h1, e])
    · omega
  have hl1 := Kin.Lie.push (K := HeldK F) (R' := fun k => R k ∨ k = g) (x' := newC F t) (b' := none) hlieA hys hyl (by have := hown; rw [newA_is F t] at this; exact this) hg hat (Nat.le_refl _) (newC_sub F t w1) (by intro m e; cases e) (fun _ h => .inl h) (.inr rfl)
    (fun k hk => by
      rcases hk with hk | hk
      · exact Nat.lt_of_lt_of_le (hlieA.1 k hk) hg.size
      · subst hk; exact hlt)
  have hgs : w1.grownBy (w1.setCell ⟨b, 2, none⟩ (.slice (some ⟨g, 0, none⟩) (cs.length + 1) cap)) (some b) := grownBy_setC w1 _ _
  refine ⟨htop1, rfl, fun k => R k ∨ k = g, _, ⟨htop1.set_ 2 _, ?_, hl1.gr (Gr.of_grown hgs) ?_⟩, ?_, fun _ h => .inl h, ?_⟩
  · rintro (hb | hb)
    · exact h.out hb
    · exact hgb hb.symm
  · rintro k (hk | hk) e
    · injection e with e; subst e; exact h.out hk
    · injection e with e; subst e; exact hgb hk.symm
  · exact ((Gr.of_below (S := fun k => k = b ∨ R k) hA).grown hg (fun i _ e => .inr (hvb i e))).setCell (fun _ => .inl rfl) _
  · rintro k (hk | hk)
    · exact .inl hk
    · rcases hat with h1 | h1
      · exact .inl (hvb k (by rw [hk, h1]))
      · exact .inr (by have := hA.size; omega)

set_option maxHeartbeats 1600000 in
set_option maxRecDepth 100000 in
theorem add_any (F b : Nat) (R : Nat → Prop) (cs : List PC) (v : Value) (t : Int) (w : World) (h : HIs w b R F cs v) (hn : cs.length ≤ 2000000) :
    Calls Try.prog 12 #[hp b, .int .i64 t] w (HPost F w b R (cs ++ [newC F t]) (.int .i64 (cs.length + 1 : Nat))) := by
  obtain ⟨i, hi, hz, hs, hb⟩ := z59
  have hA : Below w.heap.size w (w.alloc (.cells (newA t) 59)) := (Below.refl _ _).alloc (Nat.le_refl _) _
  obtain ⟨ys, hys0, hyl, hys⟩ := (h.lie.below hA).owns (base := 0) (fun _ _ => Nat.zero_le _)
  have HP := Lib.hid (fun g cap w1 => add_post (t := t) h hA (g := g) (cap := cap) (w1 := w1) hys hyl)
  have HO := Lib.hid hys0
  have HN : Hid (∀ j u, (newA t).toList[j]? = some u → (w.alloc (.cells (newA t) 59)).cell? ((⟨w.heap.size, 0, none⟩ : Addr).add j) = some u) := Lib.hid (fun j u hu => by
    have e : ((⟨w.heap.size, 0, none⟩ : Addr).add j) = ⟨w.heap.size, j, none⟩ := by rw [Addr.add_mid]; simp
    rw [e]
    exact (World.cell?_alloc_at _ _ _ _ rfl).trans (by simpa using hu))
  have c0 : w.cell? ⟨b, 0, none⟩ = some (.bool true) := h.top.cell 0
  have c2 : w.cell? ⟨b, 2, none⟩ = some v := h.top.cell 2
  have hbl : b < w.heap.size := h.top.lt
  have d2 : (w.alloc (.cells (newA t) 59)).cell? ⟨b, 2, none⟩ = some v := (h.top.below hA hbl).cell 2
  have hn1 : cs.length + 1 ≤ maxLen := by unfold maxLen; omega
  have hn2 : (cs.length + 1) * 88 ≤ 140737488355328 := by omega
  have e1 : (w.alloc (.cells (newA t) 59)).heap.size = w.heap.size + 1 := by simp
  have HE1 := Lib.hid e1
  have H1 : Hid (∀ u ∈ (newA t).toList, u.oneCell' = true) := Lib.hid (by intro u hu; simp at hu; rcases hu with rfl | rfl | rfl | rfl <;> rfl)
  clear h hA hys hyl hys0 e1
  unfold hp
  go_enter Try.func12, Try.ntmps12
  go_wp2_with (at_builtin; refine wpList_append_lies _ rfl _ _ 48 rfl 0 59 i _ 11 88 Try.underlying48 hi hz hs hb rfl (by decide) v cs.length ys rfl HO.out _ 1 1 (newA t).toList rfl rfl HN.out H1.out (by decide) hn1 hn2 (Nat.zero_le _) _ rfl ?_; intro g cap w1 q1 q2 q3 q4; obtain ⟨t1, hq⟩ := HP.out g cap w1 q1 q2 q3 q4; have f1 := t1.frozen 2; have t2 := t1.cell 2; have HZ := Lib.hid hq; have HT := Lib.hid t1; clear q1 q2 q3 q4 t1 hq)
  go_ret
  exact HZ.out
end Go.Proofs.Ytocgallcmgnmgaa
