/-
  DERIVED. The walks of 'are they the same': hops.
-/
import Derived.Test.YtpbjnjnmbglllaaSm
namespace Go.Proofs.Ytpbjnjnmbglllaa
open Go.RowKit Go.Sort

theorem below_drewN_ {B : Nat} {a w : World} (h : Below B a w) (n : Nat) : Below B a (w.drewN n) := ⟨h.os, h.tape, h.output, h.size, h.block⟩
def triv {α : Type} (_ : World) (_ : α) : Prop := True
theorem triv_below {α : Type} {w w' : World} {x : α} (_ : triv w x) (_ : Below w.heap.size w w') : triv w' x := trivial
def srLies (w : World) (x : Sr) : Prop := declsLie w x.fields
theorem srLies_below {w w' : World} {x : Sr} (h : srLies w x) (hb : Below w.heap.size w w') : srLies w' x := declsLie_below h hb

/-! Hp -/
theorem enters93 : ∀ args w, (callFunc 93 args).run Try.prog w = .ok (.enter 93 args) w := enters Try.func93 (by kernel_rfl) rfl
/-- What is asked of the function that says whether two items are the same. -/
def OkHp (x y : Hp) : Prop := ∀ (b1 q1 b2 q2 : Nat) (w : World), w.rangeAt b1 q1 (Hp.cells x) → w.rangeAt b2 q2 (Hp.cells y) → triv w x → triv w y →
  Calls Try.prog 80 #[.pointer (some ⟨b1, q1, none⟩), .pointer (some ⟨b2, q2, none⟩)] w fun en w' => en = .returned (.bool (sameHp x y)) ∧ Below w.heap.size w w'

set_option maxHeartbeats 800000 in
set_option maxRecDepth 100000 in
theorem cloFHp (i : Int) (b1 q1 bs bb : Nat) (w : World) :
    Calls Try.prog 93 #[.bool false, .int .i64 i, .pointer (some ⟨b1, q1, none⟩), .pointer (some ⟨bs, 0, none⟩), .pointer (some ⟨bb, 0, none⟩)] w fun en w' => en = .returned (.bool false) ∧ Below w.heap.size w w' := by
  go_enter Try.func93, Try.ntmps93
  go_wp2_with fail
  go_quiet (fail)
  go_wp2_with fail
  go_ret
  exact ⟨rfl, below_drewN_ (Below.refl _ _) _⟩

set_option maxHeartbeats 800000 in
set_option maxRecDepth 100000 in
theorem cloTHp (v : Bool) (k n c b1 q1 b2 o2 bs bb : Nat) (w : World) (hk : k < n)
    (hs : w.cell? ⟨bs, 0, none⟩ = some (.func (.func 80) #[] #[])) (hb : w.cell? ⟨bb, 0, none⟩ = some (.slice (some ⟨b2, o2, none⟩) n c))
    (hS : ∀ w', Below w.heap.size w w' → Calls Try.prog 80 #[.pointer (some ⟨b1, q1, none⟩), .pointer (some ⟨b2, o2 + k * 2, none⟩)] w' fun en w'' => en = .returned (.bool v) ∧ Below w'.heap.size w' w'') :
    Calls Try.prog 93 #[.bool true, .int .i64 k, .pointer (some ⟨b1, q1, none⟩), .pointer (some ⟨bs, 0, none⟩), .pointer (some ⟨bb, 0, none⟩)] w fun en w' => en = .returned (.bool v) ∧ Below w.heap.size w w' := by
  have cS : ∀ dd os, Calls Try.prog 80 #[.pointer (some ⟨b1, q1, none⟩), .pointer (some ⟨b2, o2 + k * 2, none⟩)] (grow (redrawn w dd) os) fun en w'' => en = .returned (.bool v) ∧ ∃ p : Regrown, w'' = grow (redrawn w p.d) p.os :=
    fun dd os => Calls.regrown_of (hS _ (below_regrown _ _ _))
  have ks := cell_regrown hs
  have kb := cell_regrown hb
  have hk0 : (0 : Int) ≤ (k : Int) := Int.natCast_nonneg _
  have hk1 : (k : Int) < (n : Int) := by omega
  clear hS hs hb
  go_enter Try.func93, Try.ntmps93
  go_wp2_with fail
  refine wp_region_quiet_below (by kernel_rfl) (by kernel_rfl) ?_
  repeat (go_big_quiet_step (with_reducible exact cS _ _))
  refine wpQuiet_nil ?_
  intro _ hw'
  obtain ⟨⟨dq, osq⟩, hw''⟩ := hw'
  subst hw''
  have HB3 := Lib.hid (below_regrown w dq osq)
  generalize grow (redrawn w dq) osq = w3 at HB3 ⊢
  go_wp2_with fail
  go_ret
  exact ⟨rfl, HB3.out⟩

set_option maxHeartbeats 1600000 in
set_option maxRecDepth 100000 in
theorem foldHp (l m : List Hp) (p1 p2 : Option Addr) (c1 c2 bs bb : Nat) (w : World) (h1 : Lay 2 Hp.cells triv w p1 l) (h2 : Lay 2 Hp.cells triv w p2 m)
    (hs : w.cell? ⟨bs, 0, none⟩ = some (.func (.func 80) #[] #[])) (hb : w.cell? ⟨bb, 0, none⟩ = some (.slice p2 m.length c2)) (hS : ∀ x ∈ l, ∀ y ∈ m, OkHp x y) :
    Calls Try.prog 92 #[.slice p1 l.length c1, .bool ((l.length : Int) == (m.length : Int)), .func (.func 93) #[] #[.pointer (some ⟨bs, 0, none⟩), .pointer (some ⟨bb, 0, none⟩)]] w fun en w' => en = .returned (.bool (sameL sameHp l m)) ∧ Below w.heap.size w w' := by
  obtain ⟨hl1, h1⟩ := h1
  obtain ⟨_, h2⟩ := h2
  have H1 := Lib.hid h1
  have H2 := Lib.hid h2
  have HS := Lib.hid hS
  have HBS := Lib.hid hs
  have HBB := Lib.hid hb
  clear h1 h2 hS hs hb
  by_cases he : l.length = m.length
  · have heq : ((l.length : Int) == (m.length : Int)) = true := by rw [he]; simp
    rw [heq]
    have HE := Lib.hid he
    clear he heq
    go_enter Try.func92, Try.ntmps92
    go_wp2_with fail
    go_loopw [1, 10] (fun v i wr => ∃ k : Nat, i = .int .i64 k ∧ k ≤ l.length ∧ v = .bool (sameL sameHp (l.take k) (m.take k)) ∧ Hid (Below w.heap.size w wr)) (fun _ i _ => l.length - (intOf i).toNat)
    case atStart => exact ⟨0, rfl, Nat.zero_le _, rfl, Lib.hid (Below.refl _ _)⟩
    case round =>
      obtain ⟨k, rfl, hk, rfl, HB⟩ := hrel
      by_cases hkl : k < l.length
      · have hkm : k < m.length := by have := HE.out; omega
        obtain ⟨b1, o1, rfl, hx⟩ : ∃ b o, p1 = some ⟨b, o, none⟩ ∧ ∀ k x, l[k]? = some x → w.rangeAt b (o + k * 2) (Hp.cells x) ∧ triv w x := by
          rcases H1.out with h | h
          · rw [h] at hkl; simp at hkl
          · exact h
        obtain ⟨b2, o2, rfl, hy⟩ : ∃ b o, p2 = some ⟨b, o, none⟩ ∧ ∀ k x, m[k]? = some x → w.rangeAt b (o + k * 2) (Hp.cells x) ∧ triv w x := by
          rcases H2.out with h | h
          · rw [h] at hkm; simp at hkm
          · exact h
        have hx1 := hx k l[k] (List.getElem?_eq_getElem hkl)
        have hy1 := hy k m[k] (List.getElem?_eq_getElem hkm)
        have hSS : ∀ w', Below wr.heap.size wr w' → Calls Try.prog 80 #[.pointer (some ⟨b1, o1 + k * 2, none⟩), .pointer (some ⟨b2, o2 + k * 2, none⟩)] w' fun en w'' => en = .returned (.bool (sameHp l[k] m[k])) ∧ Below w'.heap.size w' w'' := fun w' hb' =>
          have hb2 := HB.out.trans (hb'.mono HB.out.size)
          HS.out l[k] (List.getElem_mem _) m[k] (List.getElem_mem _) _ _ _ _ w' (rangeAt_below hx1.1 hb2) (rangeAt_below hy1.1 hb2) (triv_below hx1.2 hb2) (triv_below hy1.2 hb2)
        have hst := sameL_step (f := sameHp) k hkl hkm
        generalize sameHp l[k] m[k] = vb at hSS hst
        have HSS := Lib.hid hSS
        have HST := Lib.hid hst
        have HCT : Hid (Calls Try.prog 93 #[.bool true, .int .i64 k, .pointer (some ⟨b1, o1 + k * 2, none⟩), .pointer (some ⟨bs, 0, none⟩), .pointer (some ⟨bb, 0, none⟩)] wr fun en w' => en = .returned (.bool vb) ∧ Below wr.heap.size wr w') :=
          Lib.hid (cloTHp vb k m.length c2 b1 (o1 + k * 2) b2 o2 bs bb wr hkm ((HB.out.cell (p := ⟨bs, 0, none⟩) (World.block_lt_of_cell? w _ HBS.out)).trans HBS.out) ((HB.out.cell (p := ⟨bb, 0, none⟩) (World.block_lt_of_cell? w _ HBB.out)).trans HBB.out) HSS.out)
        have hcl := enters93
        clear hx hy hx1 hy1 hSS hst
        generalize sameL sameHp (l.take k) (m.take k) = sb at HST ⊢
        cases sb
        · go_wp2_with fail
          refine (cloFHp _ _ _ _ _ _).mono ?_; rintro en w2 ⟨rfl, hb2⟩
          have HB2 : Hid (Below w.heap.size w w2) := Lib.hid (HB.out.trans (hb2.mono HB.out.size))
          clear hb2
          go_wp2_with fail
          go_roundw
          case rel => exact ⟨k + 1, by go_num, by omega, by rw [HST.out]; rfl, HB2⟩
          case measure => simp [intOf]; omega
        · go_wp2_with fail
          refine (HCT.out).mono ?_; rintro en w2 ⟨rfl, hb2⟩
          have HB2 : Hid (Below w.heap.size w w2) := Lib.hid (HB.out.trans (hb2.mono HB.out.size))
          clear hb2
          go_wp2_with fail
          go_roundw
          case rel => exact ⟨k + 1, by go_num, by omega, by rw [HST.out]; rfl, HB2⟩
          case measure => simp [intOf]; omega
      · have h1 : l.take k = l := List.take_of_length_le (by omega)
        have h2 : m.take k = m := List.take_of_length_le (by have := HE.out; omega)
        rw [h1, h2]
        clear h1 h2
        go_wp2_with fail
        go_ret
        exact ⟨rfl, HB.out⟩
  · have heq : ((l.length : Int) == (m.length : Int)) = false := by
      rw [Bool.eq_false_iff]; intro e; rw [beq_iff_eq] at e; exact he (by omega)
    rw [heq, sameL_len he]
    clear he heq
    go_enter Try.func92, Try.ntmps92
    go_wp2_with fail
    go_loopw [1, 10] (fun v i wr => ∃ k : Nat, i = .int .i64 k ∧ k ≤ l.length ∧ v = .bool false ∧ Hid (Below w.heap.size w wr)) (fun _ i _ => l.length - (intOf i).toNat)
    case atStart => exact ⟨0, rfl, Nat.zero_le _, rfl, Lib.hid (Below.refl _ _)⟩
    case round =>
      obtain ⟨k, rfl, hk, rfl, HB⟩ := hrel
      by_cases hkl : k < l.length
      · obtain ⟨b1, o1, rfl, hx⟩ : ∃ b o, p1 = some ⟨b, o, none⟩ ∧ ∀ k x, l[k]? = some x → w.rangeAt b (o + k * 2) (Hp.cells x) ∧ triv w x := by
          rcases H1.out with h | h
          · rw [h] at hkl; simp at hkl
          · exact h
        have hcl := enters93
        clear hx
        go_wp2_with fail
        refine (cloFHp _ _ _ _ _ _).mono ?_; rintro en w2 ⟨rfl, hb2⟩
        have HB2 : Hid (Below w.heap.size w w2) := Lib.hid (HB.out.trans (hb2.mono HB.out.size))
        clear hb2
        go_wp2_with fail
        go_roundw
        case rel => exact ⟨k + 1, by go_num, by omega, rfl, HB2⟩
        case measure => simp [intOf]; omega
      · go_wp2_with fail
        go_ret
        exact ⟨rfl, HB.out⟩

set_option maxHeartbeats 800000 in
set_option maxRecDepth 100000 in
theorem allHp (l m : List Hp) (p1 p2 : Option Addr) (c1 c2 : Nat) (w : World) (h1 : Lay 2 Hp.cells triv w p1 l) (h2 : Lay 2 Hp.cells triv w p2 m) (hS : ∀ x ∈ l, ∀ y ∈ m, OkHp x y) :
    Calls Try.prog 79 #[.slice p1 l.length c1, .slice p2 m.length c2, .func (.func 80) #[] #[]] w fun en w' => en = .returned (.bool (sameL sameHp l m)) ∧ Below w.heap.size w w' := by
  have ha : Below w.heap.size w ((w.alloc (.cells #[.slice p2 m.length c2] 46)).alloc (.cells #[.func (.func 80) #[] #[]] 124)) := ((Below.refl _ _).alloc (Nat.le_refl _) _).alloc (by simp) _
  have HF := Lib.hid (foldHp l m p1 p2 c1 c2 (w.heap.size + 1) w.heap.size ((w.alloc (.cells #[.slice p2 m.length c2] 46)).alloc (.cells #[.func (.func 80) #[] #[]] 124)) (h1.below ha (fun _ h => triv_below h ha)) (h2.below ha (fun _ h => triv_below h ha))
    (cell_of_row _ _ 0 _ _ _ (heap_alloc2_new w _ _)) (cell_of_row _ _ 0 _ _ _ (heap_alloc2_old w _ _)) hS)
  have HA := Lib.hid ha
  have hl1 := h1.1
  have hl2 := h2.1
  clear ha h1 h2 hS
  go_enter Try.func79, Try.ntmps79
  go_wp2_with fail
  refine (HF.out).mono ?_; rintro en w2 ⟨rfl, hb2⟩
  have HB2 : Hid (Below w.heap.size w w2) := Lib.hid (HA.out.trans (hb2.mono HA.out.size))
  clear hb2
  go_wp2_with fail
  go_ret
  exact ⟨rfl, HB2.out⟩

end Go.Proofs.Ytpbjnjnmbglllaa
