/-
  The walks of 'are they the same': the document's, of paths, values, declarations.
-/
import Derived.Test.YtdlchhimkelinaaGreatDoorP02
import Derived.WalkLawsBesides
import Derived.Laws.StructEq
set_option maxHeartbeats 6400000
set_option maxRecDepth 100000
namespace Go.Proofs.YtdlchhimkelinaaGreatDoor
open Go.RowKit Go.Sort
theorem sameL_at {α : Type} {f : α → α → Bool} : ∀ {l m : List α} (k : Nat) (h1 : k < l.length) (h2 : k < m.length), f l[k] m[k] = false → sameL f l m = false
 | a :: l, b :: m, 0, _, _, h => by simp only [List.getElem_cons_zero] at h; simp [sameL, h]
 | a :: l, b :: m, k + 1, h1, h2, h => by
  simp only [List.length_cons, Nat.add_lt_add_iff_right] at h1 h2
  simp only [List.getElem_cons_succ] at h
  rw [sameL, sameL_at k h1 h2 h, Bool.and_false]
theorem refTerm_any (s : ByteArray) (n a : Int) (w : World) :
  Calls Tryz.prog 135 #[.agg #[.string s, .int .i64 n, .int .i64 a]] w fun en w' => en = .returned (.agg #[.string s, .int .i64 n, .int .i64 0]) ∧ Below w.heap.size w w' := by
 go_enter Tryz.func135, Tryz.ntmps135
 go_wp2_with fail
 refine bodyPost_ret (v := .agg #[.string s, .int .i64 n, .int .i64 0]) (by simp [results, Tryz.results135, go_sem]) rfl ⟨rfl, ?_⟩
 first
  | exact ((Below.refl _ _).alloc (Nat.le_refl _) _).alloc (by simp) _
  | exact (((((Below.refl _ _).alloc (Nat.le_refl _) _).alloc (by simp) _).setCell (by simp) _).setCell (by simp) _).setCell (by simp) _
theorem refPath_any (x y : Pth) (w : World) (rx : pthLies w x) (ry : pthLies w y) :
  Calls Tryz.prog 97 #[.agg #[.string x.name, .int .i64 x.pos, .slice x.hops.p x.hops.l.length x.hops.cap], .agg #[.string y.name, .int .i64 y.pos, .slice y.hops.p y.hops.l.length y.hops.cap]] w fun en w' => en = .returned (.bool (samePth x y)) ∧ Below w.heap.size w w' := by
 have h1 : Lay 2 Hp.cells triv w x.hops.p x.hops.l := Lay.of_sl rx (by decide)
 have h2 : Lay 2 Hp.cells triv w y.hops.p y.hops.l := Lay.of_sl ry (by decide)
 obtain ⟨hl1, h1⟩ := h1
 obtain ⟨hl2, h2⟩ := h2
 show Calls _ _ _ _ (fun en w' => en = .returned (.bool ((x.name.toList == y.name.toList) && sameL sameHp x.hops.l y.hops.l)) ∧ Below w.heap.size w w')
 generalize hnm : (x.name.toList == y.name.toList) = vn
 have H1 := hdn h1
 have H2 := hdn h2
 clear h1 h2 rx ry
 generalize x.hops.p = p1 at *
 generalize y.hops.p = p2 at *
 generalize x.hops.l = l at *
 generalize y.hops.l = m at *
 generalize x.hops.cap = c1 at *
 generalize y.hops.cap = c2 at *
 generalize x.name = nx at *
 generalize y.name = ny at *
 generalize x.pos = ax at *
 generalize y.pos = ay at *
 cases vn
 ·go_enter Tryz.func97, Tryz.ntmps97
  go_wp2_with fail
  go_ret
  exact ⟨rfl, ((Below.refl _ _).alloc (Nat.le_refl _) _).alloc (by simp) _⟩
 ·by_cases he : l.length = m.length
  ·have heq : ((l.length : Int) != (m.length : Int)) = false := by rw [he]; simp
   have HE := hdn he
   have ha : Below w.heap.size w ((w.alloc (.cells #[.string nx, .int .i64 ax, .slice p1 l.length c1] 45)).alloc (.cells #[.string ny, .int .i64 ay, .slice p2 m.length c2] 45)) := ((Below.refl _ _).alloc (Nat.le_refl _) _).alloc (by simp) _
   have k1 : ((w.alloc (.cells #[.string nx, .int .i64 ax, .slice p1 l.length c1] 45)).alloc (.cells #[.string ny, .int .i64 ay, .slice p2 m.length c2] 45)).cell? ⟨w.heap.size, 2, none⟩ = some (.slice p1 l.length c1) := cell_of_row _ _ 2 _ _ _ (heap_alloc2_old w _ _)
   have k2 : ((w.alloc (.cells #[.string nx, .int .i64 ax, .slice p1 l.length c1] 45)).alloc (.cells #[.string ny, .int .i64 ay, .slice p2 m.length c2] 45)).cell? ⟨w.heap.size + 1, 2, none⟩ = some (.slice p2 m.length c2) := cell_of_row _ _ 2 _ _ _ (heap_alloc2_new w _ _)
   have HA := hdn ha
   have HK1 := hdn k1
   have HK2 := hdn k2
   clear he ha k1 k2
   go_enter Tryz.func97, Tryz.ntmps97
   go_wp2_with fail
   clear hnm heq
   generalize ((w.alloc (.cells #[.string nx, .int .i64 ax, .slice p1 l.length c1] 45)).alloc (.cells #[.string ny, .int .i64 ay, .slice p2 m.length c2] 45)) = wA at HA HK1 HK2 ⊢
   go_loopw [5] (fun i wr => ∃ k : Nat, i = .int .i64 k ∧ k ≤ l.length ∧ Hid (sameL sameHp (l.take k) (m.take k) = true) ∧ Hid (Below wA.heap.size wA wr)) (fun i _ => l.length - (intOf i).toNat)
   case atStart => exact ⟨0, rfl, Nat.zero_le _, hdn rfl, hdn (Below.refl _ _)⟩
   case round =>
    obtain ⟨k, rfl, hk, HT, HB⟩ := hrel
    have q1 : wr.cell? ⟨w.heap.size, 2, none⟩ = some (.slice p1 l.length c1) := (HB.out.cell (p := ⟨w.heap.size, 2, none⟩) (World.block_lt_of_cell? wA _ HK1.out)).trans HK1.out
    have q2 : wr.cell? ⟨w.heap.size + 1, 2, none⟩ = some (.slice p2 m.length c2) := (HB.out.cell (p := ⟨w.heap.size + 1, 2, none⟩) (World.block_lt_of_cell? wA _ HK2.out)).trans HK2.out
    have HBW : Hid (Below w.heap.size w wr) := hdn (HA.out.trans (HB.out.mono HA.out.size))
    by_cases hkl : k < l.length
    ·have hkm : k < m.length := by have := HE.out; omega
     obtain ⟨b1, o1, rfl, hx⟩ : ∃ b o, p1 = some ⟨b, o, none⟩ ∧ ∀ k x, l[k]? = some x → w.rangeAt b (o + k * 2) (Hp.cells x) ∧ triv w x := by
      rcases H1.out with h | h
      ·rw [h] at hkl; simp at hkl
      ·exact h
     obtain ⟨b2, o2, rfl, hy⟩ : ∃ b o, p2 = some ⟨b, o, none⟩ ∧ ∀ k x, m[k]? = some x → w.rangeAt b (o + k * 2) (Hp.cells x) ∧ triv w x := by
      rcases H2.out with h | h
      ·rw [h] at hkm; simp at hkm
      ·exact h
     have cx := cell_at (rangeAt_below (hx k l[k] (List.getElem?_eq_getElem hkl)).1 HBW.out) 0 _ rfl
     have cy := cell_at (rangeAt_below (hy k m[k] (List.getElem?_eq_getElem hkm)).1 HBW.out) 0 _ rfl
     rw [Nat.add_zero] at cx cy
     have hst := sameL_step (f := sameHp) k hkl hkm
     have hat := sameL_at (f := sameHp) k hkl hkm
     have hk0 : (0 : Int) ≤ (k : Int) := Int.natCast_nonneg _
     have hk1 : (k : Int) < (l.length : Int) := by omega
     have hk2 : (k : Int) < (m.length : Int) := by omega
     rw [show sameHp l[k] m[k] = (l[k].name.toList == m[k].name.toList) from rfl] at hst hat
     generalize l[k].name = nk at cx hst hat
     generalize m[k].name = mk at cy hst hat
     generalize hnn : (nk.toList == mk.toList) = vk at hst hat
     have HST := hdn hst
     have HAT := hdn hat
     clear hx hy hst hat
     have hnn' : (nk.toList != mk.toList) = !vk := by rw [← hnn]; rfl
     cases vk
     ·go_wp2_with fail
      go_quiet (fail)
      go_wp2_with fail
      go_ret
      exact ⟨ret_bool (by rw [HAT.out (by first | rfl | trivial)]; rfl), below_drewN_ HBW.out _⟩
     ·go_wp2_with fail
      go_quiet (fail)
      go_wp2_with fail
      go_roundw
      case rel => exact ⟨k + 1, by go_num, by omega, hdn (by rw [HST.out, HT.out]; rfl), hdn (below_drewN_ HB.out _)⟩
      case measure => simp [intOf]; omega
    ·have HF : Hid (sameL sameHp l m = true) := hdn (by
      have := HT.out
      rwa [List.take_of_length_le (by omega), List.take_of_length_le (by have := HE.out; omega)] at this)
     go_wp2_with fail
     go_ret
     exact ⟨ret_bool (by rw [HF.out]; rfl), HBW.out⟩
  ·have heq : ((l.length : Int) != (m.length : Int)) = true := by
    rw [bne_iff_ne]; intro e; exact he (by omega)
   rw [sameL_len he]
   clear he
   go_enter Tryz.func97, Tryz.ntmps97
   go_wp2_with fail
   go_ret
   exact ⟨rfl, ((Below.refl _ _).alloc (Nat.le_refl _) _).alloc (by simp) _⟩
theorem refDecls_any (l m : List Dc) (p1 p2 : Option Addr) (c1 c2 : Nat) (w : World) (h1 : Lay 3 Dc.cells triv w p1 l) (h2 : Lay 3 Dc.cells triv w p2 m) :
  Calls Tryz.prog 27 #[.slice p1 l.length c1, .slice p2 m.length c2] w fun en w' => en = .returned (.bool (sameL sameDc l m)) ∧ Below w.heap.size w w' := by
 obtain ⟨hl1, h1⟩ := h1
 obtain ⟨hl2, h2⟩ := h2
 have H1 := hdn h1
 have H2 := hdn h2
 clear h1 h2
 by_cases he : l.length = m.length
 ·have heq : ((l.length : Int) != (m.length : Int)) = false := by rw [he]; simp
  have HE := hdn he
  clear he
  go_enter Tryz.func27, Tryz.ntmps27
  go_wp2_with fail
  clear heq
  go_loopw [5] (fun i wr => ∃ k : Nat, i = .int .i64 k ∧ k ≤ l.length ∧ Hid (sameL sameDc (l.take k) (m.take k) = true) ∧ Hid (Below w.heap.size w wr)) (fun i _ => l.length - (intOf i).toNat)
  case atStart => exact ⟨0, rfl, Nat.zero_le _, hdn rfl, hdn (Below.refl _ _)⟩
  case round =>
   obtain ⟨k, rfl, hk, HT, HB⟩ := hrel
   by_cases hkl0 : k < l.length
   ·have hkm : k < m.length := by have := HE.out; omega
    have hkl := hkm
    obtain ⟨b2, o2, rfl, h2x⟩ : ∃ b o, p2 = some ⟨b, o, none⟩ ∧ ∀ k x, m[k]? = some x → w.rangeAt b (o + k * 3) (Dc.cells x) ∧ triv w x := by
     rcases H2.out with h | h
     ·rw [h] at hkl; simp at hkl
     ·exact h
    clear hkl
    have hkl := hkl0
    obtain ⟨b1, o1, rfl, h1x⟩ : ∃ b o, p1 = some ⟨b, o, none⟩ ∧ ∀ k x, l[k]? = some x → w.rangeAt b (o + k * 3) (Dc.cells x) ∧ triv w x := by
     rcases H1.out with h | h
     ·rw [h] at hkl; simp at hkl
     ·exact h
    have cx := cell_at (rangeAt_below (h1x k l[k] (List.getElem?_eq_getElem hkl)).1 HB.out) 0 _ rfl
    have cy := cell_at (rangeAt_below (h2x k m[k] (List.getElem?_eq_getElem hkm)).1 HB.out) 0 _ rfl
    have cx1 := cell_at (rangeAt_below (h1x k l[k] (List.getElem?_eq_getElem hkl)).1 HB.out) 1 _ rfl
    have cy1 := cell_at (rangeAt_below (h2x k m[k] (List.getElem?_eq_getElem hkm)).1 HB.out) 1 _ rfl
    rw [Nat.add_zero] at cx cy
    have hst := sameL_step (f := sameDc) k hkl hkm
    have hat := sameL_at (f := sameDc) k hkl hkm
    have hk0 : (0 : Int) ≤ (k : Int) := Int.natCast_nonneg _
    have hk1 : (k : Int) < (l.length : Int) := by omega
    have hk2 : (k : Int) < (m.length : Int) := by omega
    rw [show sameDc l[k] m[k] = ((l[k].type.toList == m[k].type.toList) && (l[k].name.toList == m[k].name.toList)) from rfl] at hst hat
    generalize l[k].name = nk at cx1 hst hat
    generalize m[k].name = mk at cy1 hst hat
    generalize l[k].type = tk at cx hst hat
    generalize m[k].type = uk at cy hst hat
    generalize hn1 : (nk.toList == mk.toList) = v1 at hst hat
    generalize hn2 : (tk.toList == uk.toList) = v2 at hst hat
    have HST := hdn hst
    have HAT := hdn hat
    clear h1x h2x hst hat hkl0
    have hm1 : (nk.toList != mk.toList) = !v1 := by rw [← hn1]; rfl
    have hm2 : (tk.toList != uk.toList) = !v2 := by rw [← hn2]; rfl
    cases v2
    ·go_wp2_with fail
     go_quiet (fail)
     go_wp2_with fail
     go_ret
     exact ⟨ret_bool (by rw [HAT.out (by first | rfl | trivial | simp)]), below_drewN_ HB.out _⟩
    ·cases v1
     ·go_wp2_with fail
      go_quiet (fail)
      go_wp2_with fail
      go_ret
      exact ⟨ret_bool (by rw [HAT.out (by first | rfl | trivial | simp)]), below_drewN_ HB.out _⟩
     ·go_wp2_with fail
      go_quiet (fail)
      go_wp2_with fail
      go_roundw
      case rel => exact ⟨k + 1, by go_num, by omega, hdn (by rw [HST.out, HT.out]; rfl), hdn (below_drewN_ HB.out _)⟩
      case measure => simp [intOf]; omega
   ·have HF : Hid (sameL sameDc l m = true) := hdn (by
     have := HT.out
     rwa [List.take_of_length_le (by omega), List.take_of_length_le (by have := HE.out; omega)] at this)
    go_wp2_with fail
    go_ret
    exact ⟨ret_bool (by rw [HF.out]), HB.out⟩
 ·have heq : ((l.length : Int) != (m.length : Int)) = true := by
   rw [bne_iff_ne]; intro e; exact he (by omega)
  rw [sameL_len he]
  clear he
  go_enter Tryz.func27, Tryz.ntmps27
  go_wp2_with fail
  go_ret
  exact ⟨rfl, Below.refl _ _⟩
theorem sameVl_flat (x y : Vl) : sameVl x y = ((x.kind == y.kind) && (samePth x.path y.path && ((x.type.toList == y.type.toList) && ((x.left.name.toList == y.left.name.toList) && ((x.left.n == y.left.n) && ((x.right.name.toList == y.right.name.toList) && ((x.right.n == y.right.n)))))))) := by
 unfold sameVl sameTm
 generalize (x.kind == y.kind) = a
 generalize samePth x.path y.path = b
 generalize (x.type.toList == y.type.toList) = c
 generalize (x.left.name.toList == y.left.name.toList) = d
 generalize (x.left.n == y.left.n) = e
 generalize (x.right.name.toList == y.right.name.toList) = f
 generalize (x.right.n == y.right.n) = g
 cases a <;> cases b <;> cases c <;> cases d <;> cases e <;> cases f <;> cases g <;> rfl
theorem refValue_any (x y : Vl) (w : World) (rx : vlLies w x) (ry : vlLies w y) :
  Calls Tryz.prog 96 #[.agg #[.int .i64 x.kind, .int .i64 x.pos, .string x.path.name, .int .i64 x.path.pos, .slice x.path.hops.p x.path.hops.l.length x.path.hops.cap, .string x.type, .string x.left.name, .int .i64 x.left.n, .int .i64 x.left.pos, .string x.right.name, .int .i64 x.right.n, .int .i64 x.right.pos], .agg #[.int .i64 y.kind, .int .i64 y.pos, .string y.path.name, .int .i64 y.path.pos, .slice y.path.hops.p y.path.hops.l.length y.path.hops.cap, .string y.type, .string y.left.name, .int .i64 y.left.n, .int .i64 y.left.pos, .string y.right.name, .int .i64 y.right.n, .int .i64 y.right.pos]] w fun en w' => en = .returned (.bool (sameVl x y)) ∧ Below w.heap.size w w' := by
 have ha : Below w.heap.size w ((w.alloc (.cells #[.int .i64 x.kind, .int .i64 x.pos, .string x.path.name, .int .i64 x.path.pos, .slice x.path.hops.p x.path.hops.l.length x.path.hops.cap, .string x.type, .string x.left.name, .int .i64 x.left.n, .int .i64 x.left.pos, .string x.right.name, .int .i64 x.right.n, .int .i64 x.right.pos] 49)).alloc (.cells #[.int .i64 y.kind, .int .i64 y.pos, .string y.path.name, .int .i64 y.path.pos, .slice y.path.hops.p y.path.hops.l.length y.path.hops.cap, .string y.type, .string y.left.name, .int .i64 y.left.n, .int .i64 y.left.pos, .string y.right.name, .int .i64 y.right.n, .int .i64 y.right.pos] 49)) := ((Below.refl _ _).alloc (Nat.le_refl _) _).alloc (by simp) _
 have C1 : ∀ dd os, Calls Tryz.prog 97 #[.agg #[.string x.path.name, .int .i64 x.path.pos, .slice x.path.hops.p x.path.hops.l.length x.path.hops.cap], .agg #[.string y.path.name, .int .i64 y.path.pos, .slice y.path.hops.p y.path.hops.l.length y.path.hops.cap]] (grow (redrawn ((w.alloc (.cells #[.int .i64 x.kind, .int .i64 x.pos, .string x.path.name, .int .i64 x.path.pos, .slice x.path.hops.p x.path.hops.l.length x.path.hops.cap, .string x.type, .string x.left.name, .int .i64 x.left.n, .int .i64 x.left.pos, .string x.right.name, .int .i64 x.right.n, .int .i64 x.right.pos] 49)).alloc (.cells #[.int .i64 y.kind, .int .i64 y.pos, .string y.path.name, .int .i64 y.path.pos, .slice y.path.hops.p y.path.hops.l.length y.path.hops.cap, .string y.type, .string y.left.name, .int .i64 y.left.n, .int .i64 y.left.pos, .string y.right.name, .int .i64 y.right.n, .int .i64 y.right.pos] 49)) dd) os) fun en w'' => en = .returned (.bool (samePth x.path y.path)) ∧ ∃ p : Regrown, w'' = grow (redrawn ((w.alloc (.cells #[.int .i64 x.kind, .int .i64 x.pos, .string x.path.name, .int .i64 x.path.pos, .slice x.path.hops.p x.path.hops.l.length x.path.hops.cap, .string x.type, .string x.left.name, .int .i64 x.left.n, .int .i64 x.left.pos, .string x.right.name, .int .i64 x.right.n, .int .i64 x.right.pos] 49)).alloc (.cells #[.int .i64 y.kind, .int .i64 y.pos, .string y.path.name, .int .i64 y.path.pos, .slice y.path.hops.p y.path.hops.l.length y.path.hops.cap, .string y.type, .string y.left.name, .int .i64 y.left.n, .int .i64 y.left.pos, .string y.right.name, .int .i64 y.right.n, .int .i64 y.right.pos] 49)) p.d) p.os :=
  fun dd os => Calls.regrown_of (refPath_any x.path y.path _ (pthLies_of (vlLies_below (vlLies_below rx ha) (below_regrown _ _ _))) (pthLies_of (vlLies_below (vlLies_below ry ha) (below_regrown _ _ _))))
 have C2 : ∀ (s : ByteArray) (n a : Int) dd os, Calls Tryz.prog 135 #[.agg #[.string s, .int .i64 n, .int .i64 a]] (grow (redrawn ((w.alloc (.cells #[.int .i64 x.kind, .int .i64 x.pos, .string x.path.name, .int .i64 x.path.pos, .slice x.path.hops.p x.path.hops.l.length x.path.hops.cap, .string x.type, .string x.left.name, .int .i64 x.left.n, .int .i64 x.left.pos, .string x.right.name, .int .i64 x.right.n, .int .i64 x.right.pos] 49)).alloc (.cells #[.int .i64 y.kind, .int .i64 y.pos, .string y.path.name, .int .i64 y.path.pos, .slice y.path.hops.p y.path.hops.l.length y.path.hops.cap, .string y.type, .string y.left.name, .int .i64 y.left.n, .int .i64 y.left.pos, .string y.right.name, .int .i64 y.right.n, .int .i64 y.right.pos] 49)) dd) os) fun en w'' => en = .returned (.agg #[.string s, .int .i64 n, .int .i64 0]) ∧ ∃ p : Regrown, w'' = grow (redrawn ((w.alloc (.cells #[.int .i64 x.kind, .int .i64 x.pos, .string x.path.name, .int .i64 x.path.pos, .slice x.path.hops.p x.path.hops.l.length x.path.hops.cap, .string x.type, .string x.left.name, .int .i64 x.left.n, .int .i64 x.left.pos, .string x.right.name, .int .i64 x.right.n, .int .i64 x.right.pos] 49)).alloc (.cells #[.int .i64 y.kind, .int .i64 y.pos, .string y.path.name, .int .i64 y.path.pos, .slice y.path.hops.p y.path.hops.l.length y.path.hops.cap, .string y.type, .string y.left.name, .int .i64 y.left.n, .int .i64 y.left.pos, .string y.right.name, .int .i64 y.right.n, .int .i64 y.right.pos] 49)) p.d) p.os :=
  fun s n a dd os => Calls.regrown_of (refTerm_any s n a _)
 have HA := hdn ha
 rw [sameVl_flat]
 clear ha rx ry
 have kx0 := cell_regrown (w := ((w.alloc (.cells #[.int .i64 x.kind, .int .i64 x.pos, .string x.path.name, .int .i64 x.path.pos, .slice x.path.hops.p x.path.hops.l.length x.path.hops.cap, .string x.type, .string x.left.name, .int .i64 x.left.n, .int .i64 x.left.pos, .string x.right.name, .int .i64 x.right.n, .int .i64 x.right.pos] 49)).alloc (.cells #[.int .i64 y.kind, .int .i64 y.pos, .string y.path.name, .int .i64 y.path.pos, .slice y.path.hops.p y.path.hops.l.length y.path.hops.cap, .string y.type, .string y.left.name, .int .i64 y.left.n, .int .i64 y.left.pos, .string y.right.name, .int .i64 y.right.n, .int .i64 y.right.pos] 49))) (a := ⟨w.heap.size, 0, none⟩) (cell_of_row _ _ 0 _ _ _ (heap_alloc2_old w _ _))
 have ky0 := cell_regrown (w := ((w.alloc (.cells #[.int .i64 x.kind, .int .i64 x.pos, .string x.path.name, .int .i64 x.path.pos, .slice x.path.hops.p x.path.hops.l.length x.path.hops.cap, .string x.type, .string x.left.name, .int .i64 x.left.n, .int .i64 x.left.pos, .string x.right.name, .int .i64 x.right.n, .int .i64 x.right.pos] 49)).alloc (.cells #[.int .i64 y.kind, .int .i64 y.pos, .string y.path.name, .int .i64 y.path.pos, .slice y.path.hops.p y.path.hops.l.length y.path.hops.cap, .string y.type, .string y.left.name, .int .i64 y.left.n, .int .i64 y.left.pos, .string y.right.name, .int .i64 y.right.n, .int .i64 y.right.pos] 49))) (a := ⟨w.heap.size + 1, 0, none⟩) (cell_of_row _ _ 0 _ _ _ (heap_alloc2_new w _ _))
 have kx1 := cell_regrown (w := ((w.alloc (.cells #[.int .i64 x.kind, .int .i64 x.pos, .string x.path.name, .int .i64 x.path.pos, .slice x.path.hops.p x.path.hops.l.length x.path.hops.cap, .string x.type, .string x.left.name, .int .i64 x.left.n, .int .i64 x.left.pos, .string x.right.name, .int .i64 x.right.n, .int .i64 x.right.pos] 49)).alloc (.cells #[.int .i64 y.kind, .int .i64 y.pos, .string y.path.name, .int .i64 y.path.pos, .slice y.path.hops.p y.path.hops.l.length y.path.hops.cap, .string y.type, .string y.left.name, .int .i64 y.left.n, .int .i64 y.left.pos, .string y.right.name, .int .i64 y.right.n, .int .i64 y.right.pos] 49))) (a := ⟨w.heap.size, 1, none⟩) (cell_of_row _ _ 1 _ _ _ (heap_alloc2_old w _ _))
 have ky1 := cell_regrown (w := ((w.alloc (.cells #[.int .i64 x.kind, .int .i64 x.pos, .string x.path.name, .int .i64 x.path.pos, .slice x.path.hops.p x.path.hops.l.length x.path.hops.cap, .string x.type, .string x.left.name, .int .i64 x.left.n, .int .i64 x.left.pos, .string x.right.name, .int .i64 x.right.n, .int .i64 x.right.pos] 49)).alloc (.cells #[.int .i64 y.kind, .int .i64 y.pos, .string y.path.name, .int .i64 y.path.pos, .slice y.path.hops.p y.path.hops.l.length y.path.hops.cap, .string y.type, .string y.left.name, .int .i64 y.left.n, .int .i64 y.left.pos, .string y.right.name, .int .i64 y.right.n, .int .i64 y.right.pos] 49))) (a := ⟨w.heap.size + 1, 1, none⟩) (cell_of_row _ _ 1 _ _ _ (heap_alloc2_new w _ _))
 have kx2 := cell_regrown (w := ((w.alloc (.cells #[.int .i64 x.kind, .int .i64 x.pos, .string x.path.name, .int .i64 x.path.pos, .slice x.path.hops.p x.path.hops.l.length x.path.hops.cap, .string x.type, .string x.left.name, .int .i64 x.left.n, .int .i64 x.left.pos, .string x.right.name, .int .i64 x.right.n, .int .i64 x.right.pos] 49)).alloc (.cells #[.int .i64 y.kind, .int .i64 y.pos, .string y.path.name, .int .i64 y.path.pos, .slice y.path.hops.p y.path.hops.l.length y.path.hops.cap, .string y.type, .string y.left.name, .int .i64 y.left.n, .int .i64 y.left.pos, .string y.right.name, .int .i64 y.right.n, .int .i64 y.right.pos] 49))) (a := ⟨w.heap.size, 2, none⟩) (cell_of_row _ _ 2 _ _ _ (heap_alloc2_old w _ _))
 have ky2 := cell_regrown (w := ((w.alloc (.cells #[.int .i64 x.kind, .int .i64 x.pos, .string x.path.name, .int .i64 x.path.pos, .slice x.path.hops.p x.path.hops.l.length x.path.hops.cap, .string x.type, .string x.left.name, .int .i64 x.left.n, .int .i64 x.left.pos, .string x.right.name, .int .i64 x.right.n, .int .i64 x.right.pos] 49)).alloc (.cells #[.int .i64 y.kind, .int .i64 y.pos, .string y.path.name, .int .i64 y.path.pos, .slice y.path.hops.p y.path.hops.l.length y.path.hops.cap, .string y.type, .string y.left.name, .int .i64 y.left.n, .int .i64 y.left.pos, .string y.right.name, .int .i64 y.right.n, .int .i64 y.right.pos] 49))) (a := ⟨w.heap.size + 1, 2, none⟩) (cell_of_row _ _ 2 _ _ _ (heap_alloc2_new w _ _))
 have kx3 := cell_regrown (w := ((w.alloc (.cells #[.int .i64 x.kind, .int .i64 x.pos, .string x.path.name, .int .i64 x.path.pos, .slice x.path.hops.p x.path.hops.l.length x.path.hops.cap, .string x.type, .string x.left.name, .int .i64 x.left.n, .int .i64 x.left.pos, .string x.right.name, .int .i64 x.right.n, .int .i64 x.right.pos] 49)).alloc (.cells #[.int .i64 y.kind, .int .i64 y.pos, .string y.path.name, .int .i64 y.path.pos, .slice y.path.hops.p y.path.hops.l.length y.path.hops.cap, .string y.type, .string y.left.name, .int .i64 y.left.n, .int .i64 y.left.pos, .string y.right.name, .int .i64 y.right.n, .int .i64 y.right.pos] 49))) (a := ⟨w.heap.size, 3, none⟩) (cell_of_row _ _ 3 _ _ _ (heap_alloc2_old w _ _))
 have ky3 := cell_regrown (w := ((w.alloc (.cells #[.int .i64 x.kind, .int .i64 x.pos, .string x.path.name, .int .i64 x.path.pos, .slice x.path.hops.p x.path.hops.l.length x.path.hops.cap, .string x.type, .string x.left.name, .int .i64 x.left.n, .int .i64 x.left.pos, .string x.right.name, .int .i64 x.right.n, .int .i64 x.right.pos] 49)).alloc (.cells #[.int .i64 y.kind, .int .i64 y.pos, .string y.path.name, .int .i64 y.path.pos, .slice y.path.hops.p y.path.hops.l.length y.path.hops.cap, .string y.type, .string y.left.name, .int .i64 y.left.n, .int .i64 y.left.pos, .string y.right.name, .int .i64 y.right.n, .int .i64 y.right.pos] 49))) (a := ⟨w.heap.size + 1, 3, none⟩) (cell_of_row _ _ 3 _ _ _ (heap_alloc2_new w _ _))
 have kx4 := cell_regrown (w := ((w.alloc (.cells #[.int .i64 x.kind, .int .i64 x.pos, .string x.path.name, .int .i64 x.path.pos, .slice x.path.hops.p x.path.hops.l.length x.path.hops.cap, .string x.type, .string x.left.name, .int .i64 x.left.n, .int .i64 x.left.pos, .string x.right.name, .int .i64 x.right.n, .int .i64 x.right.pos] 49)).alloc (.cells #[.int .i64 y.kind, .int .i64 y.pos, .string y.path.name, .int .i64 y.path.pos, .slice y.path.hops.p y.path.hops.l.length y.path.hops.cap, .string y.type, .string y.left.name, .int .i64 y.left.n, .int .i64 y.left.pos, .string y.right.name, .int .i64 y.right.n, .int .i64 y.right.pos] 49))) (a := ⟨w.heap.size, 4, none⟩) (cell_of_row _ _ 4 _ _ _ (heap_alloc2_old w _ _))
 have ky4 := cell_regrown (w := ((w.alloc (.cells #[.int .i64 x.kind, .int .i64 x.pos, .string x.path.name, .int .i64 x.path.pos, .slice x.path.hops.p x.path.hops.l.length x.path.hops.cap, .string x.type, .string x.left.name, .int .i64 x.left.n, .int .i64 x.left.pos, .string x.right.name, .int .i64 x.right.n, .int .i64 x.right.pos] 49)).alloc (.cells #[.int .i64 y.kind, .int .i64 y.pos, .string y.path.name, .int .i64 y.path.pos, .slice y.path.hops.p y.path.hops.l.length y.path.hops.cap, .string y.type, .string y.left.name, .int .i64 y.left.n, .int .i64 y.left.pos, .string y.right.name, .int .i64 y.right.n, .int .i64 y.right.pos] 49))) (a := ⟨w.heap.size + 1, 4, none⟩) (cell_of_row _ _ 4 _ _ _ (heap_alloc2_new w _ _))
 have kx5 := cell_regrown (w := ((w.alloc (.cells #[.int .i64 x.kind, .int .i64 x.pos, .string x.path.name, .int .i64 x.path.pos, .slice x.path.hops.p x.path.hops.l.length x.path.hops.cap, .string x.type, .string x.left.name, .int .i64 x.left.n, .int .i64 x.left.pos, .string x.right.name, .int .i64 x.right.n, .int .i64 x.right.pos] 49)).alloc (.cells #[.int .i64 y.kind, .int .i64 y.pos, .string y.path.name, .int .i64 y.path.pos, .slice y.path.hops.p y.path.hops.l.length y.path.hops.cap, .string y.type, .string y.left.name, .int .i64 y.left.n, .int .i64 y.left.pos, .string y.right.name, .int .i64 y.right.n, .int .i64 y.right.pos] 49))) (a := ⟨w.heap.size, 5, none⟩) (cell_of_row _ _ 5 _ _ _ (heap_alloc2_old w _ _))
 have ky5 := cell_regrown (w := ((w.alloc (.cells #[.int .i64 x.kind, .int .i64 x.pos, .string x.path.name, .int .i64 x.path.pos, .slice x.path.hops.p x.path.hops.l.length x.path.hops.cap, .string x.type, .string x.left.name, .int .i64 x.left.n, .int .i64 x.left.pos, .string x.right.name, .int .i64 x.right.n, .int .i64 x.right.pos] 49)).alloc (.cells #[.int .i64 y.kind, .int .i64 y.pos, .string y.path.name, .int .i64 y.path.pos, .slice y.path.hops.p y.path.hops.l.length y.path.hops.cap, .string y.type, .string y.left.name, .int .i64 y.left.n, .int .i64 y.left.pos, .string y.right.name, .int .i64 y.right.n, .int .i64 y.right.pos] 49))) (a := ⟨w.heap.size + 1, 5, none⟩) (cell_of_row _ _ 5 _ _ _ (heap_alloc2_new w _ _))
 have kx6 := cell_regrown (w := ((w.alloc (.cells #[.int .i64 x.kind, .int .i64 x.pos, .string x.path.name, .int .i64 x.path.pos, .slice x.path.hops.p x.path.hops.l.length x.path.hops.cap, .string x.type, .string x.left.name, .int .i64 x.left.n, .int .i64 x.left.pos, .string x.right.name, .int .i64 x.right.n, .int .i64 x.right.pos] 49)).alloc (.cells #[.int .i64 y.kind, .int .i64 y.pos, .string y.path.name, .int .i64 y.path.pos, .slice y.path.hops.p y.path.hops.l.length y.path.hops.cap, .string y.type, .string y.left.name, .int .i64 y.left.n, .int .i64 y.left.pos, .string y.right.name, .int .i64 y.right.n, .int .i64 y.right.pos] 49))) (a := ⟨w.heap.size, 6, none⟩) (cell_of_row _ _ 6 _ _ _ (heap_alloc2_old w _ _))
 have ky6 := cell_regrown (w := ((w.alloc (.cells #[.int .i64 x.kind, .int .i64 x.pos, .string x.path.name, .int .i64 x.path.pos, .slice x.path.hops.p x.path.hops.l.length x.path.hops.cap, .string x.type, .string x.left.name, .int .i64 x.left.n, .int .i64 x.left.pos, .string x.right.name, .int .i64 x.right.n, .int .i64 x.right.pos] 49)).alloc (.cells #[.int .i64 y.kind, .int .i64 y.pos, .string y.path.name, .int .i64 y.path.pos, .slice y.path.hops.p y.path.hops.l.length y.path.hops.cap, .string y.type, .string y.left.name, .int .i64 y.left.n, .int .i64 y.left.pos, .string y.right.name, .int .i64 y.right.n, .int .i64 y.right.pos] 49))) (a := ⟨w.heap.size + 1, 6, none⟩) (cell_of_row _ _ 6 _ _ _ (heap_alloc2_new w _ _))
 have kx7 := cell_regrown (w := ((w.alloc (.cells #[.int .i64 x.kind, .int .i64 x.pos, .string x.path.name, .int .i64 x.path.pos, .slice x.path.hops.p x.path.hops.l.length x.path.hops.cap, .string x.type, .string x.left.name, .int .i64 x.left.n, .int .i64 x.left.pos, .string x.right.name, .int .i64 x.right.n, .int .i64 x.right.pos] 49)).alloc (.cells #[.int .i64 y.kind, .int .i64 y.pos, .string y.path.name, .int .i64 y.path.pos, .slice y.path.hops.p y.path.hops.l.length y.path.hops.cap, .string y.type, .string y.left.name, .int .i64 y.left.n, .int .i64 y.left.pos, .string y.right.name, .int .i64 y.right.n, .int .i64 y.right.pos] 49))) (a := ⟨w.heap.size, 7, none⟩) (cell_of_row _ _ 7 _ _ _ (heap_alloc2_old w _ _))
 have ky7 := cell_regrown (w := ((w.alloc (.cells #[.int .i64 x.kind, .int .i64 x.pos, .string x.path.name, .int .i64 x.path.pos, .slice x.path.hops.p x.path.hops.l.length x.path.hops.cap, .string x.type, .string x.left.name, .int .i64 x.left.n, .int .i64 x.left.pos, .string x.right.name, .int .i64 x.right.n, .int .i64 x.right.pos] 49)).alloc (.cells #[.int .i64 y.kind, .int .i64 y.pos, .string y.path.name, .int .i64 y.path.pos, .slice y.path.hops.p y.path.hops.l.length y.path.hops.cap, .string y.type, .string y.left.name, .int .i64 y.left.n, .int .i64 y.left.pos, .string y.right.name, .int .i64 y.right.n, .int .i64 y.right.pos] 49))) (a := ⟨w.heap.size + 1, 7, none⟩) (cell_of_row _ _ 7 _ _ _ (heap_alloc2_new w _ _))
 have kx8 := cell_regrown (w := ((w.alloc (.cells #[.int .i64 x.kind, .int .i64 x.pos, .string x.path.name, .int .i64 x.path.pos, .slice x.path.hops.p x.path.hops.l.length x.path.hops.cap, .string x.type, .string x.left.name, .int .i64 x.left.n, .int .i64 x.left.pos, .string x.right.name, .int .i64 x.right.n, .int .i64 x.right.pos] 49)).alloc (.cells #[.int .i64 y.kind, .int .i64 y.pos, .string y.path.name, .int .i64 y.path.pos, .slice y.path.hops.p y.path.hops.l.length y.path.hops.cap, .string y.type, .string y.left.name, .int .i64 y.left.n, .int .i64 y.left.pos, .string y.right.name, .int .i64 y.right.n, .int .i64 y.right.pos] 49))) (a := ⟨w.heap.size, 8, none⟩) (cell_of_row _ _ 8 _ _ _ (heap_alloc2_old w _ _))
 have ky8 := cell_regrown (w := ((w.alloc (.cells #[.int .i64 x.kind, .int .i64 x.pos, .string x.path.name, .int .i64 x.path.pos, .slice x.path.hops.p x.path.hops.l.length x.path.hops.cap, .string x.type, .string x.left.name, .int .i64 x.left.n, .int .i64 x.left.pos, .string x.right.name, .int .i64 x.right.n, .int .i64 x.right.pos] 49)).alloc (.cells #[.int .i64 y.kind, .int .i64 y.pos, .string y.path.name, .int .i64 y.path.pos, .slice y.path.hops.p y.path.hops.l.length y.path.hops.cap, .string y.type, .string y.left.name, .int .i64 y.left.n, .int .i64 y.left.pos, .string y.right.name, .int .i64 y.right.n, .int .i64 y.right.pos] 49))) (a := ⟨w.heap.size + 1, 8, none⟩) (cell_of_row _ _ 8 _ _ _ (heap_alloc2_new w _ _))
 have kx9 := cell_regrown (w := ((w.alloc (.cells #[.int .i64 x.kind, .int .i64 x.pos, .string x.path.name, .int .i64 x.path.pos, .slice x.path.hops.p x.path.hops.l.length x.path.hops.cap, .string x.type, .string x.left.name, .int .i64 x.left.n, .int .i64 x.left.pos, .string x.right.name, .int .i64 x.right.n, .int .i64 x.right.pos] 49)).alloc (.cells #[.int .i64 y.kind, .int .i64 y.pos, .string y.path.name, .int .i64 y.path.pos, .slice y.path.hops.p y.path.hops.l.length y.path.hops.cap, .string y.type, .string y.left.name, .int .i64 y.left.n, .int .i64 y.left.pos, .string y.right.name, .int .i64 y.right.n, .int .i64 y.right.pos] 49))) (a := ⟨w.heap.size, 9, none⟩) (cell_of_row _ _ 9 _ _ _ (heap_alloc2_old w _ _))
 have ky9 := cell_regrown (w := ((w.alloc (.cells #[.int .i64 x.kind, .int .i64 x.pos, .string x.path.name, .int .i64 x.path.pos, .slice x.path.hops.p x.path.hops.l.length x.path.hops.cap, .string x.type, .string x.left.name, .int .i64 x.left.n, .int .i64 x.left.pos, .string x.right.name, .int .i64 x.right.n, .int .i64 x.right.pos] 49)).alloc (.cells #[.int .i64 y.kind, .int .i64 y.pos, .string y.path.name, .int .i64 y.path.pos, .slice y.path.hops.p y.path.hops.l.length y.path.hops.cap, .string y.type, .string y.left.name, .int .i64 y.left.n, .int .i64 y.left.pos, .string y.right.name, .int .i64 y.right.n, .int .i64 y.right.pos] 49))) (a := ⟨w.heap.size + 1, 9, none⟩) (cell_of_row _ _ 9 _ _ _ (heap_alloc2_new w _ _))
 have kx10 := cell_regrown (w := ((w.alloc (.cells #[.int .i64 x.kind, .int .i64 x.pos, .string x.path.name, .int .i64 x.path.pos, .slice x.path.hops.p x.path.hops.l.length x.path.hops.cap, .string x.type, .string x.left.name, .int .i64 x.left.n, .int .i64 x.left.pos, .string x.right.name, .int .i64 x.right.n, .int .i64 x.right.pos] 49)).alloc (.cells #[.int .i64 y.kind, .int .i64 y.pos, .string y.path.name, .int .i64 y.path.pos, .slice y.path.hops.p y.path.hops.l.length y.path.hops.cap, .string y.type, .string y.left.name, .int .i64 y.left.n, .int .i64 y.left.pos, .string y.right.name, .int .i64 y.right.n, .int .i64 y.right.pos] 49))) (a := ⟨w.heap.size, 10, none⟩) (cell_of_row _ _ 10 _ _ _ (heap_alloc2_old w _ _))
 have ky10 := cell_regrown (w := ((w.alloc (.cells #[.int .i64 x.kind, .int .i64 x.pos, .string x.path.name, .int .i64 x.path.pos, .slice x.path.hops.p x.path.hops.l.length x.path.hops.cap, .string x.type, .string x.left.name, .int .i64 x.left.n, .int .i64 x.left.pos, .string x.right.name, .int .i64 x.right.n, .int .i64 x.right.pos] 49)).alloc (.cells #[.int .i64 y.kind, .int .i64 y.pos, .string y.path.name, .int .i64 y.path.pos, .slice y.path.hops.p y.path.hops.l.length y.path.hops.cap, .string y.type, .string y.left.name, .int .i64 y.left.n, .int .i64 y.left.pos, .string y.right.name, .int .i64 y.right.n, .int .i64 y.right.pos] 49))) (a := ⟨w.heap.size + 1, 10, none⟩) (cell_of_row _ _ 10 _ _ _ (heap_alloc2_new w _ _))
 have kx11 := cell_regrown (w := ((w.alloc (.cells #[.int .i64 x.kind, .int .i64 x.pos, .string x.path.name, .int .i64 x.path.pos, .slice x.path.hops.p x.path.hops.l.length x.path.hops.cap, .string x.type, .string x.left.name, .int .i64 x.left.n, .int .i64 x.left.pos, .string x.right.name, .int .i64 x.right.n, .int .i64 x.right.pos] 49)).alloc (.cells #[.int .i64 y.kind, .int .i64 y.pos, .string y.path.name, .int .i64 y.path.pos, .slice y.path.hops.p y.path.hops.l.length y.path.hops.cap, .string y.type, .string y.left.name, .int .i64 y.left.n, .int .i64 y.left.pos, .string y.right.name, .int .i64 y.right.n, .int .i64 y.right.pos] 49))) (a := ⟨w.heap.size, 11, none⟩) (cell_of_row _ _ 11 _ _ _ (heap_alloc2_old w _ _))
 have ky11 := cell_regrown (w := ((w.alloc (.cells #[.int .i64 x.kind, .int .i64 x.pos, .string x.path.name, .int .i64 x.path.pos, .slice x.path.hops.p x.path.hops.l.length x.path.hops.cap, .string x.type, .string x.left.name, .int .i64 x.left.n, .int .i64 x.left.pos, .string x.right.name, .int .i64 x.right.n, .int .i64 x.right.pos] 49)).alloc (.cells #[.int .i64 y.kind, .int .i64 y.pos, .string y.path.name, .int .i64 y.path.pos, .slice y.path.hops.p y.path.hops.l.length y.path.hops.cap, .string y.type, .string y.left.name, .int .i64 y.left.n, .int .i64 y.left.pos, .string y.right.name, .int .i64 y.right.n, .int .i64 y.right.pos] 49))) (a := ⟨w.heap.size + 1, 11, none⟩) (cell_of_row _ _ 11 _ _ _ (heap_alloc2_new w _ _))
 generalize e0 : (x.kind == y.kind) = v0
 generalize samePth x.path y.path = v1 at C1 ⊢
 generalize e2 : (x.type.toList == y.type.toList) = v2
 generalize e3 : (x.left.name.toList == y.left.name.toList) = v3
 generalize e4 : (x.left.n == y.left.n) = v4
 generalize e5 : (x.right.name.toList == y.right.name.toList) = v5
 generalize e6 : (x.right.n == y.right.n) = v6
 cases v0
 ·go_enter Tryz.func96, Tryz.ntmps96
  go_wp2_with fail
  refine wp_region_quiet_below (by kernel_rfl) (by kernel_rfl) ?_
  repeat (go_big_quiet_step (first | (with_reducible exact C1 _ _) | (with_reducible exact C2 _ _ _ _ _)))
  refine wpQuiet_nil ?_
  intro _ hw'
  obtain ⟨⟨dq, osq⟩, hw''⟩ := hw'
  subst hw''
  have HB3 := hdn (below_regrown ((w.alloc (.cells #[.int .i64 x.kind, .int .i64 x.pos, .string x.path.name, .int .i64 x.path.pos, .slice x.path.hops.p x.path.hops.l.length x.path.hops.cap, .string x.type, .string x.left.name, .int .i64 x.left.n, .int .i64 x.left.pos, .string x.right.name, .int .i64 x.right.n, .int .i64 x.right.pos] 49)).alloc (.cells #[.int .i64 y.kind, .int .i64 y.pos, .string y.path.name, .int .i64 y.path.pos, .slice y.path.hops.p y.path.hops.l.length y.path.hops.cap, .string y.type, .string y.left.name, .int .i64 y.left.n, .int .i64 y.left.pos, .string y.right.name, .int .i64 y.right.n, .int .i64 y.right.pos] 49)) dq osq)
  generalize grow (redrawn ((w.alloc (.cells #[.int .i64 x.kind, .int .i64 x.pos, .string x.path.name, .int .i64 x.path.pos, .slice x.path.hops.p x.path.hops.l.length x.path.hops.cap, .string x.type, .string x.left.name, .int .i64 x.left.n, .int .i64 x.left.pos, .string x.right.name, .int .i64 x.right.n, .int .i64 x.right.pos] 49)).alloc (.cells #[.int .i64 y.kind, .int .i64 y.pos, .string y.path.name, .int .i64 y.path.pos, .slice y.path.hops.p y.path.hops.l.length y.path.hops.cap, .string y.type, .string y.left.name, .int .i64 y.left.n, .int .i64 y.left.pos, .string y.right.name, .int .i64 y.right.n, .int .i64 y.right.pos] 49)) dq) osq = w3 at HB3 ⊢
  go_wp2_with fail
  go_ret
  exact ⟨rfl, HA.out.trans (HB3.out.mono HA.out.size)⟩
 ·cases v1
  ·go_enter Tryz.func96, Tryz.ntmps96
   go_wp2_with fail
   refine wp_region_quiet_below (by kernel_rfl) (by kernel_rfl) ?_
   repeat (go_big_quiet_step (first | (with_reducible exact C1 _ _) | (with_reducible exact C2 _ _ _ _ _)))
   refine wpQuiet_nil ?_
   intro _ hw'
   obtain ⟨⟨dq, osq⟩, hw''⟩ := hw'
   subst hw''
   have HB3 := hdn (below_regrown ((w.alloc (.cells #[.int .i64 x.kind, .int .i64 x.pos, .string x.path.name, .int .i64 x.path.pos, .slice x.path.hops.p x.path.hops.l.length x.path.hops.cap, .string x.type, .string x.left.name, .int .i64 x.left.n, .int .i64 x.left.pos, .string x.right.name, .int .i64 x.right.n, .int .i64 x.right.pos] 49)).alloc (.cells #[.int .i64 y.kind, .int .i64 y.pos, .string y.path.name, .int .i64 y.path.pos, .slice y.path.hops.p y.path.hops.l.length y.path.hops.cap, .string y.type, .string y.left.name, .int .i64 y.left.n, .int .i64 y.left.pos, .string y.right.name, .int .i64 y.right.n, .int .i64 y.right.pos] 49)) dq osq)
   generalize grow (redrawn ((w.alloc (.cells #[.int .i64 x.kind, .int .i64 x.pos, .string x.path.name, .int .i64 x.path.pos, .slice x.path.hops.p x.path.hops.l.length x.path.hops.cap, .string x.type, .string x.left.name, .int .i64 x.left.n, .int .i64 x.left.pos, .string x.right.name, .int .i64 x.right.n, .int .i64 x.right.pos] 49)).alloc (.cells #[.int .i64 y.kind, .int .i64 y.pos, .string y.path.name, .int .i64 y.path.pos, .slice y.path.hops.p y.path.hops.l.length y.path.hops.cap, .string y.type, .string y.left.name, .int .i64 y.left.n, .int .i64 y.left.pos, .string y.right.name, .int .i64 y.right.n, .int .i64 y.right.pos] 49)) dq) osq = w3 at HB3 ⊢
   go_wp2_with fail
   go_ret
   exact ⟨rfl, HA.out.trans (HB3.out.mono HA.out.size)⟩
  ·cases v2
   ·go_enter Tryz.func96, Tryz.ntmps96
    go_wp2_with fail
    refine wp_region_quiet_below (by kernel_rfl) (by kernel_rfl) ?_
    repeat (go_big_quiet_step (first | (with_reducible exact C1 _ _) | (with_reducible exact C2 _ _ _ _ _)))
    refine wpQuiet_nil ?_
    intro _ hw'
    obtain ⟨⟨dq, osq⟩, hw''⟩ := hw'
    subst hw''
    have HB3 := hdn (below_regrown ((w.alloc (.cells #[.int .i64 x.kind, .int .i64 x.pos, .string x.path.name, .int .i64 x.path.pos, .slice x.path.hops.p x.path.hops.l.length x.path.hops.cap, .string x.type, .string x.left.name, .int .i64 x.left.n, .int .i64 x.left.pos, .string x.right.name, .int .i64 x.right.n, .int .i64 x.right.pos] 49)).alloc (.cells #[.int .i64 y.kind, .int .i64 y.pos, .string y.path.name, .int .i64 y.path.pos, .slice y.path.hops.p y.path.hops.l.length y.path.hops.cap, .string y.type, .string y.left.name, .int .i64 y.left.n, .int .i64 y.left.pos, .string y.right.name, .int .i64 y.right.n, .int .i64 y.right.pos] 49)) dq osq)
    generalize grow (redrawn ((w.alloc (.cells #[.int .i64 x.kind, .int .i64 x.pos, .string x.path.name, .int .i64 x.path.pos, .slice x.path.hops.p x.path.hops.l.length x.path.hops.cap, .string x.type, .string x.left.name, .int .i64 x.left.n, .int .i64 x.left.pos, .string x.right.name, .int .i64 x.right.n, .int .i64 x.right.pos] 49)).alloc (.cells #[.int .i64 y.kind, .int .i64 y.pos, .string y.path.name, .int .i64 y.path.pos, .slice y.path.hops.p y.path.hops.l.length y.path.hops.cap, .string y.type, .string y.left.name, .int .i64 y.left.n, .int .i64 y.left.pos, .string y.right.name, .int .i64 y.right.n, .int .i64 y.right.pos] 49)) dq) osq = w3 at HB3 ⊢
    go_wp2_with fail
    go_ret
    exact ⟨rfl, HA.out.trans (HB3.out.mono HA.out.size)⟩
   ·cases v3
    ·go_enter Tryz.func96, Tryz.ntmps96
     go_wp2_with fail
     refine wp_region_quiet_below (by kernel_rfl) (by kernel_rfl) ?_
     repeat (go_big_quiet_step (first | (with_reducible exact C1 _ _) | (with_reducible exact C2 _ _ _ _ _)))
     refine wpQuiet_nil ?_
     intro _ hw'
     obtain ⟨⟨dq, osq⟩, hw''⟩ := hw'
     subst hw''
     have HB3 := hdn (below_regrown ((w.alloc (.cells #[.int .i64 x.kind, .int .i64 x.pos, .string x.path.name, .int .i64 x.path.pos, .slice x.path.hops.p x.path.hops.l.length x.path.hops.cap, .string x.type, .string x.left.name, .int .i64 x.left.n, .int .i64 x.left.pos, .string x.right.name, .int .i64 x.right.n, .int .i64 x.right.pos] 49)).alloc (.cells #[.int .i64 y.kind, .int .i64 y.pos, .string y.path.name, .int .i64 y.path.pos, .slice y.path.hops.p y.path.hops.l.length y.path.hops.cap, .string y.type, .string y.left.name, .int .i64 y.left.n, .int .i64 y.left.pos, .string y.right.name, .int .i64 y.right.n, .int .i64 y.right.pos] 49)) dq osq)
     generalize grow (redrawn ((w.alloc (.cells #[.int .i64 x.kind, .int .i64 x.pos, .string x.path.name, .int .i64 x.path.pos, .slice x.path.hops.p x.path.hops.l.length x.path.hops.cap, .string x.type, .string x.left.name, .int .i64 x.left.n, .int .i64 x.left.pos, .string x.right.name, .int .i64 x.right.n, .int .i64 x.right.pos] 49)).alloc (.cells #[.int .i64 y.kind, .int .i64 y.pos, .string y.path.name, .int .i64 y.path.pos, .slice y.path.hops.p y.path.hops.l.length y.path.hops.cap, .string y.type, .string y.left.name, .int .i64 y.left.n, .int .i64 y.left.pos, .string y.right.name, .int .i64 y.right.n, .int .i64 y.right.pos] 49)) dq) osq = w3 at HB3 ⊢
     go_wp2_with fail
     go_ret
     exact ⟨rfl, HA.out.trans (HB3.out.mono HA.out.size)⟩
    ·cases v4
     ·go_enter Tryz.func96, Tryz.ntmps96
      go_wp2_with fail
      refine wp_region_quiet_below (by kernel_rfl) (by kernel_rfl) ?_
      repeat (go_big_quiet_step (first | (with_reducible exact C1 _ _) | (with_reducible exact C2 _ _ _ _ _)))
      refine wpQuiet_nil ?_
      intro _ hw'
      obtain ⟨⟨dq, osq⟩, hw''⟩ := hw'
      subst hw''
      have HB3 := hdn (below_regrown ((w.alloc (.cells #[.int .i64 x.kind, .int .i64 x.pos, .string x.path.name, .int .i64 x.path.pos, .slice x.path.hops.p x.path.hops.l.length x.path.hops.cap, .string x.type, .string x.left.name, .int .i64 x.left.n, .int .i64 x.left.pos, .string x.right.name, .int .i64 x.right.n, .int .i64 x.right.pos] 49)).alloc (.cells #[.int .i64 y.kind, .int .i64 y.pos, .string y.path.name, .int .i64 y.path.pos, .slice y.path.hops.p y.path.hops.l.length y.path.hops.cap, .string y.type, .string y.left.name, .int .i64 y.left.n, .int .i64 y.left.pos, .string y.right.name, .int .i64 y.right.n, .int .i64 y.right.pos] 49)) dq osq)
      generalize grow (redrawn ((w.alloc (.cells #[.int .i64 x.kind, .int .i64 x.pos, .string x.path.name, .int .i64 x.path.pos, .slice x.path.hops.p x.path.hops.l.length x.path.hops.cap, .string x.type, .string x.left.name, .int .i64 x.left.n, .int .i64 x.left.pos, .string x.right.name, .int .i64 x.right.n, .int .i64 x.right.pos] 49)).alloc (.cells #[.int .i64 y.kind, .int .i64 y.pos, .string y.path.name, .int .i64 y.path.pos, .slice y.path.hops.p y.path.hops.l.length y.path.hops.cap, .string y.type, .string y.left.name, .int .i64 y.left.n, .int .i64 y.left.pos, .string y.right.name, .int .i64 y.right.n, .int .i64 y.right.pos] 49)) dq) osq = w3 at HB3 ⊢
      go_wp2_with fail
      go_ret
      exact ⟨rfl, HA.out.trans (HB3.out.mono HA.out.size)⟩
     ·cases v5
      ·go_enter Tryz.func96, Tryz.ntmps96
       go_wp2_with fail
       refine wp_region_quiet_below (by kernel_rfl) (by kernel_rfl) ?_
       repeat (go_big_quiet_step (first | (with_reducible exact C1 _ _) | (with_reducible exact C2 _ _ _ _ _)))
       refine wpQuiet_nil ?_
       intro _ hw'
       obtain ⟨⟨dq, osq⟩, hw''⟩ := hw'
       subst hw''
       have HB3 := hdn (below_regrown ((w.alloc (.cells #[.int .i64 x.kind, .int .i64 x.pos, .string x.path.name, .int .i64 x.path.pos, .slice x.path.hops.p x.path.hops.l.length x.path.hops.cap, .string x.type, .string x.left.name, .int .i64 x.left.n, .int .i64 x.left.pos, .string x.right.name, .int .i64 x.right.n, .int .i64 x.right.pos] 49)).alloc (.cells #[.int .i64 y.kind, .int .i64 y.pos, .string y.path.name, .int .i64 y.path.pos, .slice y.path.hops.p y.path.hops.l.length y.path.hops.cap, .string y.type, .string y.left.name, .int .i64 y.left.n, .int .i64 y.left.pos, .string y.right.name, .int .i64 y.right.n, .int .i64 y.right.pos] 49)) dq osq)
       generalize grow (redrawn ((w.alloc (.cells #[.int .i64 x.kind, .int .i64 x.pos, .string x.path.name, .int .i64 x.path.pos, .slice x.path.hops.p x.path.hops.l.length x.path.hops.cap, .string x.type, .string x.left.name, .int .i64 x.left.n, .int .i64 x.left.pos, .string x.right.name, .int .i64 x.right.n, .int .i64 x.right.pos] 49)).alloc (.cells #[.int .i64 y.kind, .int .i64 y.pos, .string y.path.name, .int .i64 y.path.pos, .slice y.path.hops.p y.path.hops.l.length y.path.hops.cap, .string y.type, .string y.left.name, .int .i64 y.left.n, .int .i64 y.left.pos, .string y.right.name, .int .i64 y.right.n, .int .i64 y.right.pos] 49)) dq) osq = w3 at HB3 ⊢
       go_wp2_with fail
       go_ret
       exact ⟨rfl, HA.out.trans (HB3.out.mono HA.out.size)⟩
      ·cases v6
       ·go_enter Tryz.func96, Tryz.ntmps96
        go_wp2_with fail
        refine wp_region_quiet_below (by kernel_rfl) (by kernel_rfl) ?_
        repeat (go_big_quiet_step (first | (with_reducible exact C1 _ _) | (with_reducible exact C2 _ _ _ _ _)))
        refine wpQuiet_nil ?_
        intro _ hw'
        obtain ⟨⟨dq, osq⟩, hw''⟩ := hw'
        subst hw''
        have HB3 := hdn (below_regrown ((w.alloc (.cells #[.int .i64 x.kind, .int .i64 x.pos, .string x.path.name, .int .i64 x.path.pos, .slice x.path.hops.p x.path.hops.l.length x.path.hops.cap, .string x.type, .string x.left.name, .int .i64 x.left.n, .int .i64 x.left.pos, .string x.right.name, .int .i64 x.right.n, .int .i64 x.right.pos] 49)).alloc (.cells #[.int .i64 y.kind, .int .i64 y.pos, .string y.path.name, .int .i64 y.path.pos, .slice y.path.hops.p y.path.hops.l.length y.path.hops.cap, .string y.type, .string y.left.name, .int .i64 y.left.n, .int .i64 y.left.pos, .string y.right.name, .int .i64 y.right.n, .int .i64 y.right.pos] 49)) dq osq)
        generalize grow (redrawn ((w.alloc (.cells #[.int .i64 x.kind, .int .i64 x.pos, .string x.path.name, .int .i64 x.path.pos, .slice x.path.hops.p x.path.hops.l.length x.path.hops.cap, .string x.type, .string x.left.name, .int .i64 x.left.n, .int .i64 x.left.pos, .string x.right.name, .int .i64 x.right.n, .int .i64 x.right.pos] 49)).alloc (.cells #[.int .i64 y.kind, .int .i64 y.pos, .string y.path.name, .int .i64 y.path.pos, .slice y.path.hops.p y.path.hops.l.length y.path.hops.cap, .string y.type, .string y.left.name, .int .i64 y.left.n, .int .i64 y.left.pos, .string y.right.name, .int .i64 y.right.n, .int .i64 y.right.pos] 49)) dq) osq = w3 at HB3 ⊢
        go_wp2_with fail
        go_ret
        exact ⟨rfl, HA.out.trans (HB3.out.mono HA.out.size)⟩
       ·go_enter Tryz.func96, Tryz.ntmps96
        go_wp2_with fail
        refine wp_region_quiet_below (by kernel_rfl) (by kernel_rfl) ?_
        repeat (go_big_quiet_step (first | (with_reducible exact C1 _ _) | (with_reducible exact C2 _ _ _ _ _)))
        refine wpQuiet_nil ?_
        intro _ hw'
        obtain ⟨⟨dq, osq⟩, hw''⟩ := hw'
        subst hw''
        have HB3 := hdn (below_regrown ((w.alloc (.cells #[.int .i64 x.kind, .int .i64 x.pos, .string x.path.name, .int .i64 x.path.pos, .slice x.path.hops.p x.path.hops.l.length x.path.hops.cap, .string x.type, .string x.left.name, .int .i64 x.left.n, .int .i64 x.left.pos, .string x.right.name, .int .i64 x.right.n, .int .i64 x.right.pos] 49)).alloc (.cells #[.int .i64 y.kind, .int .i64 y.pos, .string y.path.name, .int .i64 y.path.pos, .slice y.path.hops.p y.path.hops.l.length y.path.hops.cap, .string y.type, .string y.left.name, .int .i64 y.left.n, .int .i64 y.left.pos, .string y.right.name, .int .i64 y.right.n, .int .i64 y.right.pos] 49)) dq osq)
        generalize grow (redrawn ((w.alloc (.cells #[.int .i64 x.kind, .int .i64 x.pos, .string x.path.name, .int .i64 x.path.pos, .slice x.path.hops.p x.path.hops.l.length x.path.hops.cap, .string x.type, .string x.left.name, .int .i64 x.left.n, .int .i64 x.left.pos, .string x.right.name, .int .i64 x.right.n, .int .i64 x.right.pos] 49)).alloc (.cells #[.int .i64 y.kind, .int .i64 y.pos, .string y.path.name, .int .i64 y.path.pos, .slice y.path.hops.p y.path.hops.l.length y.path.hops.cap, .string y.type, .string y.left.name, .int .i64 y.left.n, .int .i64 y.left.pos, .string y.right.name, .int .i64 y.right.n, .int .i64 y.right.pos] 49)) dq) osq = w3 at HB3 ⊢
        go_wp2_with fail
        go_ret
        exact ⟨rfl, HA.out.trans (HB3.out.mono HA.out.size)⟩
end Go.Proofs.YtdlchhimkelinaaGreatDoor
