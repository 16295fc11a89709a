/-
  DERIVED. The walk of the document's Calls: each name once.
-/
import Derived.Test.YtpbjnjnmbglllaaEv
import Derived.Lib.SmallJoins
namespace Go.Proofs.Ytpbjnjnmbglllaa
open Go.RowKit Go.Sort

def eqs (a b : ByteArray) : Bool := a.toList == b.toList
def has (out : List ByteArray) (x : ByteArray) : Bool := out.any fun y => eqs y x
/-- Each once, behind those that are there. -/
def uq : List ByteArray → List ByteArray → List ByteArray
  | out, [] => out
  | out, x :: xs => uq (if has out x then out else out ++ [x]) xs
theorem uq_append : ∀ (out xs ys : List ByteArray), uq out (xs ++ ys) = uq (uq out xs) ys
  | out, [], ys => rfl
  | out, x :: xs, ys => by simp only [List.cons_append, uq]; exact uq_append _ xs ys
theorem uq_len : ∀ (out xs : List ByteArray), (uq out xs).length ≤ out.length + xs.length
  | out, [] => Nat.le_refl _
  | out, x :: xs => by
    simp only [uq]
    have := uq_len (if has out x then out else out ++ [x]) xs
    split at this <;> simp_all <;> omega
theorem has_step (out : List ByteArray) (x : ByteArray) (j : Nat) (h : j < out.length) : has (out.take (j + 1)) x = (has (out.take j) x || eqs out[j] x) := by
  unfold has
  rw [List.take_succ_eq_append_getElem h, List.any_append]; simp only [List.any_cons, List.any_nil, Bool.or_false]
theorem below_drewN {B : Nat} {a w : World} (h : Below B a w) (n : Nat) : Below B a (w.drewN n) := ⟨h.os, h.tape, h.output, h.size, h.block⟩
theorem cell_sv {w : World} {B : Nat} {g cap : Nat} {l : List ByteArray} (h : w.ownsRow B 9 1 (.slice (some ⟨g, 0, none⟩) l.length cap) l.length (sv l)) (j : Nat) (hj : j < l.length) : w.cell? ⟨g, j, none⟩ = some (.string l[j]) := by
  rw [h.cellAt j (by omega)]; simp [sv, hj]

set_option maxHeartbeats 1600000 in
set_option maxRecDepth 100000 in
theorem refCalls_any (l : SL) (p : Option Addr) (c : Nat) (w : World) (hl : sLies w p l) (hc : l.count ≤ 10000) :
    Calls Try.prog 16 #[.slice p l.len c] w fun en w' => ∃ v, en = .returned v ∧ w'.ownsRow w.heap.size 9 1 v (uq [] l.every).length (sv (uq [] l.every)) ∧ Below w.heap.size w w' := by
  have HE := Lib.hid (every_any l p c w hl hc)
  have hle := SL.every_le l
  have hlen : l.every.length ≤ 10000 := by omega
  clear hl hle hc
  generalize l.every = xs at *
  go_enter Try.func16, Try.ntmps16
  go_wp2_with fail
  refine (HE.out).mono ?_; rintro en w1 ⟨va, rfl, hoa, hba⟩
  have HOA := Lib.hid hoa
  have HBA := Lib.hid hba
  clear hoa hba
  obtain ⟨A1, c1, rfl⟩ := own_shape HOA.out
  go_wp2_with fail
  go_loopw [4, 5] (fun v i wr => ∃ (k : Nat) (ns : List ByteArray), i = .int .i64 k ∧ k ≤ xs.length ∧ Hid (wr.ownsRow w1.heap.size 9 1 v ns.length (sv ns)) ∧ Hid (ns.length ≤ k) ∧ Hid (uq [] xs = uq ns (xs.drop k)) ∧ Hid (Below w1.heap.size w1 wr)) (fun _ i _ => xs.length - (intOf i).toNat)
  case atStart => exact ⟨0, [], rfl, Nat.zero_le _, Lib.hid (World.ownsRow_nil _ _ _ _), Lib.hid (Nat.le_refl _), Lib.hid rfl, Lib.hid (Below.refl _ _)⟩
  case round =>
    obtain ⟨k, ns, rfl, hk, HO, HN, HU, HB⟩ := hrel
    by_cases hkl : k < xs.length
    · obtain ⟨g1, d1, f1⟩ := Go.Joins.ownsRow_form HOA.out (by omega)
      injection f1 with f1 f1a f1b
      clear f1a f1b
      subst f1
      have cx : wr.cell? ⟨g1, k, none⟩ = some (.string xs[k]) := (HB.out.cell (p := ⟨g1, k, none⟩) (World.block_lt_of_cell? w1 _ (cell_sv HOA.out k hkl))).trans (cell_sv HOA.out k hkl)
      obtain ⟨A2, c2, rfl⟩ := own_shape HO.out
      have hnl : ns.length ≤ 10000 := by have := HN.out; omega
      have HUS : Hid (uq ns (xs.drop k) = uq (if has ns xs[k] then ns else ns ++ [xs[k]]) (xs.drop (k + 1))) := Lib.hid (by rw [List.drop_eq_getElem_cons hkl]; rfl)
      obtain ⟨x, hx⟩ : ∃ x, x = xs[k] := ⟨_, rfl⟩
      rw [← hx] at cx HUS
      clear hx
      go_wp2_with fail
      obtain ⟨wo, rfl⟩ : ∃ wo : World, wo = wr := ⟨_, rfl⟩
      go_loopw [6, 7] (fun s i w2 => ∃ (j : Nat), i = .int .i64 j ∧ j ≤ ns.length ∧ s = .bool (has (ns.take j) x) ∧ Hid (Below wo.heap.size wo w2)) (fun _ i _ => ns.length - (intOf i).toNat)
      case atStart => exact ⟨0, rfl, Nat.zero_le _, rfl, Lib.hid (Below.refl _ _)⟩
      case round =>
        obtain ⟨w2, rfl⟩ : ∃ w2 : World, w2 = wr := ⟨_, rfl⟩
        obtain ⟨j, rfl, hj, rfl, HB2⟩ := hrel
        have HBW : Hid (Below w1.heap.size w1 w2) := Lib.hid (HB.out.trans (HB2.out.mono HB.out.size))
        have HO2 := Lib.hid (own_below HO.out HB2.out)
        have cx2 : w2.cell? ⟨g1, k, none⟩ = some (.string x) := (HB2.out.cell (p := ⟨g1, k, none⟩) (World.block_lt_of_cell? wo _ cx)).trans cx
        by_cases hjl : j < ns.length
        · obtain ⟨g2, d2, f2⟩ := Go.Joins.ownsRow_form HO2.out (by omega)
          injection f2 with f2 f2a f2b
          clear f2a f2b
          subst f2
          have cy := cell_sv HO2.out j hjl
          have hst := has_step ns x j hjl
          generalize ns[j] = y at cy hst
          have HST := Lib.hid hst
          clear hst
          have hj0 : (0 : Int) ≤ (j : Int) := Int.natCast_nonneg _
          have hj1 : (j : Int) < (ns.length : Int) := by omega
          have hk0 : (0 : Int) ≤ (k : Int) := Int.natCast_nonneg _
          have hk1 : (k : Int) < (xs.length : Int) := by omega
          generalize has (ns.take j) x = sb at HST ⊢
          cases sb
          · go_wp2_with fail
            go_quiet (fail)
            go_wp2_with fail
            go_roundw
            case rel => exact ⟨j + 1, by go_num, by omega, by rw [HST.out]; rfl, Lib.hid (below_drewN HB2.out _)⟩
            case measure => simp [intOf]; omega
          · go_wp2_with fail
            go_quiet (fail)
            go_wp2_with fail
            go_roundw
            case rel => exact ⟨j + 1, by go_num, by omega, by rw [HST.out]; rfl, Lib.hid (below_drewN HB2.out _)⟩
            case measure => simp [intOf]; omega
        · have hjn : ns.take j = ns := List.take_of_length_le (by omega)
          rw [hjn]
          clear hjn
          generalize has ns x = sb at HUS ⊢
          cases sb
          · go_wp2_with ((with_reducible show wpList _ _ _ (Oper.mk (some 42) _ _ _ _ _ :: _) _ _); refine wpList_append_sv rfl (.tmp 36) (.tmp 41) rfl w1.heap.size w2.heap.size _ ns rfl (HO2.out.alloc _) _ [x] rfl (own_new _ _) (by simp only [List.length_cons, List.length_nil]; omega) (Nat.le_trans HBW.out.size (by simp)) ?_; intro v5 w5 hown5 hb5; have HO5 := Lib.hid hown5; have HB5 : Hid (Below w1.heap.size w1 w5) := Lib.hid ((HBW.out.alloc HBW.out.size _).trans hb5); clear hown5 hb5)
            go_roundw
            case rel => exact ⟨k + 1, ns ++ [x], by go_num, by omega, HO5, Lib.hid (by have := HN.out; simp only [List.length_append, List.length_cons, List.length_nil]; omega), Lib.hid (by rw [HU.out, HUS.out]; rfl), HB5⟩
            case measure => simp [intOf]; omega
          · go_wp2_with fail
            go_roundw
            case rel => exact ⟨k + 1, ns, by go_num, by omega, HO2, Lib.hid (by have := HN.out; omega), Lib.hid (by rw [HU.out, HUS.out]; rfl), HBW⟩
            case measure => simp [intOf]; omega
    · have HF : Hid (uq [] xs = ns) := Lib.hid (by rw [HU.out, List.drop_eq_nil_of_le (by omega)]; rfl)
      go_wp2_with fail
      obtain ⟨a0, c0, rfl⟩ := own_shape HO.out
      go_ret
      exact ⟨_, rfl, by rw [HF.out]; exact own_base HO.out HBA.out.size, HBA.out.trans (HB.out.mono HBA.out.size)⟩

end Go.Proofs.Ytpbjnjnmbglllaa
