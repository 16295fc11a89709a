/-
  DERIVED. The walks of the document's Proc, Field, Global.
-/
import Derived.Test.YtjkgkigfmcegoaaRc
namespace Go.Proofs.Ytjkgkigfmcegoaa
open Go.RowKit Go.Sort Go.Maps

set_option maxHeartbeats 1600000 in
set_option maxRecDepth 100000 in
theorem refProc_any (x : Pg) (n : ByteArray) (w : World) (hx : pgLies w x) :
    Calls Try.prog 29 #[.agg (pval x), .string n] w fun en w' => en = .returned (.tuple #[.int .i64 (numOf (pNames x.procs.l) n), .bool (isIn (pNames x.procs.l) n)]) ∧ Below w.heap.size w w' := by
  have HL : Hid (Lay 6 Pc.cells pcLies w x.procs.p x.procs.l) := Lib.hid hx.2.2
  have HA : Hid (Below w.heap.size w (w.alloc (.cells (pval x) 26))) := Lib.hid ((Below.refl _ _).alloc (Nat.le_refl _) _)
  have HK : Hid (Bk (w.alloc (.cells (pval x) 26)) w.heap.size 26 (pval x)) := Lib.hid (heap_alloc_new _ _)
  have hlen : x.procs.l.length ≤ 1048576 := hx.2.2.1
  clear hx
  unfold pval at HA HK
  go_enter Try.func29, Try.ntmps29
  go_wp2_with fail
  generalize w.alloc (.cells #[.slice x.structs.p x.structs.l.length x.structs.cap, .slice x.globals.p x.globals.l.length x.globals.cap, .slice x.procs.p x.procs.l.length x.procs.cap] 26) = wA at HA HK ⊢
  have c0 : wA.cell? ⟨w.heap.size, 2, none⟩ = some (.slice x.procs.p x.procs.l.length x.procs.cap) := HK.out.cell 2
  generalize hl : x.procs.l = l at *
  have HLQ := Lib.hid hl
  clear hl
  generalize x.procs.p = p at *
  generalize x.procs.cap = c at *
  go_loop [6] (fun i => ∃ k : Nat, i = .int .i64 k ∧ k ≤ l.length ∧ Hid (n ∉ (pNames l).take k)) (fun i => l.length - (intOf i).toNat)
  case atStart => exact ⟨0, rfl, Nat.zero_le _, Lib.hid (by simp)⟩
  case round =>
    obtain ⟨k, rfl, hk, HN⟩ := hrel
    by_cases hkl : k < l.length
    · obtain ⟨b, o, rfl, hrg, _⟩ := HL.out.at_ hkl
      have d0 := cell_at (rangeAt_below hrg HA.out) 0 _ rfl
      rw [Nat.add_zero] at d0
      have HG := Lib.hid (pNames_get hkl)
      generalize l[k].name = a at d0 HG
      have hk0 : (0 : Int) ≤ (k : Int) := Int.natCast_nonneg _
      have hk1 : (k : Int) < (l.length : Int) := by omega
      clear hrg
      cases he : (a.toList == n.toList)
      · have HE := Lib.hid he
        go_wp2_with fail
        go_round
        case rel => exact ⟨k + 1, by go_num, by omega, Lib.hid (take_next HG.out HN.out HE.out)⟩
        case measure => simp [intOf]; omega
      · have HX : Hid (numOf (pNames l) n = k ∧ isIn (pNames l) n = true) := Lib.hid (by
          rw [eqName] at he
          have e := of_decide_eq_true he
          subst e
          obtain ⟨h1, h2⟩ := placeOf_first HG.out HN.out
          exact ⟨by rw [numOf_in h2, h1], h2⟩)
        go_wp2_with fail
        go_ret2
        exact ⟨by rw [HLQ.out, HX.out.1, HX.out.2]; rfl, HA.out⟩
    · have HX : Hid (numOf (pNames l) n = 0 ∧ isIn (pNames l) n = false) := Lib.hid (by
        have h1 : isIn (pNames l) n = false := isIn_not.2 (by have := HN.out; rwa [List.take_of_length_le (by simp [pNames]; omega)] at this)
        exact ⟨by unfold numOf; rw [h1]; rfl, h1⟩)
      go_wp2_with fail
      go_ret2
      exact ⟨by rw [HLQ.out, HX.out.1, HX.out.2]; rfl, HA.out⟩

/-- The table's value. -/
abbrev tval (x : Pg) (v : Value) : Array Value := #[.slice x.structs.p x.structs.l.length x.structs.cap, .slice x.globals.p x.globals.l.length x.globals.cap, .slice x.procs.p x.procs.l.length x.procs.cap, v]
theorem ahead_split {l : List Sr} {i : Nat} (h : i < l.length) {k : Nat} (hk : k < l[i].fields.l.length) : ∃ t, pairsFrom 0 l = ahead l l[i].fields.l i k ++ (i, l[i].fields.l[k]) :: t := by
  refine ⟨(l[i].fields.l.drop (k + 1)).map (fun f => (i, f)) ++ pairsFrom (i + 1) (l.drop (i + 1)), ?_⟩
  unfold ahead
  rw [pairsFrom_split l 0 i, Nat.zero_add, pairsFrom_drop h, List.append_assoc]
  congr 1
  rw [← List.cons_append, ← pairs_drop hk, ← List.append_assoc, ← List.map_append, List.take_append_drop]
theorem num_split {A B : List (Nat × Dc)} {y : Nat × Dc} {o : Int} {n : ByteArray} (hy : memb y = (o, n)) (hn : (o, n) ∉ A.map memb) : numOf ((A ++ y :: B).map memb) (o, n) = A.length ∧ isIn ((A ++ y :: B).map memb) (o, n) = true := by
  have h := placeOf_first (l := (A ++ y :: B).map memb) (k := A.length) (x := (o, n)) (by simp [hy]) (by
    rw [← List.map_take, List.take_left']
    · exact hn
    · rfl)
  exact ⟨by rw [numOf_in h.2, h.1], h.2⟩

theorem pairs_bound (B : Nat) : ∀ (l : List Sr) (o : Nat), (∀ s ∈ l, s.fields.l.length ≤ B) → (pairsFrom o l).length ≤ l.length * B
  | [], _, _ => by simp [pairsFrom]
  | s :: r, o, h => by
    have h1 := h s (by simp)
    have h2 := pairs_bound B r (o + 1) (fun s hs => h s (by simp [hs]))
    simp only [pairsFrom, List.length_append, List.length_map, List.length_cons, Nat.add_mul, Nat.one_mul]
    omega
theorem pairs_small {w : World} {x : Pg} (hx : pgLies w x) : (pairsFrom 0 x.structs.l).length ≤ 1099511627776 := by
  have h1 : ∀ s ∈ x.structs.l, s.fields.l.length ≤ 1048576 := fun s hs => by
    obtain ⟨k, hk⟩ := List.getElem?_of_mem hs
    rcases hx.1.2 with h0 | ⟨b, o, _, h⟩
    · rw [h0] at hs; simp at hs
    · exact (h k s hk).2.1.1
  have h2 := pairs_bound 1048576 x.structs.l 0 h1
  exact Nat.le_trans h2 (Nat.mul_le_mul_right 1048576 hx.1.1)

set_option maxHeartbeats 3200000 in
set_option maxRecDepth 100000 in
theorem refField_any (x : Pg) (v : Value) (ow : Int) (n : ByteArray) (w : World) (hx : pgLies w x) :
    Calls Try.prog 27 #[.agg (tval x v), .int .i64 ow, .string n] w fun en w' => en = .returned (.tuple #[.int .i64 (numOf ((allPairs x).map memb) (ow, n)), .bool (isIn ((allPairs x).map memb) (ow, n))]) ∧ Below w.heap.size w w' := by
  have HL : Hid (Lay 3 Sr.cells srLies w x.structs.p x.structs.l) := Lib.hid hx.1
  have HA : Hid (Below w.heap.size w (w.alloc (.cells (tval x v) 35))) := Lib.hid ((Below.refl _ _).alloc (Nat.le_refl _) _)
  have HK : Hid (Bk (w.alloc (.cells (tval x v) 35)) w.heap.size 35 (tval x v)) := Lib.hid (heap_alloc_new _ _)
  have hlen : x.structs.l.length ≤ 1048576 := hx.1.1
  have HTOT := Lib.hid (pairs_small hx)
  clear hx
  unfold tval at HA HK
  unfold allPairs
  go_enter Try.func27, Try.ntmps27
  go_wp2_with fail
  generalize w.alloc (.cells #[.slice x.structs.p x.structs.l.length x.structs.cap, .slice x.globals.p x.globals.l.length x.globals.cap, .slice x.procs.p x.procs.l.length x.procs.cap, v] 35) = wA at HA HK ⊢
  have c0 : wA.cell? ⟨w.heap.size, 0, none⟩ = some (.slice x.structs.p x.structs.l.length x.structs.cap) := HK.out.cell 0
  go_loop [8, 9] (fun nv iv => ∃ i : Nat, iv = .int .i64 i ∧ i ≤ x.structs.l.length ∧ nv = .int .i64 (pairsFrom 0 (x.structs.l.take i)).length ∧ Hid ((ow, n) ∉ (pairsFrom 0 (x.structs.l.take i)).map memb)) (fun _ i => x.structs.l.length - (intOf i).toNat)
  case atStart => exact ⟨0, rfl, Nat.zero_le _, rfl, Lib.hid (by simp [pairsFrom])⟩
  case round =>
    obtain ⟨i, rfl, hi, rfl, HN⟩ := hrel
    by_cases hil : i < x.structs.l.length
    · obtain ⟨b, o, hp, hrg, hsr⟩ := HL.out.at_ hil
      have HNX := Lib.hid (ahead_all hil)
      have HA0 : Hid ((ow, n) ∉ (ahead x.structs.l x.structs.l[i].fields.l i 0).map memb) := Lib.hid (by rw [ahead_zero]; exact HN.out)
      have HZR : Hid (pairsFrom 0 (x.structs.l.take i) = ahead x.structs.l x.structs.l[i].fields.l i 0) := Lib.hid (ahead_zero _ _ _).symm
      have HSP : Hid (∀ k (hk : k < x.structs.l[i].fields.l.length), ∃ t, pairsFrom 0 x.structs.l = ahead x.structs.l x.structs.l[i].fields.l i k ++ (i, x.structs.l[i].fields.l[k]) :: t) := Lib.hid (fun k hk => ahead_split hil hk)
      have d2 := cell_at (rangeAt_below hrg HA.out) 2 _ rfl
      have HML : Hid (Lay 3 Dc.cells dcR w x.structs.l[i].fields.p x.structs.l[i].fields.l) := Lib.hid hsr.1
      have hml : x.structs.l[i].fields.l.length ≤ 1048576 := hsr.1.1
      have hi0 : (0 : Int) ≤ (i : Int) := Int.natCast_nonneg _
      have hi1 : (i : Int) < (x.structs.l.length : Int) := by omega
      generalize x.structs.l[i].fields.l = m at d2 HML hml HNX HA0 HZR HSP
      generalize x.structs.l[i].fields.p = mp at d2 HML
      generalize x.structs.l[i].fields.cap = mc at d2
      rw [hp] at c0
      clear hrg hsr hp
      go_wp2_with fail
      rw [HZR.out]
      go_loop [8, 10] (fun nv kv => ∃ k : Nat, kv = .int .i64 k ∧ k ≤ m.length ∧ nv = .int .i64 (ahead x.structs.l m i k).length ∧ Hid ((ow, n) ∉ (ahead x.structs.l m i k).map memb)) (fun _ k => m.length - (intOf k).toNat)
      case atStart => exact ⟨0, rfl, Nat.zero_le _, rfl, HA0⟩
      case round =>
        clear HA0 HN HZR
        obtain ⟨k, rfl, hk, rfl, HN⟩ := hrel
        by_cases hkl : k < m.length
        · obtain ⟨b2, o2, rfl, hrg, _⟩ := HML.out.at_ hkl
          have HSN := Lib.hid (ahead_snoc (l := x.structs.l) (i := i) hkl)
          have HS := Lib.hid (HSP.out k hkl)
          have e1 := cell_at (rangeAt_below hrg HA.out) 1 _ rfl
          generalize hf : m[k] = f at e1 HSN HS
          have hk0 : (0 : Int) ≤ (k : Int) := Int.natCast_nonneg _
          have hk1 : (k : Int) < (m.length : Int) := by omega
          have HLN : Hid ((ahead x.structs.l m i (k + 1)).length = (ahead x.structs.l m i k).length + 1) := Lib.hid (by rw [HSN.out, List.length_append]; rfl)
          have HMB : Hid (∀ h : memb (i, f) ≠ (ow, n), (ow, n) ∉ (ahead x.structs.l m i (k + 1)).map memb) := Lib.hid (fun h => by
            rw [HSN.out, List.map_append, List.mem_append]
            rintro (h1 | h1)
            · exact HN.out h1
            · simp only [List.map_cons, List.map_nil, List.mem_singleton] at h1
              exact h h1.symm)
          have HYES : Hid (∀ h : memb (i, f) = (ow, n), numOf ((pairsFrom 0 x.structs.l).map memb) (ow, n) = (ahead x.structs.l m i k).length ∧ isIn ((pairsFrom 0 x.structs.l).map memb) (ow, n) = true) := Lib.hid (fun h => by
            obtain ⟨t, ht⟩ := HS.out
            rw [ht]
            exact num_split h HN.out)
          have hnn : (ahead x.structs.l m i k).length ≤ 1099511627776 := by
            have := HTOT.out
            obtain ⟨t, ht⟩ := HS.out
            rw [ht, List.length_append] at this
            omega
          generalize (ahead x.structs.l m i k).length = nn at hnn HLN HYES ⊢
          clear hrg hf HS
          cases hio : ((i : Int) == ow)
          · have HNE : Hid (memb (i, f) ≠ (ow, n)) := Lib.hid (fun h => by
              have h1 : (i : Int) = ow := congrArg Prod.fst h
              rw [beq_eq_false_iff_ne] at hio
              exact hio h1)
            go_wp2_with fail
            go_round
            case rel => exact ⟨k + 1, by go_num, by omega, by rw [HLN.out]; go_num, Lib.hid (HMB.out HNE.out)⟩
            case measure => simp [intOf]; omega
          · cases he : (f.name.toList == n.toList)
            · have HNE : Hid (memb (i, f) ≠ (ow, n)) := Lib.hid (fun h => by
                have h1 : f.name = n := congrArg Prod.snd h
                rw [h1] at he
                simp at he)
              go_wp2_with fail
              go_round
              case rel => exact ⟨k + 1, by go_num, by omega, by rw [HLN.out]; go_num, Lib.hid (HMB.out HNE.out)⟩
              case measure => simp [intOf]; omega
            · have HX := Lib.hid (HYES.out (by
                have h1 : (i : Int) = ow := by simpa using hio
                rw [eqName] at he
                have h2 := of_decide_eq_true he
                show ((i : Int), f.name) = (ow, n)
                rw [h1, h2]))
              go_wp2_with fail
              go_ret2
              exact ⟨by rw [HX.out.1, HX.out.2]; rfl, HA.out⟩
        · have hkm : k = m.length := by omega
          subst hkm
          have HN2 : Hid ((ow, n) ∉ (pairsFrom 0 (x.structs.l.take (i + 1))).map memb) := Lib.hid (by rw [← HNX.out]; exact HN.out)
          rw [HNX.out]
          go_wp2_with fail
          go_round
          case rel => exact ⟨i + 1, by go_num, by omega, rfl, HN2⟩
          case measure => simp [intOf]; omega
    · have HX : Hid (numOf ((pairsFrom 0 x.structs.l).map memb) (ow, n) = 0 ∧ isIn ((pairsFrom 0 x.structs.l).map memb) (ow, n) = false) := Lib.hid (by
        have h1 : isIn ((pairsFrom 0 x.structs.l).map memb) (ow, n) = false := isIn_not.2 (by have := HN.out; rwa [List.take_of_length_le (by omega)] at this)
        exact ⟨by unfold numOf; rw [h1]; rfl, h1⟩)
      go_wp2_with fail
      go_ret2
      exact ⟨by rw [HX.out.1, HX.out.2]; rfl, HA.out⟩
end Go.Proofs.Ytjkgkigfmcegoaa
