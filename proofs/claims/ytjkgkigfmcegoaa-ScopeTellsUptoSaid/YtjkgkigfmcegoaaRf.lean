/-
  DERIVED. The walks of the document's Struct, Type, Proc.
-/
import Derived.Test.YtjkgkigfmcegoaaUn
import Derived.Lib.QuietBelow
import Derived.BigQuiet
namespace Go.Proofs.Ytjkgkigfmcegoaa
open Go.RowKit Go.Sort Go.Maps

theorem placeOf_first {κ : Type} [DecidableEq κ] {l : List κ} {k : Nat} {x : κ} (hk : l[k]? = some x) (hn : x ∉ l.take k) : placeOf l x = k ∧ isIn l x = true := by
  obtain ⟨hlt, he⟩ := List.getElem?_eq_some_iff.1 hk
  refine ⟨?_, isIn_iff.2 (List.mem_of_getElem? hk)⟩
  unfold placeOf
  have hd : l = l.take k ++ l.drop k := (List.take_append_drop k l).symm
  rw [hd, List.idxOf_append, if_neg hn, List.drop_eq_getElem_cons hlt, he, List.idxOf_cons_self, List.length_take]
  omega
/-- A name's number, or -1. -/
def sIx (l : List ByteArray) (x : ByteArray) : Int := if isIn l x = true then numOf l x else -1
theorem sIx_first {l : List ByteArray} {k : Nat} {x : ByteArray} (hk : l[k]? = some x) (hn : x ∉ l.take k) : sIx l x = k := by
  obtain ⟨h1, h2⟩ := placeOf_first hk hn
  unfold sIx
  rw [h2, numOf_in h2, h1]; rfl
theorem sIx_none {l : List ByteArray} {x : ByteArray} (h : x ∉ l) : sIx l x = -1 := by
  unfold sIx; rw [isIn_not.2 h]; rfl
/-- The program's value. -/
abbrev pval (x : Pg) : Array Value := #[.slice x.structs.p x.structs.l.length x.structs.cap, .slice x.globals.p x.globals.l.length x.globals.cap, .slice x.procs.p x.procs.l.length x.procs.cap]
theorem sNames_get {l : List Sr} {k : Nat} (h : k < l.length) : (sNames l)[k]? = some l[k].name := by
  simp [sNames, List.getElem?_eq_getElem h]
theorem pNames_get {l : List Pc} {k : Nat} (h : k < l.length) : (pNames l)[k]? = some l[k].name := by
  simp [pNames, List.getElem?_eq_getElem h]
theorem take_next {l : List ByteArray} {k : Nat} {a n : ByteArray} (hk : l[k]? = some a) (h : n ∉ l.take k) (hne : (a.toList == n.toList) = false) : n ∉ l.take (k + 1) := by
  obtain ⟨hlt, he⟩ := List.getElem?_eq_some_iff.1 hk
  rw [List.take_succ_eq_append_getElem hlt, he]
  intro hm
  rcases List.mem_append.1 hm with hm | hm
  · exact h hm
  · simp only [List.mem_singleton] at hm
    subst hm
    simp at hne

set_option maxHeartbeats 1600000 in
set_option maxRecDepth 100000 in
theorem refStruct_any (x : Pg) (n : ByteArray) (w : World) (hx : pgLies w x) :
    Calls Try.prog 25 #[.agg (pval x), .string n] w fun en w' => en = .returned (.int .i64 (sIx (sNames x.structs.l) n)) ∧ Below w.heap.size w w' := by
  have HL : Hid (Lay 3 Sr.cells srLies w x.structs.p x.structs.l) := Lib.hid hx.1
  have HA : Hid (Below w.heap.size w (w.alloc (.cells (pval x) 26))) := Lib.hid ((Below.refl _ _).alloc (Nat.le_refl _) _)
  have HK : Hid (Bk (w.alloc (.cells (pval x) 26)) w.heap.size 26 (pval x)) := Lib.hid (heap_alloc_new _ _)
  have hlen : x.structs.l.length ≤ 1048576 := hx.1.1
  clear hx
  unfold pval at HA HK
  go_enter Try.func25, Try.ntmps25
  go_wp2_with fail
  generalize w.alloc (.cells #[.slice x.structs.p x.structs.l.length x.structs.cap, .slice x.globals.p x.globals.l.length x.globals.cap, .slice x.procs.p x.procs.l.length x.procs.cap] 26) = wA at HA HK ⊢
  have c0 : wA.cell? ⟨w.heap.size, 0, none⟩ = some (.slice x.structs.p x.structs.l.length x.structs.cap) := HK.out.cell 0
  generalize hl : x.structs.l = l at *
  have HLQ := Lib.hid hl
  clear hl
  generalize x.structs.p = p at *
  generalize x.structs.cap = c at *
  go_loop [5] (fun i => ∃ k : Nat, i = .int .i64 k ∧ k ≤ l.length ∧ Hid (n ∉ (sNames l).take k)) (fun i => l.length - (intOf i).toNat)
  case atStart => exact ⟨0, rfl, Nat.zero_le _, Lib.hid (by simp)⟩
  case round =>
    obtain ⟨k, rfl, hk, HN⟩ := hrel
    by_cases hkl : k < l.length
    · obtain ⟨b, o, rfl, hrg, _⟩ := HL.out.at_ hkl
      have d0 := cell_at (rangeAt_below hrg HA.out) 0 _ rfl
      rw [Nat.add_zero] at d0
      have HG := Lib.hid (sNames_get hkl)
      generalize l[k].name = a at d0 HG
      have hk0 : (0 : Int) ≤ (k : Int) := Int.natCast_nonneg _
      have hk1 : (k : Int) < (l.length : Int) := by omega
      clear hrg
      cases he : (a.toList == n.toList)
      · have HE := Lib.hid he
        go_wp2_with fail
        go_round
        case rel => exact ⟨k + 1, by go_num, by omega, Lib.hid (take_next HG.out HN.out HE.out)⟩
        case measure => simp [intOf]; omega
      · have HX : Hid (sIx (sNames l) n = k) := Lib.hid (by
          rw [eqName] at he
          have e := of_decide_eq_true he
          subst e
          exact sIx_first HG.out HN.out)
        go_wp2_with fail
        go_ret
        exact ⟨by rw [HLQ.out, HX.out]; rfl, HA.out⟩
    · have HX : Hid (sIx (sNames l) n = -1) := Lib.hid (sIx_none (by have := HN.out; rwa [List.take_of_length_le (by simp [sNames]; omega)] at this))
      go_wp2_with fail
      go_ret
      exact ⟨by rw [HLQ.out, HX.out]; rfl, HA.out⟩

set_option maxHeartbeats 1600000 in
set_option maxRecDepth 100000 in
theorem refType_any (x : Pg) (n : ByteArray) (w : World) (hx : pgLies w x) :
    Calls Try.prog 26 #[.agg (pval x), .string n] w fun en w' => en = .returned (.tuple #[.int .i64 (kindOf (sNames x.structs.l) n), .bool (tyOk (sNames x.structs.l) n)]) ∧ Below w.heap.size w w' := by
  have HA : Hid (Below w.heap.size w (w.alloc (.cells (pval x) 26))) := Lib.hid ((Below.refl _ _).alloc (Nat.le_refl _) _)
  have HK : Hid (Bk (w.alloc (.cells (pval x) 26)) w.heap.size 26 (pval x)) := Lib.hid (heap_alloc_new _ _)
  have HC : Hid (Calls Try.prog 25 #[.agg (pval x), .string n] (w.alloc (.cells (pval x) 26)) fun en w' => en = .returned (.int .i64 (sIx (sNames x.structs.l) n)) ∧ Below (w.alloc (.cells (pval x) 26)).heap.size (w.alloc (.cells (pval x) 26)) w') := Lib.hid (refStruct_any x n _ (pgLies_below hx HA.out))
  clear hx
  unfold pval at HA HK HC
  cases he : n.toList.isEmpty
  · have he' : (n.toList == []) = false := by cases hh : n.toList <;> simp_all
    cases hin : isIn (sNames x.structs.l) n
    · have HT : Hid (kindOf (sNames x.structs.l) n = 0 ∧ tyOk (sNames x.structs.l) n = false ∧ sIx (sNames x.structs.l) n = -1) := Lib.hid ⟨by unfold kindOf numOf; rw [he, hin]; rfl, by unfold tyOk; rw [he, hin]; rfl, by unfold sIx; rw [hin]; rfl⟩
      rw [HT.out.2.2] at HC
      clear hin he
      go_enter Try.func26, Try.ntmps26
      go_wp2_with fail
      generalize w.alloc (.cells #[.slice x.structs.p x.structs.l.length x.structs.cap, .slice x.globals.p x.globals.l.length x.globals.cap, .slice x.procs.p x.procs.l.length x.procs.cap] 26) = wA at HA HK HC ⊢
      refine HC.out.mono ?_; rintro en w1 ⟨rfl, hb⟩
      have HB := Lib.hid (HA.out.trans (hb.mono HA.out.size))
      clear hb
      go_wp2_with fail
      go_ret2
      exact ⟨by rw [HT.out.1, HT.out.2.1]; rfl, HB.out⟩
    · have hnn : 0 ≤ numOf (sNames x.structs.l) n := by rw [numOf_in hin]; exact Int.natCast_nonneg _
      have HT : Hid (kindOf (sNames x.structs.l) n = numOf (sNames x.structs.l) n ∧ tyOk (sNames x.structs.l) n = true ∧ sIx (sNames x.structs.l) n = numOf (sNames x.structs.l) n) := Lib.hid ⟨by unfold kindOf; rw [he]; rfl, by unfold tyOk; rw [he, hin]; rfl, by unfold sIx; rw [hin]; rfl⟩
      rw [HT.out.2.2] at HC
      generalize numOf (sNames x.structs.l) n = m at HC HT hnn
      clear hin he
      go_enter Try.func26, Try.ntmps26
      go_wp2_with fail
      generalize w.alloc (.cells #[.slice x.structs.p x.structs.l.length x.structs.cap, .slice x.globals.p x.globals.l.length x.globals.cap, .slice x.procs.p x.procs.l.length x.procs.cap] 26) = wA at HA HK HC ⊢
      refine HC.out.mono ?_; rintro en w1 ⟨rfl, hb⟩
      have HB := Lib.hid (HA.out.trans (hb.mono HA.out.size))
      clear hb
      go_wp2_with fail
      go_ret2
      exact ⟨by rw [HT.out.1, HT.out.2.1]; simp, HB.out⟩
  · have he' : n.toList = [] := by cases hh : n.toList <;> simp_all
    have HT : Hid (kindOf (sNames x.structs.l) n = -1 ∧ tyOk (sNames x.structs.l) n = true) := Lib.hid ⟨by unfold kindOf; rw [he]; rfl, by unfold tyOk; rw [he]; rfl⟩
    clear he
    go_enter Try.func26, Try.ntmps26
    go_wp2_with fail
    go_ret2
    exact ⟨by rw [HT.out.1, HT.out.2]; rfl, HA.out⟩
end Go.Proofs.Ytjkgkigfmcegoaa
