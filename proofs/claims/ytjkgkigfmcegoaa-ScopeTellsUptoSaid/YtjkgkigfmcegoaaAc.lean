/-
  DERIVED. The walks of what a table tells (all but lists).
-/
import Derived.Test.YtjkgkigfmcegoaaFr
import Derived.WalkSpells
namespace Go.Proofs.Ytjkgkigfmcegoaa
open Go.RowKit Go.Sort Go.Maps

set_option maxHeartbeats 800000 in
set_option maxRecDepth 100000 in
theorem struct_any (x : ByteArray) (b M : Nat) (l : List ByteArray) (w : World) (hc : w.cell? ⟨b, 0, none⟩ = some (.map (some M))) (h : Roll byName w M l) (hx : x.size ≤ maxLen) :
    Calls Try.prog 13 #[.pointer (some ⟨b, 0, none⟩), .string x] w fun en w' => en = .returned (.tuple #[.int .i64 (numOf l x), .bool (isIn l x)]) ∧ w = w' := by
  have HF := Lib.hid (findN_any x M l w h hx)
  clear h hx
  go_enter Try.func13, Try.ntmps13
  go_wp2_with (go_at_call 31; refine HF.out.mono ?_; rintro e w' ⟨rfl, rfl⟩)
  go_ret2
  exact ⟨rfl, rfl⟩

set_option maxHeartbeats 800000 in
set_option maxRecDepth 100000 in
theorem proc_any (x : ByteArray) (b M : Nat) (l : List ByteArray) (w : World) (hc : w.cell? ⟨b, 5, none⟩ = some (.map (some M))) (h : Roll byName w M l) (hx : x.size ≤ maxLen) :
    Calls Try.prog 17 #[.pointer (some ⟨b, 0, none⟩), .string x] w fun en w' => en = .returned (.tuple #[.int .i64 (numOf l x), .bool (isIn l x)]) ∧ w = w' := by
  have HF := Lib.hid (findN_any x M l w h hx)
  clear h hx
  go_enter Try.func17, Try.ntmps17
  go_wp2_with (go_at_call 31; refine HF.out.mono ?_; rintro e w' ⟨rfl, rfl⟩)
  go_ret2
  exact ⟨rfl, rfl⟩

set_option maxHeartbeats 800000 in
set_option maxRecDepth 100000 in
theorem field_any (o : Int) (x : ByteArray) (b M : Nat) (l : List (Int × ByteArray)) (w : World) (hc : w.cell? ⟨b, 1, none⟩ = some (.map (some M))) (h : Roll byMember w M l) (ho : (Lit.int .i64 o).wf = true) (hx : x.size ≤ maxLen) :
    Calls Try.prog 15 #[.pointer (some ⟨b, 0, none⟩), .int .i64 o, .string x] w fun en w' => en = .returned (.tuple #[.int .i64 (numOf l (o, x)), .bool (isIn l (o, x))]) ∧ Below w.heap.size w w' := by
  have HF := Lib.hid (findM_any (o, x) M l w h ⟨ho, hx⟩)
  clear h hx ho
  go_enter Try.func15, Try.ntmps15
  go_wp2_with (go_at_call 33; refine HF.out.mono ?_; rintro e w' ⟨rfl, hb⟩)
  go_ret2
  exact ⟨rfl, hb⟩

set_option maxHeartbeats 800000 in
set_option maxRecDepth 100000 in
theorem structs_any (b M : Nat) (l : List ByteArray) (w : World) (hc : w.cell? ⟨b, 0, none⟩ = some (.map (some M))) (h : Roll byName w M l) :
    Calls Try.prog 11 #[.pointer (some ⟨b, 0, none⟩)] w fun en w' => en = .returned (.int .i64 l.length) ∧ w = w' := by
  obtain ⟨D, hown, hr⟩ := h
  have HS := Lib.hid hr.size
  clear hr
  go_enter Try.func11, Try.ntmps11
  go_wp2_with (at_len; refine wpList_len_own (H := Unit) _ rfl _ 52 rfl 9 3 Try.underlying52 (plainElem Try.prog 3) M l.length D rfl hown ?_; rw [HS.out])
  go_ret
  exact ⟨rfl, rfl⟩

set_option maxHeartbeats 800000 in
set_option maxRecDepth 100000 in
theorem made_any (b M : Nat) (w : World) (hc : w.cell? ⟨b, 0, none⟩ = some (.map (some M))) :
    Calls Try.prog 32 #[.pointer (some ⟨b, 0, none⟩)] w fun en w' => en = .returned (.bool true) ∧ w = w' := by
  have hn := fun (w : World) => run_neq_map_nil (P := Try.prog) w 52 9 3 (some M) Try.underlying52
  go_enter Try.func32, Try.ntmps32
  go_wp2
  go_ret
  exact ⟨rfl, rfl⟩

set_option maxHeartbeats 800000 in
set_option maxRecDepth 100000 in
theorem type_any (x : ByteArray) (b M : Nat) (l : List ByteArray) (w : World) (hc : w.cell? ⟨b, 0, none⟩ = some (.map (some M))) (h : Roll byName w M l) (hx : x.size ≤ maxLen) :
    Calls Try.prog 14 #[.pointer (some ⟨b, 0, none⟩), .string x] w fun en w' => en = .returned (.tuple #[.int .i64 (kindOf l x), .bool (tyOk l x)]) ∧ w = w' := by
  have HF := Lib.hid (struct_any x b M l w hc h hx)
  have HM := Lib.hid (made_any b M w hc)
  clear h hx
  cases he : x.toList.isEmpty
  · have HK : Hid (kindOf l x = numOf l x ∧ tyOk l x = isIn l x) := Lib.hid ⟨by unfold kindOf; rw [he]; rfl, by unfold tyOk; rw [he]; rfl⟩
    have he' : (x.toList == []) = false := by cases hh : x.toList <;> simp_all
    go_enter Try.func14, Try.ntmps14
    go_wp2_with (first | (go_at_call 13; refine HF.out.mono ?_; rintro e w' ⟨rfl, rfl⟩) | (go_at_call 32; refine HM.out.mono ?_; rintro e w' ⟨rfl, rfl⟩))
    go_ret2
    exact ⟨by rw [HK.out.1, HK.out.2]; rfl, rfl⟩
  · have HK : Hid (kindOf l x = -1 ∧ tyOk l x = true) := Lib.hid ⟨by unfold kindOf; rw [he]; rfl, by unfold tyOk; rw [he]; rfl⟩
    have he' : x.toList = [] := by cases hh : x.toList <;> simp_all
    go_enter Try.func14, Try.ntmps14
    go_wp2_with (first | (go_at_call 13; refine HF.out.mono ?_; rintro e w' ⟨rfl, rfl⟩) | (go_at_call 32; refine HM.out.mono ?_; rintro e w' ⟨rfl, rfl⟩))
    go_ret2
    exact ⟨by rw [HK.out.1, HK.out.2]; rfl, rfl⟩
end Go.Proofs.Ytjkgkigfmcegoaa
