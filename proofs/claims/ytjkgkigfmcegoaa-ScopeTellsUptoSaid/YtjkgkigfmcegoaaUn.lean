/-
  DERIVED. What a table that no call made tells.
-/
import Derived.Test.YtjkgkigfmcegoaaLi
namespace Go.Proofs.Ytjkgkigfmcegoaa
open Go.RowKit Go.Sort Go.Maps

/-- A table that no call made. -/
def Unmade (w : World) (t : Value) : Prop := t = .pointer none ∨ ∃ b, t = .pointer (some ⟨b, 0, none⟩) ∧ Bk w b 57 #[.map none, .map none, .slice none 0 0, .map none, .slice none 0 0, .map none]
theorem Unmade.keep {w w' : World} {t : Value} (h : Unmade w t) (hb : Below w.heap.size w w') : Unmade w' t := by
  rcases h with h | ⟨b, h, k⟩
  · exact .inl h
  · exact .inr ⟨b, h, k.below hb k.lt⟩

set_option maxHeartbeats 800000 in
set_option maxRecDepth 100000 in
theorem findN_nil (x : ByteArray) (w : World) (hx : byName.ok x) : Calls Try.prog 31 #[.map none, .string x] w fun en w' => en = .returned (.tuple #[.int .i64 0, .bool false]) ∧ w = w' := by
  have hl : (Instr.lookup 52 (.map none) (.string x) true).run Try.prog w = .ok (.tuple #[.int .i64 0, .bool false]) w := Maps.look_nil true (w := w) byName.law Try.underlying52 (zero3 w) (byName.key x hx)
  clear hx
  go_enter Try.func31, Try.ntmps31
  go_wp2
  go_ret2
  exact ⟨rfl, rfl⟩
set_option maxHeartbeats 800000 in
set_option maxRecDepth 100000 in
theorem findM_nil (o : Int) (x : ByteArray) (w : World) (hx : byMember.ok (o, x)) : Calls Try.prog 33 #[.map none, .agg #[.int .i64 o, .string x]] w fun en w' => en = .returned (.tuple #[.int .i64 0, .bool false]) ∧ Below w.heap.size w w' := by
  have hl : ∀ w, (Instr.lookup 54 (.map none) (.agg #[.int .i64 o, .string x]) true).run Try.prog w = .ok (.tuple #[.int .i64 0, .bool false]) w := fun w => Maps.look_nil true (w := w) byMember.law Try.underlying54 (zero3 w) (byMember.key (o, x) hx)
  clear hx
  go_enter Try.func33, Try.ntmps33
  go_wp2
  go_ret2
  exact ⟨rfl, (Below.refl _ _).alloc (Nat.le_refl _) _⟩

set_option maxHeartbeats 800000 in
set_option maxRecDepth 100000 in
theorem struct_un (x : ByteArray) (t : Value) (w : World) (ht : Unmade w t) (hx : byName.ok x) : Calls Try.prog 13 #[t, .string x] w fun en w' => en = .returned (.tuple #[.int .i64 0, .bool false]) ∧ w = w' := by
  have HF := Lib.hid (findN_nil x w hx)
  clear hx
  rcases ht with rfl | ⟨b, rfl, hk⟩
  · go_enter Try.func13, Try.ntmps13
    go_wp2_with fail
    go_ret2
    exact ⟨rfl, rfl⟩
  · have c0 : w.cell? ⟨b, 0, none⟩ = some (.map none) := hk.cell 0
    clear hk
    go_enter Try.func13, Try.ntmps13
    go_wp2_with (go_at_call 31; refine HF.out.mono ?_; rintro e w' ⟨rfl, rfl⟩)
    go_ret2
    exact ⟨rfl, rfl⟩
set_option maxHeartbeats 800000 in
set_option maxRecDepth 100000 in
theorem proc_un (x : ByteArray) (t : Value) (w : World) (ht : Unmade w t) (hx : byName.ok x) : Calls Try.prog 17 #[t, .string x] w fun en w' => en = .returned (.tuple #[.int .i64 0, .bool false]) ∧ w = w' := by
  have HF := Lib.hid (findN_nil x w hx)
  clear hx
  rcases ht with rfl | ⟨b, rfl, hk⟩
  · go_enter Try.func17, Try.ntmps17
    go_wp2_with fail
    go_ret2
    exact ⟨rfl, rfl⟩
  · have c0 : w.cell? ⟨b, 5, none⟩ = some (.map none) := hk.cell 5
    clear hk
    go_enter Try.func17, Try.ntmps17
    go_wp2_with (go_at_call 31; refine HF.out.mono ?_; rintro e w' ⟨rfl, rfl⟩)
    go_ret2
    exact ⟨rfl, rfl⟩
set_option maxHeartbeats 800000 in
set_option maxRecDepth 100000 in
theorem global_un (x : ByteArray) (t : Value) (w : World) (ht : Unmade w t) (hx : byName.ok x) : Calls Try.prog 16 #[t, .string x] w fun en w' => en = .returned (.tuple #[.int .i64 0, .int .i64 0, .bool false]) ∧ w = w' := by
  have HF := Lib.hid (findN_nil x w hx)
  clear hx
  rcases ht with rfl | ⟨b, rfl, hk⟩
  · go_enter Try.func16, Try.ntmps16
    go_wp2_with fail
    exact bodyPost_ret (results_tmp3 rfl _ _ _) rfl ⟨rfl, rfl⟩
  · have c0 : w.cell? ⟨b, 3, none⟩ = some (.map none) := hk.cell 3
    clear hk
    go_enter Try.func16, Try.ntmps16
    go_wp2_with (go_at_call 31; refine HF.out.mono ?_; rintro e w' ⟨rfl, rfl⟩)
    exact bodyPost_ret (results_tmp3 rfl _ _ _) rfl ⟨rfl, rfl⟩
set_option maxHeartbeats 800000 in
set_option maxRecDepth 100000 in
theorem field_un (o : Int) (x : ByteArray) (t : Value) (w : World) (ht : Unmade w t) (hx : byMember.ok (o, x)) : Calls Try.prog 15 #[t, .int .i64 o, .string x] w fun en w' => en = .returned (.tuple #[.int .i64 0, .bool false]) ∧ Below w.heap.size w w' := by
  have HF := Lib.hid (findM_nil o x w hx)
  clear hx
  rcases ht with rfl | ⟨b, rfl, hk⟩
  · go_enter Try.func15, Try.ntmps15
    go_wp2_with fail
    go_ret2
    exact ⟨rfl, Below.refl _ _⟩
  · have c0 : w.cell? ⟨b, 1, none⟩ = some (.map none) := hk.cell 1
    clear hk
    go_enter Try.func15, Try.ntmps15
    go_wp2_with (go_at_call 33; refine HF.out.mono ?_; rintro e w' ⟨rfl, hb⟩)
    go_ret2
    exact ⟨rfl, hb⟩
set_option maxHeartbeats 800000 in
set_option maxRecDepth 100000 in
theorem made_un (t : Value) (w : World) (ht : Unmade w t) : Calls Try.prog 32 #[t] w fun en w' => en = .returned (.bool false) ∧ w = w' := by
  rcases ht with rfl | ⟨b, rfl, hk⟩
  · go_enter Try.func32, Try.ntmps32
    go_wp2
    go_ret
    exact ⟨rfl, rfl⟩
  · have c0 : w.cell? ⟨b, 0, none⟩ = some (.map none) := hk.cell 0
    clear hk
    have hn := fun (w : World) => run_neq_map_nil (P := Try.prog) w 52 9 3 none Try.underlying52
    go_enter Try.func32, Try.ntmps32
    go_wp2
    go_ret
    exact ⟨rfl, rfl⟩
set_option maxHeartbeats 800000 in
set_option maxRecDepth 100000 in
theorem type_un (x : ByteArray) (t : Value) (w : World) (ht : Unmade w t) (hx : byName.ok x) : Calls Try.prog 14 #[t, .string x] w fun en w' => en = .returned (.tuple #[.int .i64 0, .bool false]) ∧ w = w' := by
  have HF := Lib.hid (struct_un x t w ht hx)
  have HM := Lib.hid (made_un t w ht)
  clear hx ht
  cases he : x.toList.isEmpty
  · have he' : (x.toList == []) = false := by cases hh : x.toList <;> simp_all
    go_enter Try.func14, Try.ntmps14
    go_wp2_with (first | (go_at_call 13; refine HF.out.mono ?_; rintro e w' ⟨rfl, rfl⟩) | (go_at_call 32; refine HM.out.mono ?_; rintro e w' ⟨rfl, rfl⟩))
    go_ret2
    exact ⟨rfl, rfl⟩
  · have he' : x.toList = [] := by cases hh : x.toList <;> simp_all
    go_enter Try.func14, Try.ntmps14
    go_wp2_with (first | (go_at_call 13; refine HF.out.mono ?_; rintro e w' ⟨rfl, rfl⟩) | (go_at_call 32; refine HM.out.mono ?_; rintro e w' ⟨rfl, rfl⟩))
    go_ret2
    exact ⟨rfl, rfl⟩
set_option maxHeartbeats 800000 in
set_option maxRecDepth 100000 in
theorem structs_un (t : Value) (w : World) (ht : Unmade w t) : Calls Try.prog 11 #[t] w fun en w' => en = .returned (.int .i64 0) ∧ w = w' := by
  rcases ht with rfl | ⟨b, rfl, hk⟩
  · go_enter Try.func11, Try.ntmps11
    go_wp2
    go_ret
    exact ⟨rfl, rfl⟩
  · have c0 : w.cell? ⟨b, 0, none⟩ = some (.map none) := hk.cell 0
    clear hk
    have hn : ∀ ty, (Builtin.len_ #[52] ty #[.map none]).run Try.prog w = .ok (.int .i64 0) w := fun ty => Maps.len_nil Try.underlying52 ty
    go_enter Try.func11, Try.ntmps11
    go_wp2
    go_ret
    exact ⟨rfl, rfl⟩
set_option maxHeartbeats 800000 in
set_option maxRecDepth 100000 in
theorem fields_un (t : Value) (w : World) (ht : Unmade w t) : Calls Try.prog 12 #[t] w fun en w' => en = .returned (.slice none 0 0) ∧ Below w.heap.size w w' := by
  rcases ht with rfl | ⟨b, rfl, hk⟩
  · go_enter Try.func12, Try.ntmps12
    go_wp2
    go_ret
    exact ⟨rfl, Below.refl _ _⟩
  · have c0 : w.cell? ⟨b, 2, none⟩ = some (.slice none 0 0) := hk.cell 2
    have HC : Hid (Calls Try.prog 30 #[.slice none 0 0] w fun en w' => en = .returned (.slice none 0 0) ∧ w = w') := Lib.hid (by
      have hn := fun (w : World) => Lib.run_eql_slice_nil (P := Try.prog) w 33 42 none 0 0 0 0 Try.underlying33
      go_enter Try.func30, Try.ntmps30
      go_wp2
      go_ret
      exact ⟨rfl, rfl⟩)
    clear hk
    go_enter Try.func12, Try.ntmps12
    go_wp2_with (go_at_call 30; refine HC.out.mono ?_; rintro e w' ⟨rfl, rfl⟩)
    go_ret
    exact ⟨rfl, Below.refl _ _⟩
end Go.Proofs.Ytjkgkigfmcegoaa
