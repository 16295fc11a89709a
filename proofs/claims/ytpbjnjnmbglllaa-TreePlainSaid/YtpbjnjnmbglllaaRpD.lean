/-
  DERIVED. The walks of the document's Plain: decls.
-/
import Derived.Test.YtpbjnjnmbglllaaBare
import Derived.Test.YtpbjnjnmbglllaaRefC
import Derived.Deep.RegionHeld3
import Derived.Deep.AppendLies
namespace Go.Proofs.Ytpbjnjnmbglllaa
open Go.RowKit Go.Sort

theorem info45 : (Try.prog.info? 45).map (fun i => (i.zero, i.size, i.bytes)) = some (some (.agg #[.string ByteArray.empty, .string ByteArray.empty, .int .i64 0]), 3, 40) := by kernel_rfl
theorem below_drew {B : Nat} {w w' : World} (h : Below B w w') : Below B w w'.drew := below_drewN h 1
/-- Rows of the call's own: what a list's items have for cells. -/
theorem flat_snoc {α : Type} (f : α → List Value) (l : List α) (k : Nat) (h : k < l.length) : (l.take (k + 1)).flatMap f = (l.take k).flatMap f ++ f l[k] := by
  rw [List.take_succ_eq_append_getElem h, List.flatMap_append]; simp

theorem dcer_one (a b : ByteArray) : ∀ u ∈ [Value.string a, Value.string b, Value.int .i64 0], u.oneCell' = true := by
  intro u hu; simp only [List.mem_cons, List.not_mem_nil, or_false] at hu; rcases hu with rfl | rfl | rfl <;> rfl
def dcer (x : Dc) : List Value := [.string x.type, .string x.name, .int .i64 0]
set_option maxHeartbeats 1600000 in
set_option maxRecDepth 100000 in
theorem decls_any (l : List Dc) (p : Option Addr) (c : Nat) (w : World) (hl : declsLie w ⟨p, c, l⟩) :
    Calls Try.prog 48 #[.slice p l.length c] w fun e w' => ∃ v, e = .returned v ∧ w'.ownsRow w.heap.size 45 3 v l.length (l.flatMap dcer) ∧ Below w.heap.size w w' := by
  obtain ⟨hlen, hl⟩ := hl
  have hlen' : l.length * 40 ≤ 140737488351232 := hlen
  have HL := Lib.hid hl
  clear hl hlen
  obtain ⟨i0, hi0, hz0, hz1, hz2⟩ := info_parts info45
  have HI := Lib.hid hi0; have HZ0 := Lib.hid hz0; have HZ1 := Lib.hid hz1; have HZ2 := Lib.hid hz2
  clear hi0 hz0 hz1 hz2
  go_enter Try.func48, Try.ntmps48
  go_wp2_with fail
  go_loopw [3, 4] (fun v i wr => ∃ k : Nat, i = .int .i64 k ∧ k ≤ l.length ∧ Hid (wr.ownsRow w.heap.size 45 3 v k ((l.take k).flatMap dcer)) ∧ Hid (Below w.heap.size w wr)) (fun _ i _ => l.length - (intOf i).toNat)
  case atStart => exact ⟨0, rfl, Nat.zero_le _, Lib.hid (World.ownsRow_nil _ _ _ _), Lib.hid (Below.refl _ _)⟩
  case round =>
    obtain ⟨k, rfl, hk, HO, HB⟩ := hrel
    by_cases hkl : k < l.length
    · obtain ⟨b, o, rfl, hx⟩ : ∃ b o, p = some ⟨b, o, none⟩ ∧ ∀ k x, l[k]? = some x → w.rangeAt b (o + k * 3) (Dc.cells x) ∧ True := by
        rcases HL.out with hh | hh
        · rw [show l = [] from hh] at hkl; simp at hkl
        · exact hh
      have hx1 := (hx k l[k] (List.getElem?_eq_getElem hkl)).1
      have c0 := cell_at (rangeAt_below hx1 HB.out) 0 _ rfl
      have c1 := cell_at (rangeAt_below hx1 HB.out) 1 _ rfl
      rw [Nat.add_zero] at c0
      have HS : Hid ((l.take (k + 1)).flatMap dcer = (l.take k).flatMap dcer ++ [.string l[k].type, .string l[k].name, .int .i64 0]) := Lib.hid (flat_snoc dcer l k hkl)
      obtain ⟨ty, hty⟩ : ∃ ty, ty = l[k].type := ⟨_, rfl⟩
      obtain ⟨nm, hnm⟩ : ∃ nm, nm = l[k].name := ⟨_, rfl⟩
      rw [← hty] at c0 HS
      rw [← hnm] at c1 HS
      have HT0 : Hid (Value.string l[k].type = .string ty) := Lib.hid (by rw [hty])
      have HT1 : Hid (Value.string l[k].name = .string nm) := Lib.hid (by rw [hnm])
      clear hty hnm
      clear hx
      have hk0 : (0 : Int) ≤ (k : Int) := Int.natCast_nonneg _
      have hk1 : (k : Int) < (l.length : Int) := by omega
      go_wp2_with fail
      have HOD : Hid (wr.drew.ownsRow w.heap.size 45 3 u3 k ((l.take k).flatMap dcer)) := Lib.hid HO.out.drew
      have HBD : Hid (Below w.heap.size w wr.drew) := Lib.hid (below_drew HB.out)
      have HX1 := Lib.hid hx1
      clear hx1
      go_region_held3 (fun w' => w'.cell? ⟨b, o + k * 3, none⟩ = some (.string ty) ∧ w'.cell? ⟨b, o + k * 3 + 1, none⟩ = some (.string nm)) (first | exact ⟨g0, g1⟩ | go_keep)
        ((first
          | (refine step_append_lies _ rfl (.tmp 11) (.tmp 23) 31 rfl w.heap.size 45 i0 (.agg #[.string ByteArray.empty, .string ByteArray.empty, .int .i64 0]) 3 40 Try.underlying31 HI.out HZ0.out HZ1.out HZ2.out rfl (by decide) _ k _ rfl (HOD.out.alloc _) ⟨wr.drew.heap.size, 0, none⟩ 1 1 [.string ty, .string nm, .int .i64 0] rfl rfl (World.news_of_block (heap_alloc_new _ _)) (dcer_one ty nm) (by decide) (by unfold maxLen; omega) (by omega) (Nat.le_trans HBD.out.size (by simp)) _ rfl ?_; intro g cap w3 hown3 hgrow3 _ _; have HO3 := Lib.hid hown3; have HB3 : Hid (Below w.heap.size w w3) := Lib.hid ((HBD.out.alloc HBD.out.size _).grown hgrow3 (by simp; exact Nat.le_succ_of_le HBD.out.size) (fun q hq => (HOD.out.lt q hq).1)); have g0 : w3.cell? ⟨b, o + k * 3, none⟩ = some (.string ty) := (cell_at (rangeAt_below HX1.out HB3.out) 0 _ rfl).trans (congrArg some HT0.out); have g1 : w3.cell? ⟨b, o + k * 3 + 1, none⟩ = some (.string nm) := (cell_at (rangeAt_below HX1.out HB3.out) 1 _ rfl).trans (congrArg some HT1.out); clear hown3 hgrow3)))
      all_goals
        go_wp2_with fail
        go_roundw
        case rel => exact ⟨k + 1, by go_num, by omega, Lib.hid (by rw [HS.out]; exact HO3.out), HB3⟩
        case measure => simp [intOf]; omega
    · go_wp2_with fail
      have hkl' : k = l.length := by omega
      subst hkl'
      obtain ⟨a0, c0, rfl⟩ := own_shape HO.out
      go_ret
      have hO := HO.out
      rw [List.take_length] at hO
      exact ⟨_, rfl, hO, HB.out⟩

end Go.Proofs.Ytpbjnjnmbglllaa
