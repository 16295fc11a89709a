/-
  DERIVED. The walks of the document's Plain: a path.
-/
import Derived.Test.YtpbjnjnmbglllaaRpD
import Derived.Deep.RegionLaw
namespace Go.Proofs.Ytpbjnjnmbglllaa
open Go.RowKit Go.Sort

theorem info85 : (Try.prog.info? 85).map (fun i => (i.zero, i.size, i.bytes)) = some (some (.agg #[.string ByteArray.empty, .int .i64 0]), 2, 24) := by kernel_rfl
theorem hper_one (a : ByteArray) : ∀ u ∈ [Value.string a, Value.int .i64 0], u.oneCell' = true := by
  intro u hu; simp only [List.mem_cons, List.not_mem_nil, or_false] at hu; rcases hu with rfl | rfl <;> rfl
theorem heap_alloc3_a (w : World) (A B C : Obj) : (((w.alloc A).alloc B).alloc C).heap[w.heap.size]? = some A := by
  rw [heap_alloc_old _ _ (by simp; omega), heap_alloc2_old]
theorem heap_alloc3_b (w : World) (A B C : Obj) : (((w.alloc A).alloc B).alloc C).heap[w.heap.size + 1]? = some B := by
  rw [heap_alloc_old _ _ (by simp), heap_alloc2_new]
theorem heap_alloc3_c (w : World) (A B C : Obj) : (((w.alloc A).alloc B).alloc C).heap[w.heap.size + 1 + 1]? = some C := by
  have := heap_alloc2_new (w.alloc A) B C
  simpa using this
/-- A block that is the call's own, whole. -/
def Bk (w : World) (g : Nat) (t : TypeId) (cs : Array Value) : Prop := w.heap[g]? = some (.cells cs t (0, 0))
theorem Bk.set_ {w : World} {g : Nat} {t : TypeId} {cs : Array Value} (h : Bk w g t cs) (i : Nat) (u : Value) : Bk (w.setCell ⟨g, i, none⟩ u) g t (cs.setIfInBounds i u) := by
  unfold Bk at h ⊢
  simp [World.setCell, Array.getElem?_modify, h]
theorem Bk.far {w : World} {g : Nat} {t : TypeId} {cs : Array Value} (h : Bk w g t cs) {p : Addr} (hp : g ≠ p.block) (u : Value) : Bk (w.setCell p u) g t cs := (Below.heap_setCell w p u g hp).trans h
theorem Bk.cell {w : World} {g : Nat} {t : TypeId} {cs : Array Value} (h : Bk w g t cs) (i : Nat) : w.cell? ⟨g, i, none⟩ = cs[i]? := cell_of_row w g i cs t (0, 0) h
theorem grownBy_setC (w : World) (a : Addr) (v : Value) : w.grownBy (w.setCell a v) (some a.block) :=
  ⟨rfl, rfl, rfl, by simp [World.setCell], fun i _ hne => Below.heap_setCell w a v i (fun e => hne (by rw [e]))⟩
theorem own_setC {w : World} {B : Nat} {e : TypeId} {k : Nat} {v : Value} {n : Nat} {xs : List Value} (h : w.ownsRow B e k v n xs) {a : Addr} (ha : a.block < B) (u : Value) : (w.setCell a u).ownsRow B e k v n xs :=
  h.kept (grownBy_setC w a u) (by
    cases hv : v.ownBlock with
    | none => exact .inl rfl
    | some g => right; intro e; injection e with e; have := (h.lt g hv).1; omega)
def hper (x : Hp) : List Value := [.string x.name, .int .i64 0]
set_option maxHeartbeats 1600000 in
set_option maxRecDepth 100000 in
theorem path_any (x : Pth) (w : World) (hl : hopsLie w x.hops) :
    Calls Try.prog 77 #[.agg #[.string x.name, .int .i64 x.pos, .slice x.hops.p x.hops.l.length x.hops.cap]] w fun e w' => ∃ v, e = .returned (.agg #[.string x.name, .int .i64 0, v]) ∧ w'.ownsRow w.heap.size 85 2 v x.hops.l.length (x.hops.l.flatMap hper) ∧ Below w.heap.size w w' := by
  obtain ⟨hlen, hl⟩ := hl
  obtain ⟨nm0, pos0, ⟨p, c, l⟩⟩ := x
  simp only at hlen hl ⊢
  have hlen' : l.length * 24 ≤ 140737488351232 := hlen
  have HL := Lib.hid hl
  clear hl hlen
  obtain ⟨i0, hi0, hz0, hz1, hz2⟩ := info_parts info85
  have HI := Lib.hid hi0; have HZ0 := Lib.hid hz0; have HZ1 := Lib.hid hz1; have HZ2 := Lib.hid hz2
  clear hi0 hz0 hz1 hz2
  go_enter Try.func77, Try.ntmps77
  go_wp2_with fail
  obtain ⟨wA, hwA⟩ : ∃ wA : World, wA = (((w.alloc (.cells #[.string nm0, .int .i64 pos0, .slice p l.length c] 48)).alloc (.cells #[.string ByteArray.empty, .int .i64 0, .slice none 0 0] 48)).alloc (.cells #[.string nm0, .int .i64 0, .slice none 0 0] 48)) := ⟨_, rfl⟩
  have HBA : Hid (Below w.heap.size w wA) := Lib.hid (by rw [hwA]; exact (((Below.refl _ _).alloc (Nat.le_refl _) _).alloc (by simp) _).alloc (by simp; omega) _)
  have HSA : Hid (wA.heap.size = w.heap.size + 3) := Lib.hid (by rw [hwA]; simp)
  have HK0 : Hid (wA.heap[w.heap.size]? = some (.cells #[.string nm0, .int .i64 pos0, .slice p l.length c] 48 (0, 0))) := Lib.hid (by rw [hwA]; exact heap_alloc3_a _ _ _ _)
  have HK1 : Hid (wA.heap[w.heap.size + 1]? = some (.cells #[.string ByteArray.empty, .int .i64 0, .slice none 0 0] 48 (0, 0))) := Lib.hid (by rw [hwA]; exact heap_alloc3_b _ _ _ _)
  have HK2 : Hid (wA.heap[w.heap.size + 1 + 1]? = some (.cells #[.string nm0, .int .i64 0, .slice none 0 0] 48 (0, 0))) := Lib.hid (by rw [hwA]; exact heap_alloc3_c _ _ _ _)
  change Code.wp _ _ _ _ (((w.alloc (.cells #[.string nm0, .int .i64 pos0, .slice p l.length c] 48)).alloc (.cells #[.string ByteArray.empty, .int .i64 0, .slice none 0 0] 48)).alloc (.cells #[.string nm0, .int .i64 0, .slice none 0 0] 48))
  rw [← hwA]
  clear hwA
  go_loopw [4] (fun i wr => ∃ (k : Nat) (v : Value), i = .int .i64 k ∧ k ≤ l.length ∧ Hid (wr.ownsRow (w.heap.size + 3) 85 2 v k ((l.take k).flatMap hper)) ∧ Hid (wr.heap[w.heap.size + 1 + 1]? = some (.cells #[.string nm0, .int .i64 0, v] 48 (0, 0))) ∧ Hid (Below (w.heap.size + 2) wA wr) ∧ Hid (w.heap.size + 3 ≤ wr.heap.size)) (fun i _ => l.length - (intOf i).toNat)
  case atStart => exact ⟨0, _, rfl, Nat.zero_le _, Lib.hid (World.ownsRow_nil _ _ _ _), HK2, Lib.hid (Below.refl _ _), Lib.hid (by have := HSA.out; omega)⟩
  case round =>
    obtain ⟨k, v, rfl, hk, HO, HD, HB, HS0⟩ := hrel
    have k02 : wr.cell? ⟨w.heap.size, 2, none⟩ = some (.slice p l.length c) := cell_of_row _ _ 2 _ _ _ ((HB.out.block _ (by omega)).trans HK0.out)
    have HBW : Hid (Below w.heap.size w wr) := Lib.hid (HBA.out.trans (HB.out.mono (by omega)))
    have k22 : wr.cell? ⟨w.heap.size + 1 + 1, 2, none⟩ = some v := cell_of_row _ _ 2 _ _ _ HD.out
    by_cases hkl : k < l.length
    · obtain ⟨b, o, rfl, hx⟩ : ∃ b o, p = some ⟨b, o, none⟩ ∧ ∀ k x, l[k]? = some x → w.rangeAt b (o + k * 2) (Hp.cells x) ∧ True := by
        rcases HL.out with hh | hh
        · rw [show l = [] from hh] at hkl; simp at hkl
        · exact hh
      have hx1 := (hx k l[k] (List.getElem?_eq_getElem hkl)).1
      have c0 := cell_at (rangeAt_below hx1 HBW.out) 0 _ rfl
      rw [Nat.add_zero] at c0
      have HS : Hid ((l.take (k + 1)).flatMap hper = (l.take k).flatMap hper ++ [.string l[k].name, .int .i64 0]) := Lib.hid (flat_snoc hper l k hkl)
      generalize l[k].name = nm at c0 HS
      clear hx hx1
      have hk0 : (0 : Int) ≤ (k : Int) := Int.natCast_nonneg _
      have hk1 : (k : Int) < (l.length : Int) := by omega
      go_wp2_with fail
      have k22a : (wr.alloc (.cells #[.string nm, .int .i64 0] 85)).drew.cell? ⟨w.heap.size + 1 + 1, 2, none⟩ = some v := cell_of_row _ _ 2 _ _ _ (((heap_alloc_old wr (.cells #[.string nm, .int .i64 0] 85) (by have := HS0.out; omega)) : _).trans HD.out)
      have HOD : Hid (wr.drew.ownsRow (w.heap.size + 3) 85 2 v k ((l.take k).flatMap hper)) := Lib.hid HO.out.drew
      have HBD : Hid (Below (w.heap.size + 2) wA wr.drew) := Lib.hid (below_drew HB.out)
      have HDD : Hid (wr.drew.heap[w.heap.size + 1 + 1]? = some (.cells #[.string nm0, .int .i64 0, v] 48 (0, 0))) := Lib.hid HD.out
      go_region_law (first
          | (refine step_append_lies _ rfl (.tmp 16) (.tmp 24) 46 rfl (w.heap.size + 3) 85 i0 (.agg #[.string ByteArray.empty, .int .i64 0]) 2 24 Try.underlying46 HI.out HZ0.out HZ1.out HZ2.out rfl (by decide) _ k _ rfl (HOD.out.alloc _) ⟨wr.drew.heap.size, 0, none⟩ 1 1 [.string nm, .int .i64 0] rfl rfl (World.news_of_block (heap_alloc_new _ _)) (hper_one nm) (by decide) (by unfold maxLen; omega) (by omega) (Nat.le_trans HS0.out (by simp)) _ rfl ?_; intro g cap w3 hown3 hgrow3 _ _; have HO3 := Lib.hid hown3; have HB3 : Hid (Below (w.heap.size + 2) wA w3) := Lib.hid ((HBD.out.alloc (by have := HS0.out; simp; omega) _).grown hgrow3 (by have := HS0.out; simp; omega) (fun q hq => by have := (HOD.out.lt q hq).1; omega)); have HD3 : Hid (w3.heap[w.heap.size + 1 + 1]? = some (.cells #[.string nm0, .int .i64 0, v] 48 (0, 0))) := Lib.hid ((hgrow3.block _ (by have := HS0.out; simp; omega) (fun e => by have := (HOD.out.lt _ e.symm).1; omega)).trans ((heap_alloc_old _ _ (by have := HS0.out; simp; omega)).trans HDD.out)); have d22 : w3.cell? ⟨w.heap.size + 1 + 1, 2, none⟩ = some v := cell_of_row _ _ 2 _ _ _ HD3.out; have f22 : w3.frozen? ⟨w.heap.size + 1 + 1, 2, none⟩ = false := frozen_of_row _ _ 2 _ _ HD3.out; have HS3 : Hid (w.heap.size + 3 ≤ w3.heap.size) := Lib.hid (by have := hgrow3.size; have := HS0.out; simp at *; omega); clear hown3 hgrow3))
      all_goals
        have HO4 : Hid ((w3.setCell ⟨w.heap.size + 1 + 1, 2, none⟩ (.slice (some ⟨g, 0, none⟩) (k + 1) cap)).ownsRow (w.heap.size + 3) 85 2 (.slice (some ⟨g, 0, none⟩) (k + 1) cap) (k + 1) ((l.take (k + 1)).flatMap hper)) := Lib.hid (by rw [HS.out]; exact own_setC HO3.out (by first | (simp; done) | (simp; omega)) _)
        have HD4 : Hid (Bk (w3.setCell ⟨w.heap.size + 1 + 1, 2, none⟩ (.slice (some ⟨g, 0, none⟩) (k + 1) cap)) (w.heap.size + 1 + 1) 48 #[.string nm0, .int .i64 0, .slice (some ⟨g, 0, none⟩) (k + 1) cap]) := Lib.hid (Bk.set_ HD3.out 2 _)
        have HB4 : Hid (Below (w.heap.size + 2) wA (w3.setCell ⟨w.heap.size + 1 + 1, 2, none⟩ (.slice (some ⟨g, 0, none⟩) (k + 1) cap))) := Lib.hid (HB3.out.setCell (by simp) _)
        have HS4 : Hid (w.heap.size + 3 ≤ (w3.setCell ⟨w.heap.size + 1 + 1, 2, none⟩ (.slice (some ⟨g, 0, none⟩) (k + 1) cap)).heap.size) := Lib.hid (by simp only [World.setCell, Array.size_modify]; exact HS3.out)
        generalize (w3.setCell ⟨w.heap.size + 1 + 1, 2, none⟩ (.slice (some ⟨g, 0, none⟩) (k + 1) cap)) = w4 at HO4 HD4 HB4 HS4 ⊢
        go_wp2_with fail
        go_roundw
        case rel => exact ⟨k + 1, _, by go_num, by omega, HO4, HD4, HB4, HS4⟩
        case measure => simp [intOf]; omega
    · have hkl' : k = l.length := by omega
      subst hkl'
      obtain ⟨a0, c0, rfl⟩ := own_shape HO.out
      have k20 : wr.cell? ⟨w.heap.size + 1 + 1, 0, none⟩ = some (.string nm0) := cell_of_row _ _ 0 _ _ _ HD.out
      have k21 : wr.cell? ⟨w.heap.size + 1 + 1, 1, none⟩ = some (.int .i64 0) := cell_of_row _ _ 1 _ _ _ HD.out
      have h1 : wr.heap[w.heap.size + 1]? = some (.cells #[.string ByteArray.empty, .int .i64 0, .slice none 0 0] 48 (0, 0)) := (HB.out.block _ (by omega)).trans HK1.out
      have H1 := Lib.hid h1
      have k10 := cell_of_row _ _ 0 _ _ _ h1
      have k11 := cell_of_row _ _ 1 _ _ _ h1
      have k12 := cell_of_row _ _ 2 _ _ _ h1
      have f10 := frozen_of_row _ _ 0 _ _ h1
      have f11 := frozen_of_row _ _ 1 _ _ h1
      have f12 := frozen_of_row _ _ 2 _ _ h1
      clear h1
      go_wp2_with fail
      have hB : Bk (((wr.setCell ⟨w.heap.size + 1, 0, none⟩ (.string nm0)).setCell ⟨w.heap.size + 1, 1, none⟩ (.int .i64 0)).setCell ⟨w.heap.size + 1, 2, none⟩ (.slice a0 l.length c0)) (w.heap.size + 1) 48 #[.string nm0, .int .i64 0, .slice a0 l.length c0] := ((Bk.set_ H1.out 0 _).set_ 1 _).set_ 2 _
      have hO := own_setC (own_setC (own_setC HO.out (a := ⟨w.heap.size + 1, 0, none⟩) (by first | (simp; done) | (simp; omega)) (.string nm0)) (a := ⟨w.heap.size + 1, 1, none⟩) (by first | (simp; done) | (simp; omega)) (.int .i64 0)) (a := ⟨w.heap.size + 1, 2, none⟩) (by first | (simp; done) | (simp; omega)) (.slice a0 l.length c0)
      rw [List.take_length] at hO
      have hW := ((HBW.out.setCell (p := ⟨w.heap.size + 1, 0, none⟩) (by simp) (.string nm0)).setCell (p := ⟨w.heap.size + 1, 1, none⟩) (by simp) (.int .i64 0)).setCell (p := ⟨w.heap.size + 1, 2, none⟩) (by simp) (.slice a0 l.length c0)
      generalize (((wr.setCell ⟨w.heap.size + 1, 0, none⟩ (.string nm0)).setCell ⟨w.heap.size + 1, 1, none⟩ (.int .i64 0)).setCell ⟨w.heap.size + 1, 2, none⟩ (.slice a0 l.length c0)) = w4 at hB hO hW ⊢
      have e0 : w4.cell? ⟨w.heap.size + 1, 0, none⟩ = some (.string nm0) := hB.cell 0
      have e1 : w4.cell? ⟨w.heap.size + 1, 1, none⟩ = some (.int .i64 0) := hB.cell 1
      have e2 : w4.cell? ⟨w.heap.size + 1, 2, none⟩ = some (.slice a0 l.length c0) := hB.cell 2
      exact bodyPost_ret (v := .agg #[.string nm0, .int .i64 0, .slice a0 l.length c0]) (by simp [results, Try.results77, go_sem, e0, e1, e2]) rfl ⟨_, rfl, own_base hO (by omega), hW⟩

end Go.Proofs.Ytpbjnjnmbglllaa
