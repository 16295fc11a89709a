/-
  DERIVED. The walk of the law's first.
-/
import Derived.Test.YtmhpaacjioeknaaTp
namespace Go.Proofs.Ytmhpaacjioeknaa
open Go.RowKit Go.Maps Go.Sort Go.WideMaps
namespace Tj

set_option maxHeartbeats 6400000 in
set_option maxRecDepth 100000 in
theorem first_m (sv_ gv : Value) (s : Sl Pc) (i : Nat) (w : World) (h : pcsLie w s) (hl : s.l.length ≤ 1000) {x : Pc} (hx : s.l[i]? = some x) :
    Calls Try.prog 13 #[.agg #[sv_, gv, .slice s.p s.l.length s.cap], .int .i64 i] w fun e w' => ∃ b : Bool, e = .returned (.bool b) ∧ (b = true ↔ ∀ (j : Nat) (y : Pc), j < i → s.l[j]? = some y → y.name ≠ x.name) ∧ Below w.heap.size w w' := by
  have hi : i < s.l.length := (List.getElem?_eq_some_iff.1 hx).1
  have HBA : Hid (Below w.heap.size w (w.alloc (.cells #[sv_, gv, .slice s.p s.l.length s.cap] 26))) := Lib.hid ((Below.refl _ _).alloc (Nat.le_refl _) _)
  have HX := Lib.hid (prog_box w sv_ gv (.slice s.p s.l.length s.cap))
  have HPS : Hid (pcsLie (w.alloc (.cells #[sv_, gv, .slice s.p s.l.length s.cap] 26)) s) := Lib.hid (pcsLie_below h HBA.out)
  have hl' : (s.l.length : Int) ≤ 1000 := by omega
  have hi' : (i : Int) < (s.l.length : Int) := by omega
  obtain ⟨pb, o, hp, hr, -⟩ := pc_at HPS.out hx
  have HR := Lib.hid hr
  have HP := Lib.hid hp
  have HXX := Lib.hid hx
  have HI := Lib.hid hi
  have HBS := Lib.hid HBA.out.size
  clear h hl hx hi hr hp
  go_enter Try.func13, Try.ntmps13
  go_wp2_with fail
  have HBR := Lib.hid (Below.refl (w.alloc (.cells #[sv_, gv, .slice s.p s.l.length s.cap] 26)).heap.size (w.alloc (.cells #[sv_, gv, .slice s.p s.l.length s.cap] 26)))
  generalize w.alloc (.cells #[sv_, gv, .slice s.p s.l.length s.cap] 26) = w1 at HX HBA HBR HPS HR HBS ⊢
  go_loopw [5] (fun sj wr => ∃ k : Nat, sj = .int .i64 k ∧ k ≤ i ∧ Hid (∀ (j : Nat) (y : Pc), j < k → s.l[j]? = some y → y.name ≠ x.name) ∧ Hid (Below w1.heap.size w1 wr)) (fun sj _ => i - (Lib.intOf sj).toNat)
  case atStart => exact ⟨0, rfl, Nat.zero_le _, Lib.hid (fun j _ hj => absurd hj (Nat.not_lt_zero _)), HBR⟩
  case round =>
    clear HBR
    obtain ⟨k, rfl, hk, HNO, HB⟩ := hrel
    have HBW : Hid (Below w.heap.size w wr) := Lib.hid (HBA.out.trans (HB.out.mono HBS.out))
    have HBD : Hid (Below w1.heap.size w1 wr.drew) := Lib.hid (below_drew HB.out)
    by_cases hki : k < i
    · have hkl : k < s.l.length := Nat.lt_trans hki HI.out
      obtain ⟨y, hy⟩ : ∃ y, s.l[k]? = some y := ⟨_, List.getElem?_eq_getElem hkl⟩
      obtain ⟨pb2, o2, hp2, hr2, -⟩ := pc_at HPS.out hy
      rw [HP.out] at hp2
      injection hp2 with hp2
      injection hp2 with e1 e2 e3
      subst e1; subst e2
      have c2 : wr.drew.cell? ⟨w.heap.size, 2, none⟩ = some (.slice (some ⟨pb, o, none⟩) s.l.length s.cap) := by rw [← HP.out]; exact (HX.out.below HBD.out HX.out.lt).cell 2
      have ck : wr.drew.cell? ⟨pb, o + k * 6, none⟩ = some (.string y.name) := cell_at (rangeAt_below hr2 HBD.out) 0 _ rfl
      have ci : wr.drew.cell? ⟨pb, o + i * 6, none⟩ = some (.string x.name) := cell_at (rangeAt_below HR.out HBD.out) 0 _ rfl
      have hki' : (k : Int) < (i : Int) := by omega
      have hkl' : (k : Int) < (s.l.length : Int) := by omega
      have HY := Lib.hid hy
      clear hr2 hy e3
      by_cases hnm : y.name = x.name
      · have HNM := Lib.hid hnm
        rw [hnm] at ck
        go_wp2_with fail
        go_region
        all_goals
          go_wp2_with fail
          go_ret
          exact ⟨false, rfl, ⟨fun q => absurd q (by decide), fun q => absurd HNM.out (q k y (by omega) HY.out)⟩, below_drew HBW.out⟩
      · have HN2 : Hid (∀ (j : Nat) (z : Pc), j < k + 1 → s.l[j]? = some z → z.name ≠ x.name) := Lib.hid (fun j z hj hz => by
          rcases Nat.lt_succ_iff_lt_or_eq.1 hj with q | q
          · exact HNO.out j z q hz
          · subst q
            have h2 := HY.out
            rw [hz] at h2
            injection h2 with h2
            subst h2
            exact hnm)
        have he' : (y.name.toList == x.name.toList) = false := by
          rw [toList_data, toList_data, beq_eq_false_iff_ne]
          intro h1
          exact hnm (ByteArray.ext (Array.toList_inj.1 h1))
        generalize y.name = n1 at *
        generalize x.name = n2 at *
        go_wp2_with fail
        go_region
        all_goals
          go_wp2_with fail
          go_roundw
          case rel => exact ⟨k + 1, by go_num, by omega, HN2, HBD⟩
          case measure => simp [Lib.intOf]; omega
    · have hke : k = i := by omega
      subst hke
      go_wp2_with fail
      go_ret
      exact ⟨true, rfl, ⟨fun _ => HNO.out, fun _ => rfl⟩, HBW.out⟩
end Tj
end Go.Proofs.Ytmhpaacjioeknaa
