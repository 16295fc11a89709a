/-
  DERIVED. The walk of Cycle.
-/
import Derived.Test.YtmhpaacjioeknaaGreatTm
namespace Go.Proofs.YtmhpaacjioeknaaGreat
open Go.RowKit Go.Maps Go.Sort Go.WideMaps
namespace Tj

set_option maxHeartbeats 6400000 in
set_option maxRecDepth 100000 in
theorem cycle_any (sv_ gv : Value) (s : Sl Pc) (w : World) (h : pcsLie w s) (hP : PsOk s.l) :
    Calls Tryz.prog 6 #[.agg #[sv_, gv, .slice s.p s.l.length s.cap]] w fun e w' => ∃ a er, e = .returned (.tuple #[.int .i64 a, .int .i64 er]) ∧ CycPost s.l a er ∧ Below w.heap.size w w' := by
  have HBA : Hid (Below w.heap.size w (w.alloc (.cells #[sv_, gv, .slice s.p s.l.length s.cap] 26))) := Lib.hid ((Below.refl _ _).alloc (Nat.le_refl _) _)
  have HX := Lib.hid (prog_box w sv_ gv (.slice s.p s.l.length s.cap))
  have HPS : Hid (pcsLie (w.alloc (.cells #[sv_, gv, .slice s.p s.l.length s.cap] 26)) s) := Lib.hid (pcsLie_below h HBA.out)
  have HP := Lib.hid hP
  have HWV := Lib.hid (woven_any s (w.alloc (.cells #[sv_, gv, .slice s.p s.l.length s.cap] 26)) HPS.out (Nat.le_trans hP.len (by decide)) hP.names hP.body)
  have HRM : Hid (∀ (w2 : World) (B b : Nat) (vs : List Value), Rws w2 B b vs (web s.l) → Calls Tryz.prog 17 #[.slice (some ⟨b, 0, none⟩) s.l.length s.l.length] w2 fun e w' => ∃ (f : Nat) (b : Bool), e = .returned (.tuple #[.int .i64 f, .bool b]) ∧ (b = true ↔ f < s.l.length) ∧ (f < s.l.length → Rt (web s.l) f f) ∧ (∀ u, u < s.l.length → Rt (web s.l) u u → f ≤ u) ∧ Below w2.heap.size w2 w') := Lib.hid (fun w2 B b vs hr => by
    have h1 := round_m (wc := s.l.length) hr (by rw [web_len]; exact hP.len) (web_inR hP) (fun xs hx => (web_in hP xs hx).1)
    rw [web_len] at h1
    exact h1)
  have hl' : (s.l.length : Int) ≤ 1000 := by have := hP.len; omega
  have HBS := Lib.hid HBA.out.size
  have HXS : Hid ((w.alloc (.cells #[sv_, gv, .slice s.p s.l.length s.cap] 26)).heap.size = w.heap.size + 1) := Lib.hid (by simp)
  clear h hP
  by_cases hex : ∃ i, i < s.l.length ∧ Rt (web s.l) i i
  · have HEX := Lib.hid hex
    have HRT : Hid (∀ (w2 : World) (B b : Nat) (vs : List Value), Rws w2 B b vs (web s.l) → Calls Tryz.prog 17 #[.slice (some ⟨b, 0, none⟩) s.l.length s.l.length] w2 fun e w' => ∃ f : Nat, e = .returned (.tuple #[.int .i64 f, .bool true]) ∧ f < s.l.length ∧ Rt (web s.l) f f ∧ (∀ u, u < s.l.length → Rt (web s.l) u u → f ≤ u) ∧ Below w2.heap.size w2 w') := Lib.hid (fun w2 B b vs hr => (HRM.out w2 B b vs hr).mono (by
      rintro e w' ⟨f, bb, rfl, h1, h2, h3, h4⟩
      obtain ⟨i, hi, hri⟩ := HEX.out
      have hf : f < s.l.length := Nat.lt_of_le_of_lt (h3 i hi hri) hi
      rw [h1.2 hf]
      exact ⟨f, rfl, hf, h2 hf, h3, h4⟩))
    clear HRM hex HEX
    go_enter Tryz.func6, Tryz.ntmps6
    go_wp2_with (first | (go_at_call 16; refine (HWV.out).mono ?_; rintro en w2 ⟨B, b, vs, rfl, hr, hb, -, -⟩; have HB2 := Lib.hid hb; have HR3 := Lib.hid (HRT.out w2 B b vs hr); clear hr hb) | (go_at_call 17; refine (HR3.out).mono ?_; rintro en w3 ⟨f, rfl, hfl, hrt, hmin, hb⟩; have HB3 := Lib.hid (HB2.out.trans (hb.mono HB2.out.size)); obtain ⟨x, hx⟩ := (⟨_, List.getElem?_eq_getElem hfl⟩ : ∃ x, s.l[f]? = some x); have HXX := Lib.hid hx; have HRT2 := Lib.hid (And.intro hrt hmin); obtain ⟨pb, o, hp, hrg, hpl⟩ := pc_at HPS.out hx; have hfl' : (f : Int) < (s.l.length : Int) := (by omega); have c2 : w3.cell? ⟨w.heap.size, 2, none⟩ = some (.slice (some ⟨pb, o, none⟩) s.l.length s.cap) := (by rw [← hp]; exact (HX.out.below HB3.out HX.out.lt).cell 2); have c1 : w3.cell? ⟨pb, o + f * 6 + 1, none⟩ = some (.int .i64 x.pos) := cell_at (rangeAt_below hrg HB3.out) 1 _ rfl; have HFL := Lib.hid hfl; clear hx hpl hrg hb hrt hmin))
    refine bodyPost_ret (v := .tuple #[.int .i64 x.pos, .int .i64 10]) (by simp [results, Tryz.results6, go_sem]) rfl ?_
    refine ⟨_, _, rfl, .inr ⟨rfl, f, x, HXX.out, HRT2.out.1, fun k hk hr => ?_, rfl⟩, HBA.out.trans (HB3.out.mono HBS.out)⟩
    have := HRT2.out.2 k (Nat.lt_trans hk HFL.out) hr
    omega
  · have HEX := Lib.hid hex
    have HRT : Hid (∀ (w2 : World) (B b : Nat) (vs : List Value), Rws w2 B b vs (web s.l) → Calls Tryz.prog 17 #[.slice (some ⟨b, 0, none⟩) s.l.length s.l.length] w2 fun e w' => ∃ f : Nat, e = .returned (.tuple #[.int .i64 f, .bool false]) ∧ Below w2.heap.size w2 w') := Lib.hid (fun w2 B b vs hr => (HRM.out w2 B b vs hr).mono (by
      rintro e w' ⟨f, bb, rfl, h1, h2, h3, h4⟩
      have hb : bb = false := by
        cases hbb : bb with
        | false => rfl
        | true => exact absurd ⟨f, h1.1 hbb, h2 (h1.1 hbb)⟩ HEX.out
      rw [hb]
      exact ⟨f, rfl, h4⟩))
    clear HRM hex
    go_enter Tryz.func6, Tryz.ntmps6
    go_wp2_with (first | (go_at_call 16; refine (HWV.out).mono ?_; rintro en w2 ⟨B, b, vs, rfl, hr, hb, -, -⟩; have HB2 := Lib.hid hb; have HR3 := Lib.hid (HRT.out w2 B b vs hr); clear hr hb) | (go_at_call 17; refine (HR3.out).mono ?_; rintro en w3 ⟨f, rfl, hb⟩; have HB3 := Lib.hid (HB2.out.trans (hb.mono HB2.out.size)); clear hb))
    refine bodyPost_ret (v := .tuple #[.int .i64 0, .int .i64 0]) (by simp [results, Tryz.results6, go_sem]) rfl ?_
    exact ⟨_, _, rfl, .inl ⟨rfl, rfl, fun i hi hr => HEX.out ⟨i, hi, hr⟩⟩, HBA.out.trans (HB3.out.mono HBS.out)⟩
end Tj
end Go.Proofs.YtmhpaacjioeknaaGreat
