/-
  DERIVED. The walk of Reach.
-/
import Derived.Test.YtmhpaacjioeknaaGreatTt
namespace Go.Proofs.YtmhpaacjioeknaaGreat
open Go.RowKit Go.Maps Go.Sort Go.WideMaps
namespace Tj

/-- What Reach answers: none where there is no such name; else whom the first of that name comes to, rising. -/
def RchPost (l : List Pc) (nm : ByteArray) (fs : List Int) : Prop :=
  (nm ∉ nms l ∧ fs = []) ∨ (nm ∈ nms l ∧ plc (nms l) nm < l.length ∧ fs.Pairwise (fun x y => x ≤ y) ∧ fs.Nodup ∧ (∀ c : Nat, (c : Int) ∈ fs ↔ Rt (web l) (plc (nms l) nm) c) ∧ ∀ x ∈ fs, ∃ c : Nat, x = (c : Int) ∧ c < l.length)
set_option maxHeartbeats 6400000 in
set_option maxRecDepth 100000 in
theorem reachN_any (sv_ gv : Value) (s : Sl Pc) (nm : ByteArray) (hnm : nm.size ≤ maxLen) (w : World) (h : pcsLie w s) (hP : PsOk s.l) :
    Calls Tryz.prog 9 #[.agg #[sv_, gv, .slice s.p s.l.length s.cap], .string nm] w fun e w' => ∃ v fs, e = .returned v ∧ OR w' w.heap.size v fs ∧ RchPost s.l nm fs ∧ Below w.heap.size w w' := by
  have HBA : Hid (Below w.heap.size w (w.alloc (.cells #[sv_, gv, .slice s.p s.l.length s.cap] 26))) := Lib.hid ((Below.refl _ _).alloc (Nat.le_refl _) _)
  have HX := Lib.hid (prog_box w sv_ gv (.slice s.p s.l.length s.cap))
  have HPS : Hid (pcsLie (w.alloc (.cells #[sv_, gv, .slice s.p s.l.length s.cap] 26)) s) := Lib.hid (pcsLie_below h HBA.out)
  have HP := Lib.hid hP
  have HNM := Lib.hid hnm
  have HNU := Lib.hid (numbered_any s (w.alloc (.cells #[sv_, gv, .slice s.p s.l.length s.cap] 26)) HPS.out (Nat.le_trans hP.len (by decide)) hP.names)
  have HBS := Lib.hid HBA.out.size
  clear h hP hnm
  go_enter Tryz.func9, Tryz.ntmps9
  rcases hin : isIn (nms s.l) nm with _ | _
  · have HM := Lib.hid hin
    clear hin
    go_wp2_with (first | (go_at_call 19; refine (HNU.out).mono ?_; rintro en w2 ⟨mb, rfl, hn, hb, hmb⟩; have HB2 := Lib.hid hb; have hlk := hn.look HNM.out; rw [HM.out] at hlk; clear hn hb hmb))
    go_ret
    exact ⟨_, [], rfl, World.ownsRow_nil _ _ _ _, .inl ⟨fun q => by rw [isIn_iff.2 q] at HM; exact absurd HM.out (by decide), rfl⟩, HBA.out.trans (HB2.out.mono HBS.out)⟩
  · have HM := Lib.hid hin
    have HML : Hid (numOf (nms s.l) nm = (plc (nms s.l) nm : Int) ∧ plc (nms s.l) nm < s.l.length) := Lib.hid ⟨num_plc (isIn_iff.1 hin), by have := plc_lt (isIn_iff.1 hin); simpa [nms] using this⟩
    have HWR : Hid (∀ (w2 : World) (B b : Nat) (vs : List Value), Rws w2 B b vs (web s.l) → Calls Tryz.prog 20 #[.slice (some ⟨b, 0, none⟩) s.l.length s.l.length, .int .i64 (plc (nms s.l) nm : Int)] w2 fun e w' => ∃ v fs, e = .returned v ∧ OR w' (w2.heap.size + 1) v fs ∧ fs.Pairwise (fun x y => x ≤ y) ∧ fs.Nodup ∧ (∀ c : Nat, (c : Int) ∈ fs ↔ Rt (web s.l) (plc (nms s.l) nm) c) ∧ (∀ x ∈ fs, ∃ c : Nat, x = (c : Int) ∧ c < s.l.length) ∧ Below w2.heap.size w2 w') := Lib.hid (fun w2 B b vs hr => by
      have h1 := webreach_m (wc := s.l.length) (i := plc (nms s.l) nm) hr (by rw [web_len]; exact HP.out.len) (web_inR HP.out) (fun xs hx => (web_in HP.out xs hx).1) (by rw [web_len]; exact HML.out.2)
      rw [web_len] at h1
      exact h1)
    clear hin
    go_wp2_with (first | (go_at_call 19; refine (HNU.out).mono ?_; rintro en w2 ⟨mb, rfl, hn, hb, hmb⟩; have HB2 := Lib.hid hb; have hlk := hn.look HNM.out; rw [HM.out, HML.out.1] at hlk; have c2 : w2.cell? ⟨w.heap.size, 2, none⟩ = some (.slice s.p s.l.length s.cap) := (HX.out.below hb HX.out.lt).cell 2; have HWV := Lib.hid (woven_any s w2 (pcsLie_below HPS.out hb) (Nat.le_trans HP.out.len (by decide)) HP.out.names HP.out.body); clear hn hb hmb) | (go_at_call 16; refine (HWV.out).mono ?_; rintro en w3 ⟨B, b, vs, rfl, hr, hb, -, -⟩; have HB3 := Lib.hid hb; have HR3 := Lib.hid (HWR.out w3 B b vs hr); clear hr hb) | (go_at_call 20; refine (HR3.out).mono ?_; rintro en w4 ⟨v, fs, rfl, k1, k2, k3, k4, k5, k6⟩; have HO := Lib.hid k1; have HK := Lib.hid (And.intro k2 (And.intro k3 (And.intro k4 k5))); have HB4 := Lib.hid k6; clear k1 k2 k3 k4 k5 k6))
    go_ret
    have hs2 := HB2.out.size
    have hs3 := HB3.out.size
    refine ⟨v, fs, rfl, World.ownsRow.mono HO.out (by have := HBS.out; omega), .inr ⟨isIn_iff.1 HM.out, HML.out.2, HK.out⟩, ?_⟩
    exact HBA.out.trans ((HB2.out.trans ((HB3.out.trans (HB4.out.mono hs3)).mono hs2)).mono HBS.out)
end Tj
end Go.Proofs.YtmhpaacjioeknaaGreat
