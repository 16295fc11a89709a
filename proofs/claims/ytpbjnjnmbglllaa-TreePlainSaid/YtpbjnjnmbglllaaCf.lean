/-
  DERIVED. The walks of Calls: the fold, 'calls', 'Calls'.
-/
import Derived.Test.YtpbjnjnmbglllaaCw
namespace Go.Proofs.Ytpbjnjnmbglllaa
open Go.RowKit Go.Sort Go.Maps Go.WideMaps

theorem uq_cons (h : Hd) (tp : Option Addr) (tc : Nat) (t : SL) (ep : Option Addr) (ec : Nat) (e r : SL) (ns : List ByteArray) :
    uq ns (SL.cons h tp tc t ep ec e r).every = uq (stepN h t e ns) r.every := by
  simp only [SL.every, stepN]
  rw [uq_append, uq_append, uq_append]
  congr 3
  split
  · simp only [uq]
  · rfl
theorem stepN_len (h : Hd) (t e : SL) (ns : List ByteArray) : (stepN h t e ns).length ≤ ns.length + 1 + t.count + e.count := by
  unfold stepN
  have h1 := uq_len (uq (if h.kind = 3 then (if has ns h.name then ns else ns ++ [h.name]) else ns) t.every) e.every
  have h2 := uq_len (if h.kind = 3 then (if has ns h.name then ns else ns ++ [h.name]) else ns) t.every
  have h3 := SL.every_le t
  have h4 := SL.every_le e
  have h5 : (if h.kind = 3 then (if has ns h.name then ns else ns ++ [h.name]) else ns).length ≤ ns.length + 1 := by
    split
    · split <;> simp
    · omega
  omega

set_option maxHeartbeats 1600000 in
set_option maxRecDepth 100000 in
theorem foldN_any (W : World) (l : SL) (p : Option Addr) (c B bx : Nat) (v : Value) (ns : List ByteArray) (w : World) (hP : l.each (callsOk W)) (hl : sLies W p l) (hb : Below W.heap.size W w) (hB : W.heap.size ≤ B) (ho : owns w B ns)
    (hv : w.ownsRow W.heap.size 9 1 v ns.length (sv ns)) (hx : w.heap[bx]? = some (.cells #[.map (some B)] 63 (0, 0))) (hc : ns.length + l.count ≤ 10000) :
    Calls Try.prog 50 #[.slice p l.len c, v, .func (.func 51) #[] #[.pointer (some ⟨bx, 0, none⟩)]] w (NamesPost W B v (uq ns l.every) w) := by
  obtain ⟨hlen, hl⟩ := hl
  have hlen' : l.len ≤ 300000000000 := by omega
  obtain ⟨A, c0, rfl⟩ := own_shape hv
  have HP := Lib.hid hP
  have HB := Lib.hid hb
  have HO := Lib.hid ho
  have HV := Lib.hid hv
  have HX := Lib.hid hx
  have HC := Lib.hid hc
  clear hlen hP hb ho hv hx hc
  unfold NamesPost
  generalize hrb : (Value.slice A ns.length c0).ownBlock = rb
  have HRB := Lib.hid hrb
  clear hrb
  go_enter Try.func50, Try.ntmps50
  go_wp2_with fail
  go_loopw [1, 10] (fun v i wr => ∃ (k : Nat) (rest : SL) (ms : List ByteArray), i = .int .i64 k ∧ k ≤ l.len ∧ Hid (wr.ownsRow W.heap.size 9 1 v ms.length (sv ms)) ∧ Hid (owns wr B ms) ∧ Hid (Kp B rb w wr) ∧ Hid (Nx w rb v.ownBlock) ∧ Hid (ms.length + rest.count ≤ 10000) ∧ Hid (k + rest.len = l.len) ∧ Hid (uq ns l.every = uq ms rest.every) ∧
        Hid (rest = .nil ∨ ∃ b o, p = some ⟨b, o, none⟩ ∧ lies W rest b (o + k * 48)) ∧ Hid (rest.each (callsOk W))) (fun _ i _ => l.len - (intOf i).toNat)
  case atStart => exact ⟨0, l, ns, rfl, Nat.zero_le _, HV, HO, Lib.hid (Kp.refl _ _ _), Lib.hid (by rw [HRB.out]; exact Nx.refl _ _), HC, Lib.hid (Nat.zero_add _), Lib.hid rfl, Lib.hid (by simpa using hl), HP⟩
  case round =>
    obtain ⟨k, rest, ms, rfl, hk, HV1, HO1, HK1, HN1, HC1, HK, HG, HL, HQ⟩ := hrel
    obtain ⟨A1, c1, rfl⟩ := own_shape HV1.out
    cases rest with
    | nil =>
      have hk' : l.len ≤ k := by have := HK.out; simp only [SL.len] at this; omega
      go_wp2_with fail
      have HF : Hid (uq ns l.every = ms) := Lib.hid (by rw [HG.out]; rfl)
      go_ret
      exact ⟨_, rfl, by rw [HF.out]; exact HV1.out, by rw [HF.out]; exact HO1.out, HK1.out, HN1.out⟩
    | cons h tp tc t ep ec e r =>
      have hkl : k < l.len := by have := HK.out; simp only [SL.len] at this; omega
      obtain ⟨b, o, rfl, hrg, hhd, hts, hes, hrs⟩ := lies_head HL.out
      obtain ⟨hQt, hQe, hQr⟩ := HQ.out
      have hcc := HC1.out
      simp only [SL.count] at hcc
      have HB1 : Hid (Below W.heap.size W wr) := Lib.hid (Kp.below HB.out HK1.out hB (fun k hk => by rw [← HRB.out] at hk; exact (HV.out.lt k hk).1) HB.out.size)
      have HX1 := Lib.hid (HK1.out.heap HX.out (owns_ne HO.out HX.out) (by rw [← HRB.out]; exact row_ne HV.out HX.out (by decide)))
      have HS := Lib.hid (stepNames W h tp tc t ep ec e k b (o + k * 48) B bx _ ms wr hQt hQe hrg hts hes hhd.2.2.2.2.2 HB1.out hB HO1.out HV1.out HX1.out (by omega))
      have HUQ := Lib.hid (uq_cons h tp tc t ep ec e r ms)
      have HSL := Lib.hid (stepN_len h t e ms)
      have HQR := Lib.hid hQr
      have HRS := Lib.hid hrs
      clear hrg hhd hts hes hrs hQt hQe hQr hcc
      go_wp2_with fail
      refine (HS.out).mono ?_; rintro en w2 ⟨v2, rfl, hv2, ho2, hk2, hn2⟩
      obtain ⟨A2, c2, rfl⟩ := own_shape hv2
      have HV2 := Lib.hid hv2
      have HO2 := Lib.hid ho2
      have HK2 : Hid (Kp B rb w w2) := Lib.hid (HK1.out.trans HN1.out hk2)
      have HN2 : Hid (Nx w rb (Value.slice A2 (stepN h t e ms).length c2).ownBlock) := Lib.hid (Nx.trans HN1.out HK1.out.size hn2)
      clear hv2 ho2 hk2 hn2
      go_wp2_with fail
      go_roundw
      case rel =>
        exact ⟨k + 1, r, stepN h t e ms, by go_num, by omega, HV2, HO2, HK2, HN2, Lib.hid (by have := HC1.out; have := HSL.out; simp only [SL.count] at *; omega), Lib.hid (by have := HK.out; simp only [SL.len] at this; omega), Lib.hid (by rw [HG.out]; exact HUQ.out), HRS, HQR⟩
      case measure => simp [intOf]; omega

set_option maxHeartbeats 800000 in
set_option maxRecDepth 100000 in
theorem calls_one (W : World) (l : SL) (hP : l.each (callsOk W)) : callsOk W l := by
  intro p c B v ns w hl hb hB ho hv hc
  obtain ⟨A, c0, rfl⟩ := own_shape hv
  have ha : Below w.heap.size w (w.alloc (.cells #[.map (some B)] 63)) := (Below.refl _ _).alloc (Nat.le_refl _) _
  have HF := Lib.hid (foldN_any W l p c B w.heap.size _ ns (w.alloc (.cells #[.map (some B)] 63)) hP hl (hb.trans (ha.mono hb.size)) hB (owns_below ho ha) (own_below hv ha) (heap_alloc_new w _) hc)
  have HA := Lib.hid ha
  clear ha hl hb ho hv hc hP
  unfold NamesPost
  go_enter Try.func30, Try.ntmps30
  go_wp2_with fail
  refine (HF.out).mono ?_; rintro en w2 ⟨v2, rfl, hv2, ho2, hk2, hn2⟩
  obtain ⟨A2, c2, rfl⟩ := own_shape hv2
  have HV2 := Lib.hid hv2
  have HO2 := Lib.hid ho2
  have HK2 := Lib.hid (Kp.trans (Kp.of_below HA.out) (Nx.refl _ _) hk2)
  have HN2 := Lib.hid (Nx.trans (Nx.refl _ _) HA.out.size hn2)
  clear hv2 ho2 hk2 hn2
  go_wp2_with fail
  go_ret
  exact ⟨_, rfl, HV2.out, HO2.out, HK2.out, HN2.out⟩
theorem calls_any (W : World) (l : SL) : callsOk W l := (SL.all (calls_one W) l).1

set_option maxHeartbeats 800000 in
set_option maxRecDepth 100000 in
theorem treeCalls_any (l : SL) (p : Option Addr) (c : Nat) (w : World) (hl : sLies w p l) (hc : l.count ≤ 10000) :
    Calls Try.prog 15 #[.slice p l.len c] w fun en w' => ∃ v, en = .returned v ∧ w'.ownsRow w.heap.size 9 1 v (uq [] l.every).length (sv (uq [] l.every)) ∧ Below w.heap.size w w' := by
  have hmm := @run_makeMap Try.prog
  have ha : Below w.heap.size w (w.alloc (.map #[] 0)) := (Below.refl _ _).alloc (Nat.le_refl _) _
  have HF := Lib.hid (calls_any w l p c w.heap.size (.slice none 0 0) [] (w.alloc (.map #[] 0)) hl ha (Nat.le_refl _) (World.ownsMap_made _ _ _ _) (World.ownsRow_nil _ _ _ _) (by simpa using hc))
  have HA := Lib.hid ha
  clear ha hl hc
  go_enter Try.func15, Try.ntmps15
  go_wp2_with fail
  refine (HF.out).mono ?_; rintro en w2 ⟨v2, rfl, hv2, ho2, hk2, hn2⟩
  obtain ⟨A2, c2, rfl⟩ := own_shape hv2
  have HV2 := Lib.hid hv2
  have HB2 : Hid (Below w.heap.size w w2) := Lib.hid (Kp.below HA.out hk2 (Nat.le_refl _) (fun k hk => by cases hk) HA.out.size)
  clear hv2 ho2 hk2 hn2
  go_wp2_with fail
  go_ret
  exact ⟨_, rfl, HV2.out, HB2.out⟩

end Go.Proofs.Ytpbjnjnmbglllaa
