/-
  DERIVED. The walks of Calls.
-/
import Derived.Test.YtpbjnjnmbglllaaCl
namespace Go.Proofs.Ytpbjnjnmbglllaa
open Go.RowKit Go.Sort Go.Maps Go.WideMaps

/-- What a call leaves: names, each once; the set of them; all else as it was. -/
def NamesPost (W : World) (B : Nat) (v : Value) (ms : List ByteArray) (w : World) (en : Ending) (w' : World) : Prop :=
  ∃ v', en = .returned v' ∧ w'.ownsRow W.heap.size 9 1 v' ms.length (sv ms) ∧ owns w' B ms ∧ Kp B v.ownBlock w w' ∧ Nx w v.ownBlock v'.ownBlock
def callsOk (W : World) (l : SL) : Prop := ∀ (p : Option Addr) (c B : Nat) (v : Value) (ns : List ByteArray) (w : World), sLies W p l → Below W.heap.size W w → W.heap.size ≤ B → owns w B ns → w.ownsRow W.heap.size 9 1 v ns.length (sv ns) → ns.length + l.count ≤ 10000 →
  Calls Try.prog 30 #[.slice p l.len c, v, .map (some B)] w (NamesPost W B v (uq ns l.every) w)
def stepN (h : Hd) (t e : SL) (ns : List ByteArray) : List ByteArray := uq (uq (if h.kind = 3 then (if has ns h.name then ns else ns ++ [h.name]) else ns) t.every) e.every

theorem new_cells (w : World) (s : ByteArray) : ∀ j u, (sv [s])[j]? = some u → (w.alloc (.cells #[.string s] 9)).cell? ((⟨w.heap.size, 0, none⟩ : Addr).add j) = some u := by
  intro j u hj
  have hj' : j < 1 := by have := (List.getElem?_eq_some_iff.1 hj).1; exact this
  obtain rfl : j = 0 := by omega
  rw [show (⟨w.heap.size, 0, none⟩ : Addr).add 0 = ⟨w.heap.size, 0, none⟩ by simp [Addr.add], (own_new w s).cellAt 0 (by decide), ← hj]

set_option maxHeartbeats 1600000 in
set_option maxRecDepth 100000 in
theorem stepNames (W : World) (h : Hd) (tp : Option Addr) (tc : Nat) (t : SL) (ep : Option Addr) (ec : Nat) (e : SL) (i : Int) (b q B bx : Nat) (v : Value) (ns : List ByteArray) (w : World)
    (hT : callsOk W t) (hE : callsOk W e) (hr : W.rangeAt b q (scells h tp t.len tc ep e.len ec)) (hht : sLies W tp t) (hhe : sLies W ep e) (hnm : h.name.size ≤ maxLen)
    (hb : Below W.heap.size W w) (hB : W.heap.size ≤ B) (ho : owns w B ns) (hv : w.ownsRow W.heap.size 9 1 v ns.length (sv ns)) (hx : w.heap[bx]? = some (.cells #[.map (some B)] 63 (0, 0))) (hc : ns.length + 1 + t.count + e.count ≤ 10000) :
    Calls Try.prog 51 #[v, .int .i64 i, .pointer (some ⟨b, q, none⟩), .pointer (some ⟨bx, 0, none⟩)] w (NamesPost W B v (stepN h t e ns) w) := by
  obtain ⟨A, c0, rfl⟩ := own_shape hv
  have HT := Lib.hid hT
  have HE := Lib.hid hE
  have HB := Lib.hid hb
  have HO := Lib.hid ho
  have HV := Lib.hid hv
  have HX := Lib.hid hx
  have HR := Lib.hid hr
  have HHT := Lib.hid hht
  have HHE := Lib.hid hhe
  have hbl := World.block_lt_of_cell? W _ (cell_at hr 0 _ rfl)
  have k0 := cell_at (rangeAt_below hr hb) 0 _ rfl
  rw [Nat.add_zero] at k0
  have k43 := cell_at (rangeAt_below hr hb) 43 _ rfl
  have kx : w.cell? ⟨bx, 0, none⟩ = some (.map (some B)) := cell_of_row w bx 0 _ _ _ hx
  have hL : ∀ w' : World, w'.heap[B]? = w.heap[B]? → (Instr.lookup 63 (.map (some B)) (.string h.name) true).run Try.prog w' = .ok (.tuple #[.agg #[], .bool (Ytpbjnjnmbglllaa.has ns h.name)]) w' := fun w' hw' => by
    obtain ⟨z, ps, h1, hz⟩ := (owns_of_block (w' := w') ho hw').look_ok law9 Try.underlying63 (zero87 w') unitElem_mk (keyOf_string_mk Try.underlying9 hnm)
    obtain ⟨rfl, _⟩ := unitElem_inv hz
    rwa [show Maps.has (setB ns) (.string h.name.data.toList) = Ytpbjnjnmbglllaa.has ns h.name from has_set _ _] at h1
  have hL1 := hL w.drew rfl
  have hL2 := hL (w.alloc (.cells #[] 87)).drew (Below.heap_alloc w _ B (owns_lt ho))
  have hbl2 : b < w.heap.size := Nat.lt_of_lt_of_le hbl hb.size
  have hbx2 : bx < w.heap.size := (Array.getElem?_eq_some_iff.1 hx).1
  clear hL hT hE hb ho hv hx hr hht hhe
  have HSN : Hid (stepN h t e ns = uq (uq (if h.kind = 3 then (if Ytpbjnjnmbglllaa.has ns h.name then ns else ns ++ [h.name]) else ns) t.every) e.every) := Lib.hid rfl
  have HNM1 : ∀ w', Below W.heap.size W w' → w'.cell? ⟨b, q + 43, none⟩ = some (.string h.name) := fun w' hb => cell_at (rangeAt_below HR.out hb) 43 _ rfl
  have HNM := Lib.hid HNM1
  have HNZ := Lib.hid hnm
  clear HNM1 hnm
  unfold NamesPost
  rw [HSN.out]
  generalize h.name = nm at *
  generalize h.kind = kind at *
  generalize Ytpbjnjnmbglllaa.has ns nm = fd at *
  have hcase : (¬ kind = 3) ∨ (kind = 3 ∧ fd = true) ∨ (kind = 3 ∧ fd = false) := by cases fd <;> simp <;> omega
  rcases hcase with hk3 | ⟨rfl, rfl⟩ | ⟨rfl, rfl⟩
  · have hk3' : (kind == 3) = false := by simpa using hk3
    rw [if_neg hk3]
    clear hk3
    have HBA : Hid (Below w.heap.size w (w.alloc (.cells #[] 87)).drew) := Lib.hid (below_drewN ((Below.refl _ _).alloc (Nat.le_refl _) _) 1)
    have HB1 : Hid (Below W.heap.size W (w.alloc (.cells #[] 87)).drew) := Lib.hid (HB.out.trans (HBA.out.mono HB.out.size))
    have HO1 : Hid (owns (w.alloc (.cells #[] 87)).drew B ns) := Lib.hid (owns_below HO.out HBA.out)
    have HV1 : Hid ((w.alloc (.cells #[] 87)).drew.ownsRow W.heap.size 9 1 (.slice A ns.length c0) ns.length (sv ns)) := Lib.hid (own_below HV.out HBA.out)
    have HX1 : Hid ((w.alloc (.cells #[] 87)).drew.heap[bx]? = some (.cells #[.map (some B)] 63 (0, 0))) := Lib.hid (by rw [HBA.out.block bx hbx2]; exact HX.out)
    have HK1 : Hid (Kp B (Value.slice A ns.length c0).ownBlock w (w.alloc (.cells #[] 87)).drew) := Lib.hid (Kp.of_below HBA.out)
    have HN1 : Hid (Nx w (Value.slice A ns.length c0).ownBlock (Value.slice A ns.length c0).ownBlock) := Lib.hid (Nx.refl _ _)
    have HC1 : Hid (ns.length + t.count ≤ 10000) := Lib.hid (by omega)
    have HC2 : Hid (ns.length + t.count + e.count ≤ 10000) := Lib.hid (by omega)
    go_enter Try.func51, Try.ntmps51
    go_wp2_with fail
    go_region_held3 (fun w' => w'.cell? ⟨b, q + 43, none⟩ = some (.string nm) ∧ w'.cell? ⟨bx, 0, none⟩ = some (.map (some B)) ∧ (Instr.lookup 63 (.map (some B)) (.string nm) true).run Try.prog w' = .ok (.tuple #[.agg #[], .bool fd]) w') (first | go_keep | (go_split_ands; refine ⟨by go_keep, by go_keep, ?_⟩; first | exact hL1 | exact hL2)) ((fail))
    all_goals
      go_wp2_with fail
      have e45 : ((w.alloc (.cells #[] 87)).drew).cell? ⟨b, q + 45, none⟩ = some (.slice tp t.len tc) := cell_at (rangeAt_below HR.out HB1.out) 45 _ rfl
      have e46 : ((w.alloc (.cells #[] 87)).drew).cell? ⟨b, q + 46, none⟩ = some (.slice ep e.len ec) := cell_at (rangeAt_below HR.out HB1.out) 46 _ rfl
      have ex : ((w.alloc (.cells #[] 87)).drew).cell? ⟨bx, 0, none⟩ = some (.map (some B)) := cell_of_row _ bx 0 _ _ _ HX1.out
      have HCT := Lib.hid (HT.out tp tc B (Value.slice A ns.length c0) ns ((w.alloc (.cells #[] 87)).drew).drew HHT.out (below_drewN HB1.out 1) hB (owns_of_block HO1.out rfl) (HV1.out.drew) HC1.out)
      have HBD : Hid (Below ((w.alloc (.cells #[] 87)).drew).heap.size ((w.alloc (.cells #[] 87)).drew) ((w.alloc (.cells #[] 87)).drew).drew) := Lib.hid (below_drewN (Below.refl _ _) 1)
      go_region_held3 (fun w' => w'.cell? ⟨b, q + 45, none⟩ = some (.slice tp t.len tc) ∧ w'.cell? ⟨b, q + 46, none⟩ = some (.slice ep e.len ec) ∧ w'.cell? ⟨bx, 0, none⟩ = some (.map (some B))) (first | exact ⟨f45, f46, fx⟩ | exact ⟨g45, g46, gx⟩ | go_keep)
        ((first
          | (go_at_call 30; (with_reducible refine (HCT.out).mono ?_); rintro en w2 ⟨v2, rfl, hv2, ho2, hk2, hn2⟩; obtain ⟨A2, d2, rfl⟩ := own_shape hv2; have HV2 := Lib.hid hv2; have HO2 := Lib.hid ho2; have HK2 : Hid (Kp B ((Value.slice A ns.length c0)).ownBlock ((w.alloc (.cells #[] 87)).drew) w2) := Lib.hid (Kp.trans (Kp.of_below HBD.out) (Nx.refl _ _) hk2); have HN2 : Hid (Nx ((w.alloc (.cells #[] 87)).drew) ((Value.slice A ns.length c0)).ownBlock (Value.slice A2 (uq ns t.every).length d2).ownBlock) := Lib.hid (Nx.trans (Nx.refl _ _) HBD.out.size hn2); have HB2 : Hid (Below W.heap.size W w2) := Lib.hid (Kp.below HB1.out HK2.out hB (fun k hk => (HV1.out.lt k hk).1) HB1.out.size); have hx2 := HK2.out.heap HX1.out (owns_ne HO1.out HX1.out) (row_ne HV1.out HX1.out (by decide)); have f45 : w2.cell? ⟨b, q + 45, none⟩ = some (.slice tp t.len tc) := cell_at (rangeAt_below HR.out HB2.out) 45 _ rfl; have f46 : w2.cell? ⟨b, q + 46, none⟩ = some (.slice ep e.len ec) := cell_at (rangeAt_below HR.out HB2.out) 46 _ rfl; have fx : w2.cell? ⟨bx, 0, none⟩ = some (.map (some B)) := cell_of_row w2 bx 0 _ _ _ hx2; have HCE := Lib.hid (HE.out ep ec B _ (uq ns t.every) w2 HHE.out HB2.out hB HO2.out HV2.out (by have := uq_len (ns) t.every; have := SL.every_le t; have := HC2.out; omega)); have HX2 := Lib.hid hx2; clear hv2 ho2 hk2 hn2 hx2)
          | (go_at_call 30; (with_reducible refine (HCE.out).mono ?_); rintro en w3 ⟨v3, rfl, hv3, ho3, hk3, hn3⟩; have HV3 := Lib.hid hv3; have HO3 := Lib.hid ho3; have HK3 := Lib.hid hk3; have HN3 := Lib.hid hn3; obtain ⟨A3, d3, rfl⟩ := own_shape hv3; have HB3 : Hid (Below W.heap.size W w3) := Lib.hid (Kp.below HB2.out HK3.out hB (fun k hk => (HV2.out.lt k hk).1) HB2.out.size); have hx3 := HK3.out.heap HX2.out (owns_ne HO2.out HX2.out) (row_ne HV2.out HX2.out (by decide)); have g45 : w3.cell? ⟨b, q + 45, none⟩ = some (.slice tp t.len tc) := cell_at (rangeAt_below HR.out HB3.out) 45 _ rfl; have g46 : w3.cell? ⟨b, q + 46, none⟩ = some (.slice ep e.len ec) := cell_at (rangeAt_below HR.out HB3.out) 46 _ rfl; have gx : w3.cell? ⟨bx, 0, none⟩ = some (.map (some B)) := cell_of_row w3 bx 0 _ _ _ hx3; clear hv3 ho3 hk3 hn3 hx3)))
      all_goals
        go_wp2_with fail
        go_ret
        exact ⟨_, rfl, HV3.out, HO3.out, (HK1.out.trans HN1.out HK2.out).trans (Nx.trans HN1.out HK1.out.size HN2.out) HK3.out, Nx.trans (Nx.trans HN1.out HK1.out.size HN2.out) (HK1.out.trans HN1.out HK2.out).size HN3.out⟩
  · rw [if_pos rfl, if_pos rfl]
    have HBA : Hid (Below w.heap.size w (w.alloc (.cells #[] 87)).drew) := Lib.hid (below_drewN ((Below.refl _ _).alloc (Nat.le_refl _) _) 1)
    have HB1 : Hid (Below W.heap.size W (w.alloc (.cells #[] 87)).drew) := Lib.hid (HB.out.trans (HBA.out.mono HB.out.size))
    have HO1 : Hid (owns (w.alloc (.cells #[] 87)).drew B ns) := Lib.hid (owns_below HO.out HBA.out)
    have HV1 : Hid ((w.alloc (.cells #[] 87)).drew.ownsRow W.heap.size 9 1 (.slice A ns.length c0) ns.length (sv ns)) := Lib.hid (own_below HV.out HBA.out)
    have HX1 : Hid ((w.alloc (.cells #[] 87)).drew.heap[bx]? = some (.cells #[.map (some B)] 63 (0, 0))) := Lib.hid (by rw [HBA.out.block bx hbx2]; exact HX.out)
    have HK1 : Hid (Kp B (Value.slice A ns.length c0).ownBlock w (w.alloc (.cells #[] 87)).drew) := Lib.hid (Kp.of_below HBA.out)
    have HN1 : Hid (Nx w (Value.slice A ns.length c0).ownBlock (Value.slice A ns.length c0).ownBlock) := Lib.hid (Nx.refl _ _)
    have HC1 : Hid (ns.length + t.count ≤ 10000) := Lib.hid (by omega)
    have HC2 : Hid (ns.length + t.count + e.count ≤ 10000) := Lib.hid (by omega)
    go_enter Try.func51, Try.ntmps51
    go_wp2_with fail
    go_region_held3 (fun w' => w'.cell? ⟨b, q + 43, none⟩ = some (.string nm) ∧ w'.cell? ⟨bx, 0, none⟩ = some (.map (some B)) ∧ (Instr.lookup 63 (.map (some B)) (.string nm) true).run Try.prog w' = .ok (.tuple #[.agg #[], .bool true]) w') (first | go_keep | (go_split_ands; refine ⟨by go_keep, by go_keep, ?_⟩; first | exact hL1 | exact hL2)) ((fail))
    all_goals
      go_wp2_with fail
      have e45 : ((w.alloc (.cells #[] 87)).drew).cell? ⟨b, q + 45, none⟩ = some (.slice tp t.len tc) := cell_at (rangeAt_below HR.out HB1.out) 45 _ rfl
      have e46 : ((w.alloc (.cells #[] 87)).drew).cell? ⟨b, q + 46, none⟩ = some (.slice ep e.len ec) := cell_at (rangeAt_below HR.out HB1.out) 46 _ rfl
      have ex : ((w.alloc (.cells #[] 87)).drew).cell? ⟨bx, 0, none⟩ = some (.map (some B)) := cell_of_row _ bx 0 _ _ _ HX1.out
      have HCT := Lib.hid (HT.out tp tc B (Value.slice A ns.length c0) ns ((w.alloc (.cells #[] 87)).drew).drew HHT.out (below_drewN HB1.out 1) hB (owns_of_block HO1.out rfl) (HV1.out.drew) HC1.out)
      have HBD : Hid (Below ((w.alloc (.cells #[] 87)).drew).heap.size ((w.alloc (.cells #[] 87)).drew) ((w.alloc (.cells #[] 87)).drew).drew) := Lib.hid (below_drewN (Below.refl _ _) 1)
      go_region_held3 (fun w' => w'.cell? ⟨b, q + 45, none⟩ = some (.slice tp t.len tc) ∧ w'.cell? ⟨b, q + 46, none⟩ = some (.slice ep e.len ec) ∧ w'.cell? ⟨bx, 0, none⟩ = some (.map (some B))) (first | exact ⟨f45, f46, fx⟩ | exact ⟨g45, g46, gx⟩ | go_keep)
        ((first
          | (go_at_call 30; (with_reducible refine (HCT.out).mono ?_); rintro en w2 ⟨v2, rfl, hv2, ho2, hk2, hn2⟩; obtain ⟨A2, d2, rfl⟩ := own_shape hv2; have HV2 := Lib.hid hv2; have HO2 := Lib.hid ho2; have HK2 : Hid (Kp B ((Value.slice A ns.length c0)).ownBlock ((w.alloc (.cells #[] 87)).drew) w2) := Lib.hid (Kp.trans (Kp.of_below HBD.out) (Nx.refl _ _) hk2); have HN2 : Hid (Nx ((w.alloc (.cells #[] 87)).drew) ((Value.slice A ns.length c0)).ownBlock (Value.slice A2 (uq ns t.every).length d2).ownBlock) := Lib.hid (Nx.trans (Nx.refl _ _) HBD.out.size hn2); have HB2 : Hid (Below W.heap.size W w2) := Lib.hid (Kp.below HB1.out HK2.out hB (fun k hk => (HV1.out.lt k hk).1) HB1.out.size); have hx2 := HK2.out.heap HX1.out (owns_ne HO1.out HX1.out) (row_ne HV1.out HX1.out (by decide)); have f45 : w2.cell? ⟨b, q + 45, none⟩ = some (.slice tp t.len tc) := cell_at (rangeAt_below HR.out HB2.out) 45 _ rfl; have f46 : w2.cell? ⟨b, q + 46, none⟩ = some (.slice ep e.len ec) := cell_at (rangeAt_below HR.out HB2.out) 46 _ rfl; have fx : w2.cell? ⟨bx, 0, none⟩ = some (.map (some B)) := cell_of_row w2 bx 0 _ _ _ hx2; have HCE := Lib.hid (HE.out ep ec B _ (uq ns t.every) w2 HHE.out HB2.out hB HO2.out HV2.out (by have := uq_len (ns) t.every; have := SL.every_le t; have := HC2.out; omega)); have HX2 := Lib.hid hx2; clear hv2 ho2 hk2 hn2 hx2)
          | (go_at_call 30; (with_reducible refine (HCE.out).mono ?_); rintro en w3 ⟨v3, rfl, hv3, ho3, hk3, hn3⟩; have HV3 := Lib.hid hv3; have HO3 := Lib.hid ho3; have HK3 := Lib.hid hk3; have HN3 := Lib.hid hn3; obtain ⟨A3, d3, rfl⟩ := own_shape hv3; have HB3 : Hid (Below W.heap.size W w3) := Lib.hid (Kp.below HB2.out HK3.out hB (fun k hk => (HV2.out.lt k hk).1) HB2.out.size); have hx3 := HK3.out.heap HX2.out (owns_ne HO2.out HX2.out) (row_ne HV2.out HX2.out (by decide)); have g45 : w3.cell? ⟨b, q + 45, none⟩ = some (.slice tp t.len tc) := cell_at (rangeAt_below HR.out HB3.out) 45 _ rfl; have g46 : w3.cell? ⟨b, q + 46, none⟩ = some (.slice ep e.len ec) := cell_at (rangeAt_below HR.out HB3.out) 46 _ rfl; have gx : w3.cell? ⟨bx, 0, none⟩ = some (.map (some B)) := cell_of_row w3 bx 0 _ _ _ hx3; clear hv3 ho3 hk3 hn3 hx3)))
      all_goals
        go_wp2_with fail
        go_ret
        exact ⟨_, rfl, HV3.out, HO3.out, (HK1.out.trans HN1.out HK2.out).trans (Nx.trans HN1.out HK1.out.size HN2.out) HK3.out, Nx.trans (Nx.trans HN1.out HK1.out.size HN2.out) (HK1.out.trans HN1.out HK2.out).size HN3.out⟩
  · rw [if_pos rfl, if_neg (by decide)]
    have HBA : Hid (Below w.heap.size w (w.alloc (.cells #[] 87)).drew) := Lib.hid (below_drewN ((Below.refl _ _).alloc (Nat.le_refl _) _) 1)
    have HB1 : Hid (Below W.heap.size W (w.alloc (.cells #[] 87)).drew) := Lib.hid (HB.out.trans (HBA.out.mono HB.out.size))
    have HO1 : Hid (owns (w.alloc (.cells #[] 87)).drew B ns) := Lib.hid (owns_below HO.out HBA.out)
    have HV1 : Hid ((w.alloc (.cells #[] 87)).drew.ownsRow W.heap.size 9 1 (.slice A ns.length c0) ns.length (sv ns)) := Lib.hid (own_below HV.out HBA.out)
    have HX1 : Hid ((w.alloc (.cells #[] 87)).drew.heap[bx]? = some (.cells #[.map (some B)] 63 (0, 0))) := Lib.hid (by rw [HBA.out.block bx hbx2]; exact HX.out)
    have HK1 : Hid (Kp B (Value.slice A ns.length c0).ownBlock w (w.alloc (.cells #[] 87)).drew) := Lib.hid (Kp.of_below HBA.out)
    have HN1 : Hid (Nx w (Value.slice A ns.length c0).ownBlock (Value.slice A ns.length c0).ownBlock) := Lib.hid (Nx.refl _ _)
    go_enter Try.func51, Try.ntmps51
    go_wp2_with fail
    go_region_held3 (fun w' => w'.cell? ⟨b, q + 43, none⟩ = some (.string nm) ∧ w'.cell? ⟨bx, 0, none⟩ = some (.map (some B)) ∧ (Instr.lookup 63 (.map (some B)) (.string nm) true).run Try.prog w' = .ok (.tuple #[.agg #[], .bool false]) w') (first | go_keep | (go_split_ands; refine ⟨by go_keep, by go_keep, ?_⟩; first | exact hL1 | exact hL2)) ((fail))
    all_goals
      go_wp2_with fail
      generalize (w.alloc (.cells #[] 87)).drew = W1 at HBA HB1 HO1 HV1 HX1 HK1 HN1 ⊢
      have HOD : Hid (owns W1.drew B ns) := Lib.hid (owns_of_block HO1.out rfl)
      have hkx1 : W1.cell? ⟨bx, 0, none⟩ = some (.map (some B)) := cell_of_row _ bx 0 _ _ _ HX1.out
      have h431 : W1.cell? ⟨b, q + 43, none⟩ = some (.string nm) := HNM.out _ HB1.out
      go_still_tail 6, (by kernel_rfl)
      change wpList _ _ _ _ _ W1.drew
      obtain ⟨i0, hi0, hz0, hz1, hz2⟩ := info_parts info9
      have HI0 := Lib.hid hi0; have HZ0 := Lib.hid hz0; have HZ1 := Lib.hid hz1; have HZ2 := Lib.hid hz2
      clear hi0 hz0 hz1 hz2
      go_wp2_with (first | (at_mapUpdate; refine wpList_mapUpdate_own (H := Unit) _ rfl _ _ _ 63 rfl 9 87 law9 Try.underlying63 _ B ns.length (setB ns) rfl HOD.out (by unfold maxLen; omega) _ _ _ rfl rfl (keyOf_string_mk Try.underlying9 HNZ.out) (.agg []) [] unitElem_mk ?_; intro w2 hown2 hg2; have HO2 : Hid (owns w2 B (ns ++ [nm])) := Lib.hid (by unfold owns; rw [set_snoc, List.length_append]; exact hown2); have HK2 : Hid (Kp B (Value.slice A ns.length c0).ownBlock w w2) := Lib.hid ((Kp.of_below (below_drewN HBA.out 1)).trans (Nx.refl _ _) (Kp.of_map hg2)); have HB2 : Hid (Below W.heap.size W w2) := Lib.hid (Kp.below HB.out HK2.out hB (fun k hk => (HV.out.lt k hk).1) HB.out.size); have e43 : w2.cell? ⟨b, q + 43, none⟩ = some (.string nm) := HNM.out _ HB2.out; have HV2 : Hid (w2.ownsRow W.heap.size 9 1 (Value.slice A ns.length c0) ns.length (sv ns)) := Lib.hid ((HV1.out.drew).kept hg2 (.inr (Ne.symm (row_map_ne HV1.out HO1.out)))); have HX2 := Lib.hid (HK2.out.heap HX.out (owns_ne HO.out HX.out) (row_ne HV.out HX.out (by decide))); have HS2 : Hid (W.heap.size ≤ w2.heap.size) := Lib.hid HB2.out.size; clear hown2 hg2) | ((with_reducible show wpList _ _ _ (Oper.mk (some 40) _ _ _ _ _ :: _) _ _); refine wpList_append_own_at _ rfl (.tmp 34) (.tmp 39) 27 rfl W.heap.size 9 i0 (.string ByteArray.empty) 1 16 Try.underlying27 HI0.out HZ0.out HZ1.out HZ2.out rfl (by decide) (Value.slice A ns.length c0) ns.length (sv ns) rfl (HV2.out.alloc _) ⟨w2.heap.size, 0, none⟩ 1 1 (sv [nm]) rfl rfl (new_cells w2 nm) (sv_one _) (by unfold maxLen; omega) (by omega) (Nat.le_trans HS2.out (by simp)) ?_; intro v3 w3 hown3 hg3 _ hloc3; obtain ⟨A3, d3, rfl⟩ := own_shape hown3; have HK3 : Hid (Kp B (Value.slice A ns.length c0).ownBlock w w3) := Lib.hid ((HK2.out.trans (Nx.refl _ _) (Kp.of_below ((Below.refl _ _).alloc (Nat.le_refl _) (.cells #[.string nm] 9)))).trans (Nx.refl _ _) (Kp.of_row hg3)); have HN3 : Hid (Nx w (Value.slice A ns.length c0).ownBlock (Value.slice A3 (ns.length + 1) d3).ownBlock) := Lib.hid (hloc3.imp id (fun h => ⟨_, Nat.le_trans HK2.out.size (by simp), h⟩)); have HB3 : Hid (Below W.heap.size W w3) := Lib.hid (Kp.below HB.out HK3.out hB (fun k hk => (HV.out.lt k hk).1) HB.out.size); have HO3 : Hid (owns w3 B (ns ++ [nm])) := Lib.hid (owns_of_block HO2.out ((hg3.block B (by rw [World.size_alloc]; exact Nat.lt_succ_of_lt (owns_lt HO2.out)) (row_map_ne HV2.out HO2.out)).trans (Below.heap_alloc _ _ _ (owns_lt HO2.out)))); have HV3 : Hid (w3.ownsRow W.heap.size 9 1 (.slice A3 (ns.length + 1) d3) (ns ++ [nm]).length (sv (ns ++ [nm]))) := Lib.hid (by rw [sv_append, List.length_append]; exact hown3); have HX3 := Lib.hid (HK3.out.heap HX.out (owns_ne HO.out HX.out) (row_ne HV.out HX.out (by decide))); clear hown3 hg3 hloc3))
      have HB1 := HB3
      have HO1 := HO3
      have HV1 := HV3
      have HX1 := HX3
      have HK1 := HK3
      have HN1 := HN3
      have HC1 : Hid ((ns ++ [nm]).length + t.count ≤ 10000) := Lib.hid (by simp only [List.length_append, List.length_cons, List.length_nil]; omega)
      have HC2 : Hid ((ns ++ [nm]).length + t.count + e.count ≤ 10000) := Lib.hid (by simp only [List.length_append, List.length_cons, List.length_nil]; omega)
      have e45 : (w3).cell? ⟨b, q + 45, none⟩ = some (.slice tp t.len tc) := cell_at (rangeAt_below HR.out HB1.out) 45 _ rfl
      have e46 : (w3).cell? ⟨b, q + 46, none⟩ = some (.slice ep e.len ec) := cell_at (rangeAt_below HR.out HB1.out) 46 _ rfl
      have ex : (w3).cell? ⟨bx, 0, none⟩ = some (.map (some B)) := cell_of_row _ bx 0 _ _ _ HX1.out
      have HCT := Lib.hid (HT.out tp tc B (Value.slice A3 (ns.length + 1) d3) (ns ++ [nm]) (w3).drew HHT.out (below_drewN HB1.out 1) hB (owns_of_block HO1.out rfl) (HV1.out.drew) HC1.out)
      have HBD : Hid (Below (w3).heap.size (w3) (w3).drew) := Lib.hid (below_drewN (Below.refl _ _) 1)
      go_region_held3 (fun w' => w'.cell? ⟨b, q + 45, none⟩ = some (.slice tp t.len tc) ∧ w'.cell? ⟨b, q + 46, none⟩ = some (.slice ep e.len ec) ∧ w'.cell? ⟨bx, 0, none⟩ = some (.map (some B))) (first | exact ⟨f45, f46, fx⟩ | exact ⟨g45, g46, gx⟩ | go_keep)
        ((first
          | (go_at_call 30; (with_reducible refine (HCT.out).mono ?_); rintro en w2 ⟨v2, rfl, hv2, ho2, hk2, hn2⟩; obtain ⟨A2, d2, rfl⟩ := own_shape hv2; have HV2 := Lib.hid hv2; have HO2 := Lib.hid ho2; have HK2 : Hid (Kp B ((Value.slice A3 (ns.length + 1) d3)).ownBlock (w3) w2) := Lib.hid (Kp.trans (Kp.of_below HBD.out) (Nx.refl _ _) hk2); have HN2 : Hid (Nx (w3) ((Value.slice A3 (ns.length + 1) d3)).ownBlock (Value.slice A2 (uq (ns ++ [nm]) t.every).length d2).ownBlock) := Lib.hid (Nx.trans (Nx.refl _ _) HBD.out.size hn2); have HB2 : Hid (Below W.heap.size W w2) := Lib.hid (Kp.below HB1.out HK2.out hB (fun k hk => (HV1.out.lt k hk).1) HB1.out.size); have hx2 := HK2.out.heap HX1.out (owns_ne HO1.out HX1.out) (row_ne HV1.out HX1.out (by decide)); have f45 : w2.cell? ⟨b, q + 45, none⟩ = some (.slice tp t.len tc) := cell_at (rangeAt_below HR.out HB2.out) 45 _ rfl; have f46 : w2.cell? ⟨b, q + 46, none⟩ = some (.slice ep e.len ec) := cell_at (rangeAt_below HR.out HB2.out) 46 _ rfl; have fx : w2.cell? ⟨bx, 0, none⟩ = some (.map (some B)) := cell_of_row w2 bx 0 _ _ _ hx2; have HCE := Lib.hid (HE.out ep ec B _ (uq (ns ++ [nm]) t.every) w2 HHE.out HB2.out hB HO2.out HV2.out (by have := uq_len ((ns ++ [nm])) t.every; have := SL.every_le t; have := HC2.out; omega)); have HX2 := Lib.hid hx2; clear hv2 ho2 hk2 hn2 hx2)
          | (go_at_call 30; (with_reducible refine (HCE.out).mono ?_); rintro en w3 ⟨v3, rfl, hv3, ho3, hk3, hn3⟩; have HV3 := Lib.hid hv3; have HO3 := Lib.hid ho3; have HK3 := Lib.hid hk3; have HN3 := Lib.hid hn3; obtain ⟨A3, d3, rfl⟩ := own_shape hv3; have HB3 : Hid (Below W.heap.size W w3) := Lib.hid (Kp.below HB2.out HK3.out hB (fun k hk => (HV2.out.lt k hk).1) HB2.out.size); have hx3 := HK3.out.heap HX2.out (owns_ne HO2.out HX2.out) (row_ne HV2.out HX2.out (by decide)); have g45 : w3.cell? ⟨b, q + 45, none⟩ = some (.slice tp t.len tc) := cell_at (rangeAt_below HR.out HB3.out) 45 _ rfl; have g46 : w3.cell? ⟨b, q + 46, none⟩ = some (.slice ep e.len ec) := cell_at (rangeAt_below HR.out HB3.out) 46 _ rfl; have gx : w3.cell? ⟨bx, 0, none⟩ = some (.map (some B)) := cell_of_row w3 bx 0 _ _ _ hx3; clear hv3 ho3 hk3 hn3 hx3)))
      all_goals
        go_wp2_with fail
        go_ret
        exact ⟨_, rfl, HV3.out, HO3.out, (HK1.out.trans HN1.out HK2.out).trans (Nx.trans HN1.out HK1.out.size HN2.out) HK3.out, Nx.trans (Nx.trans HN1.out HK1.out.size HN2.out) (HK1.out.trans HN1.out HK2.out).size HN3.out⟩

end Go.Proofs.Ytpbjnjnmbglllaa
