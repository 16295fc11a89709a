/-
  DERIVED. The walk of the program's Load.
-/
import Derived.Test.YtocgallcmgnmgaaJm
namespace Go.Proofs.Ytocgallcmgnmgaa
open Go.RowKit Go.Maps

theorem LdI.lead2 {F : Nat} {w wr wz : World} {b g n C : Nat} {R : Nat → Prop} {xs : List PC} {m j : Nat} {r : PC} {e : Ending} {it : Array Value} (h : LdI F w wr b g n R (xs ++ [partC F m j r])) (hj : j < F) (t : Int) (ht : (if r.fr = true then 0 else okTo m (r.at j)) = t)
    (hp : RowPost F wr R g n ((xs ++ [partC F m j r]).set xs.length (putTo (partC F m j r) j t)) e wz) (hc : Bk wr C 46 it) (hcr : ¬ R C) : ∃ R', LdI F w wz b g n R' (xs ++ [partC F m (j + 1) r]) ∧ Bk wz C 46 it ∧ ¬ R' C := by
  obtain ⟨_, R', cur', fm', ha, hst⟩ := hp
  have hset : (xs ++ [partC F m j r]).set xs.length (putTo (partC F m j r) j t) = xs ++ [partC F m (j + 1) r] := by
    rw [List.set_append_right _ _ (Nat.le_refl _), Nat.sub_self, ← ht, part_put F m j r hj]; rfl
  rw [hset] at ha
  refine ⟨R', ⟨hst.gr.bk h.top h.out, fun hb => ?_, ⟨cur', fm', ha⟩, hst.lt, fun k hk => ?_, h.base, h.below.trans (hst.gr.below h.below.size h.new)⟩, hst.gr.bk hc hcr, fun hb => ?_⟩
  · rcases hst.new b hb with h1 | h1
    · exact h.out h1
    · have := h.top.lt; omega
  · rcases hst.new k hk with h1 | h1
    · exact h.new k h1
    · have := h.below.size; omega
  · rcases hst.new C hb with h1 | h1
    · exact hcr h1
    · have := hc.lt; omega

set_option maxHeartbeats 3200000 in
set_option maxRecDepth 100000 in
theorem load_any (F cl cc : Nat) (pl pc : Option Addr) (l : List RC) (w : World) (hl : LayR 3 RC.cells RC.lies w pc l) (hF : F ≤ 2000000) (hn : l.length ≤ 2000000) :
    Calls Try.prog 7 #[.slice pl F cl, .slice pc l.length cc] w (LoadP F w (loaded F l)) := by
  have HN := Lib.hid (new_any F cl pl w)
  have HL := Lib.hid hl
  clear hl
  go_enter Try.func7, Try.ntmps7
  go_wp2_with fail
  refine HN.out.mono ?_; rintro e w1 ⟨rfl, hi, hb⟩
  have HST := Lib.hid (ld_start F w w1 w.heap.size l.length hn hb (Nat.le_refl _) hi.top)
  have t0 := hi.top.cell 2
  have f0 := hi.top.frozen 2
  have htA := hi.top.below (alloc_below w1 (.cells (Hc l.length) 59)) hi.top.lt
  have t1 := htA.cell 2
  have f1 := htA.frozen 2
  have hmk := make48 l.length w1 hn
  clear hi hb htA HN
  go_wp2_with fail
  clear t0 f0 t1 f1 hmk
  generalize (w1.alloc (.cells (Hc l.length) 59)).setCell ⟨w.heap.size, 2, none⟩ (.slice (some ⟨w1.heap.size, 0, none⟩) l.length l.length) = wS at HST ⊢
  generalize w1.heap.size = g at HST ⊢
  generalize hbb : w.heap.size = b at HST ⊢
  have HBB := Lib.hid hbb
  clear hbb
  go_loopw [20] (fun t wr => ∃ (k : Nat) (R : Nat → Prop), t = .int .i64 k ∧ k ≤ l.length ∧ Hid (LdI F w wr b g l.length R ((loaded F l).take k))) (fun t _ => l.length - (intOf t).toNat)
  case atStart => exact ⟨0, _, rfl, Nat.zero_le _, HST⟩
  case round =>
    obtain ⟨k, R, rfl, hk, HI⟩ := hrel
    by_cases hkl : k < l.length
    · obtain ⟨r, hr⟩ : ∃ r, l[k]? = some r := ⟨_, List.getElem?_eq_getElem hkl⟩
      obtain ⟨cb, co, rfl, hit, hrl⟩ := (HL.out.below HI.out.below (fun x h => RC.lies_below h HI.out.below)).at_ hr
      have HIT : Hid (wr.rangeAt cb (co + k * 3) (#[.int .i64 r.c.ty, .bool r.c.fr, .slice r.q r.c.to.length r.k] : Array Value).toList) := Lib.hid hit
      have HTK : Hid ((loaded F l).take k ++ [loadC F l.length r.c] = (loaded F l).take (k + 1)) := Lib.hid (load_take F l hr)
      have HLK : Hid (((loaded F l).take k).length = k) := Lib.hid (by rw [List.length_take]; simp [loaded]; omega)
      have HRO : Hid (∀ j, okI (r.c.at j)) := Lib.hid hrl.2
      have HTO : Hid (∀ w' j, Below w.heap.size w w' → j < r.c.to.length → ∃ qb qo, r.q = some ⟨qb, qo, none⟩ ∧ w'.cell? ⟨qb, qo + j, none⟩ = some (.int .i64 (r.c.at j))) := Lib.hid (fun w' j hb hj => by
        obtain ⟨_, _, _, _, hrl'⟩ := HL.out.at_ hr
        exact rc_at hrl' hb hj)
      have HI2 := Lib.hid (HI.out.go (alloc_below wr (.cells #[.int .i64 r.c.ty, .bool r.c.fr, .slice r.q r.c.to.length r.k] 46)))
      have HC2 : Hid (Bk (wr.alloc (.cells #[.int .i64 r.c.ty, .bool r.c.fr, .slice r.q r.c.to.length r.k] 46)) wr.heap.size 46 #[.int .i64 r.c.ty, .bool r.c.fr, .slice r.q r.c.to.length r.k]) := Lib.hid (MapKept.heap_alloc wr _).1
      have HCN : Hid (∀ m, R m → m ≠ wr.heap.size) := Lib.hid (fun m hm e => by have := HI.out.lt m hm; omega)
      have HCW : Hid (w.heap.size ≤ wr.heap.size) := Lib.hid HI.out.below.size
      have HCB : Hid (wr.heap.size ≠ b) := Lib.hid (by have := HI.out.top.lt; omega)
      have hk0 : (0 : Int) ≤ (k : Int) := Int.natCast_nonneg _
      have hk1 : (k : Int) < (l.length : Int) := by omega
      clear hit hrl hr
      go_upto_region 6 with (first
        | ((with_reducible show wpList _ _ _ (Oper.mk (some 24) _ _ _ _ _ :: _) _ _); refine wpList_load_arr rfl 46 (.tmp 23) rfl cb (co + k * 3) rfl #[.int .i64 r.c.ty, .bool r.c.fr, .slice r.q r.c.to.length r.k] _ HIT.out Try.underlying46 rfl size46 ?_)
        | ((with_reducible show wpList _ _ _ (Oper.mk none (Op.store 46 _ _) _ _ _ _ :: _) _ _); refine wpList_store_new rfl 46 (.tmp 7) (.tmp 24) rfl _ #[.int .i64 r.c.ty, .bool r.c.fr, .slice r.q r.c.to.length r.k] rfl rfl size46 rfl (by simp [Value.oneCell']) ?_))
      generalize wr.alloc (.cells #[.int .i64 r.c.ty, .bool r.c.fr, .slice r.q r.c.to.length r.k] 46) = w2 at HI2 HC2 ⊢
      generalize wr.heap.size = C at HC2 HCN HCW HCB ⊢
      have x2 := HI2.out.top.cell 2
      have y0 := HC2.out.cell 0
      have y1 := HC2.out.cell 1
      obtain ⟨cur, fm, ha⟩ := HI2.out.row
      have HA : Hid (Bk w2.drew g 59 cur) := Lib.hid ha.row
      have HSZ : Hid (k * 11 + 11 ≤ cur.size) := Lib.hid (by
        have h1 := ha.size
        have h2 := Nat.mul_le_mul_right 11 (Nat.succ_le_of_lt hkl)
        have h3 : (HeldK F).sz = 11 := rfl
        rw [h3] at h1; omega)
      have HID := Lib.hid (HI2.out.go (wz := w2.drew) (below_drew (Below.refl _ _)))
      have hgC : g ≠ C := HCN.out g ha.mine
      clear ha HI
      go_still_tail 11, (by kernel_rfl)
      change wpList _ _ _ _ _ w2.drew
      clear x2 y0 y1
      go_wp2_with (first
        | (show wpList _ _ _ (Oper.mk none (Op.store 59 _ _) _ _ _ _ :: _) _ _; refine wpList_store_part rfl 59 (.tmp 35) (.tmp 34) rfl g (k * 11) 59 cur #[.int .i64 r.c.ty, .bool r.c.fr, .int .i64 0, .int .i64 0, .int .i64 0, .int .i64 0, .int .i64 0, .int .i64 0, .int .i64 0, .int .i64 0, .map none] rfl rfl HA.out size59 HSZ.out (by simp [Value.oneCell']) ?_; intro w3 cur3 q1 q2 q3 q4 q5; have HI3 : Hid (LdI F w w3 b g l.length R ((loaded F l).take k ++ [partC F l.length 0 r.c])) := Lib.hid (HID.out.snoc (by rw [HLK.out]; exact hkl) _ _ HA.out q1 q2 (fun j hj => by rw [HLK.out, q3 j hj]; simp) (fun j hj => q4 j (by rw [HLK.out] at hj; exact hj)) q5); have HC3 : Hid (Bk w3 C 46 #[.int .i64 r.c.ty, .bool r.c.fr, .slice r.q r.c.to.length r.k]) := Lib.hid ((q5.block C HC2.out.lt (by intro e; injection e with e; exact hgC e.symm)).trans HC2.out); clear q1 q2 q3 q4 q5))
      clear HA HID hgC
      have z0 := HI3.out.top.cell 1
      have z1 := HC3.out.cell 2
      have f0 := HI3.out.top.frozen 1
      have f1 := HC3.out.frozen 2
      go_quiet (fail)
      rename_i nq _
      have hmn : (if r.c.to.length < F then (r.c.to.length : Int) else (F : Int)) = ((min F r.c.to.length : Nat) : Int) := by split <;> omega
      simp only [hmn]
      have hMF : min F r.c.to.length ≤ F := Nat.min_le_left _ _
      have hMT : min F r.c.to.length ≤ r.c.to.length := Nat.min_le_right _ _
      have HME : Hid (partC F l.length (min F r.c.to.length) r.c = loadC F l.length r.c) := Lib.hid (by
        by_cases h : F ≤ r.c.to.length
        · rw [Nat.min_eq_left h, part_full]
        · rw [Nat.min_eq_right (by omega), part_end F _ _ _ (Nat.le_refl _)])
      have HJ0 : Hid (LdI F w (w3.drewN nq) b g l.length R ((loaded F l).take k ++ [partC F l.length 0 r.c])) := Lib.hid (HI3.out.go (below_drewN_ (Below.refl _ _) _))
      have HC0 : Hid (Bk (w3.drewN nq) C 46 #[.int .i64 r.c.ty, .bool r.c.fr, .slice r.q r.c.to.length r.k]) := Lib.hid (HC3.out.below (below_drewN_ (Below.refl _ _) _) HC3.out.lt)
      have HCR : Hid (¬ R C) := Lib.hid (fun h => HCN.out C h rfl)
      clear z0 z1 f0 f1 HI2 HC2 HCN HCW HI3 HC3 hmn
      generalize w3.drewN nq = w4 at HJ0 HC0 ⊢
      generalize min F r.c.to.length = M at hMF hMT HME ⊢
      go_wp2_with fail
      go_loopw [44] (fun t wr => ∃ (j : Nat) (R' : Nat → Prop), t = .int .i64 j ∧ j ≤ M ∧ Hid (LdI F w wr b g l.length R' ((loaded F l).take k ++ [partC F l.length j r.c])) ∧ Hid (Bk wr C 46 #[.int .i64 r.c.ty, .bool r.c.fr, .slice r.q r.c.to.length r.k]) ∧ Hid (¬ R' C)) (fun t _ => M - (intOf t).toNat)
      case atStart => exact ⟨0, _, rfl, Nat.zero_le _, HJ0, HC0, HCR⟩
      case round =>
        obtain ⟨j, R', rfl, hj, HJ, HCJ, HRJ⟩ := hrel
        by_cases hjM : j < M
        · obtain ⟨qb, qo, eq0, hto⟩ := HTO.out wr j HJ.out.below (by omega)
          have hj0 : (0 : Int) ≤ (j : Int) := Int.natCast_nonneg _
          have hj1 : (j : Int) < (M : Int) := by omega
          have hj2 : (j : Int) < (r.c.to.length : Int) := by omega
          have hjF : j < F := by omega
          have e1 := HCJ.out.cell 1
          have e2 := HCJ.out.cell 2
          have b2 := HJ.out.top.cell 2
          have hri := HRO.out j
          simp only [List.getElem?_toArray, List.getElem?_cons_succ, List.getElem?_cons_zero] at e1 e2 b2
          rw [eq0] at e2
          clear eq0
          have HH := Lib.hid (hasCell_of (r.c.at j) l.length (hp b) wr (len_any b _ _ _ _ _ wr HJ.out.top))
          have HNX : Hid (∀ R1 wz, (LdI F w wz b g l.length R1 ((loaded F l).take k ++ [partC F l.length (j + 1) r.c]) ∧ Bk wz C 46 #[.int .i64 r.c.ty, .bool r.c.fr, .slice r.q r.c.to.length r.k] ∧ ¬ R1 C) → ∃ (j' : Nat) (R' : Nat → Prop), Value.int .i64 ((j : Int) + 1) = .int .i64 j' ∧ j' ≤ M ∧ Hid (LdI F w wz b g l.length R' ((loaded F l).take k ++ [partC F l.length j' r.c])) ∧ Hid (Bk wz C 46 #[.int .i64 r.c.ty, .bool r.c.fr, .slice r.q r.c.to.length r.k]) ∧ Hid (¬ R' C)) := Lib.hid (fun R1 wz h => ⟨j + 1, R1, by rw [Int.natCast_add]; rfl, by omega, Lib.hid h.1, Lib.hid h.2.1, Lib.hid h.2.2⟩)
          generalize hat : r.c.at j = a at hto HH hri
          have HAT := Lib.hid hat
          clear hat
          obtain hfr | hfr : Hid (r.c.fr = true) ∨ Hid (r.c.fr = false) := by
            cases h : r.c.fr
            · exact .inr (Lib.hid rfl)
            · exact .inl (Lib.hid rfl)
          · rw [hfr.out] at e1
            have HS := Lib.hid (HJ.out.skip hjF (by rw [hfr.out]; rfl))
            clear HH
            go_wp2_with fail
            go_roundw
            case rel => exact HNX.out _ _ ⟨HS.out, HCJ.out, HRJ.out⟩
            case measure => simp [intOf]; omega
          · rw [hfr.out] at e1
            cases hct : isCell l.length a with
            | false =>
              have HS := Lib.hid (HJ.out.skip hjF (by rw [hfr.out, HAT.out]; unfold okTo; rw [hct]; rfl))
              rw [hct] at HH
              go_wp2_with (go_at_call 18; refine HH.out.mono ?_; rintro e w' ⟨rfl, rfl⟩)
              go_roundw
              case rel => exact HNX.out _ _ ⟨HS.out, HCJ.out, HRJ.out⟩
              case measure => simp [intOf]; omega
            | true =>
              obtain ⟨cur, fm, ha⟩ := HJ.out.row
              have HG := Lib.hid (lead_any F g l.length k j a wr R' cur fm _ (partC F l.length j r.c) ha HJ.out.lt (by rw [List.getElem?_append_right (by rw [HLK.out]; exact Nat.le_refl _), HLK.out, Nat.sub_self]; rfl) hjF hF hri)
              have HE : Hid (∀ e wz, RowPost F wr R' g l.length (((loaded F l).take k ++ [partC F l.length j r.c]).set k (putTo (partC F l.length j r.c) j a)) e wz → ∃ R1, LdI F w wz b g l.length R1 ((loaded F l).take k ++ [partC F l.length (j + 1) r.c]) ∧ Bk wz C 46 #[.int .i64 r.c.ty, .bool r.c.fr, .slice r.q r.c.to.length r.k] ∧ ¬ R1 C) := Lib.hid (fun e wz hp => HJ.out.lead2 hjF a (by rw [hfr.out, HAT.out]; unfold okTo; rw [hct]; rfl) (by rw [HLK.out]; exact hp) HCJ.out HRJ.out)
              rw [hct] at HH
              clear ha hri
              go_wp2_with (first | (go_at_call 18; refine HH.out.mono ?_; rintro e w' ⟨rfl, rfl⟩) | (go_at_call 19; refine HG.out.mono ?_; intro e w5 hp2; have HZ := Lib.hid (HE.out e w5 hp2); obtain ⟨rfl, _⟩ := hp2))
              go_roundw
              case rel => obtain ⟨R1, h1⟩ := HZ.out; exact HNX.out _ _ h1
              case measure => simp [intOf]; omega
        · obtain rfl : j = M := by omega
          have HN : Hid (LdI F w wr b g l.length R' ((loaded F l).take (k + 1))) := Lib.hid (by rw [← HTK.out, ← HME.out]; exact HJ.out)
          clear HJ
          go_wp2_with fail
          go_roundw
          case rel => exact ⟨k + 1, _, by go_num, by omega, HN⟩
          case measure => simp [intOf]; omega
    · obtain rfl : k = l.length := by omega
      have HD : Hid (LoadP F w (loaded F l) (.returned (.pointer (some ⟨b, 0, none⟩))) wr) := Lib.hid (by
        have h := HI.out
        rw [List.take_of_length_le (by simp [loaded])] at h
        exact h.done (by simp [loaded]))
      clear HI
      go_wp2_with fail
      go_ret
      exact HD.out
end Go.Proofs.Ytocgallcmgnmgaa
