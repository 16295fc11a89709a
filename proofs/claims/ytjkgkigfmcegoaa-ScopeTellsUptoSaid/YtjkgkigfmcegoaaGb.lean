/-
  DERIVED. The walk of the globals' addition.
-/
import Derived.Test.YtjkgkigfmcegoaaAg
namespace Go.Proofs.Ytjkgkigfmcegoaa
open Go.RowKit Go.Sort Go.Maps

theorem declE_lt {sn hv : List ByteArray} {d : Dc} (h : declE sn hv d = 0) : hv.length < 16 := by
  have h1 := declE_add h
  by_cases hc : 16 ≤ hv.length
  · unfold addE at h1; rw [if_pos hc] at h1; cases h1
  · omega
theorem declE_ne {sn hv : List ByteArray} {d : Dc} (h : declE sn hv d ≠ 0) : (declE sn hv d != 0) = true := by rw [bne_iff_ne]; exact h
def dNames (l : List Dc) : List ByteArray := l.map (·.name)
theorem dNames_snoc (l : List Dc) (d : Dc) : dNames (l ++ [d]) = dNames l ++ [d.name] := by simp [dNames]

structure GbInv (sn : List ByteArray) (l : List Dc) (M : Nat) (e : Value) (w wr : World) (gd rest : List Dc) (vd : List (Int × Int)) (np ni : Int) : Prop where
  all : l = gd ++ rest
  go : declsGo sn [] l = declsGo sn (dNames gd) rest
  small : gd.length ≤ 16
  vs : varsGo sn 0 0 l = vd ++ varsGo sn np ni rest
  vlen : vd.length = gd.length
  np0 : 0 ≤ np
  np1 : np ≤ gd.length
  ni0 : 0 ≤ ni
  ni1 : ni ≤ gd.length
  roll : Roll byName wr (M + 2) (dNames gd)
  sroll : Roll byName wr M sn
  tab : ∃ v, Bk wr (M + 4) 57 (tcells M e v) ∧ wr.ownsRow (w.heap.size + 2) 81 2 v vd.length (pcells vd)
  cp : Bk wr w.heap.size 3 #[.int .i64 np]
  ci : Bk wr (w.heap.size + 1) 3 #[.int .i64 ni]
  gr : Gr w wr (fun k => k = M + 2 ∨ k = M + 4)
  top : w.heap.size + 2 ≤ wr.heap.size
/-- What the globals' addition leaves. -/
def GbPost (sn : List ByteArray) (l : List Dc) (M : Nat) (e : Value) (w : World) (en : Ending) (w' : World) : Prop :=
  en = .returned (.tuple #[.int .i64 (declsGo sn [] l).1, .int .i64 (declsGo sn [] l).2]) ∧
  ((declsGo sn [] l).2 = 0 → l.length ≤ 16 ∧ Roll byName w' (M + 2) (dNames l) ∧ (varsGo sn 0 0 l).length = l.length ∧ ∃ v, Bk w' (M + 4) 57 (tcells M e v) ∧ w'.ownsRow (w.heap.size + 2) 81 2 v (varsGo sn 0 0 l).length (pcells (varsGo sn 0 0 l))) ∧
  Gr w w' (fun k => k = M + 2 ∨ k = M + 4)
/-- The next step, of pointers or of ints. -/
theorem GbInv.step {sn : List ByteArray} {l : List Dc} {M : Nat} {e v' : Value} {w wr w' : World} {gd rest : List Dc} {vd : List (Int × Int)} {np ni np' ni' x : Int} {d : Dc} (h : GbInv sn l M e w wr gd (d :: rest) vd np ni) (h0 : declE sn (dNames gd) d = 0)
    (hx : x = if kindOf sn d.type = -1 then ni else np) (hnp : np' = if kindOf sn d.type = -1 then np else np + 1) (hni : ni' = if kindOf sn d.type = -1 then ni + 1 else ni)
    (hR : Roll byName w' (M + 2) (dNames gd ++ [d.name])) (hS : Roll byName w' M sn) (hT : Bk w' (M + 4) 57 (tcells M e v')) (hO : w'.ownsRow (w.heap.size + 2) 81 2 v' (vd.length + 1) (pcells vd ++ [.int .i64 (kindOf sn d.type), .int .i64 x]))
    (hp : Bk w' w.heap.size 3 #[.int .i64 np']) (hi : Bk w' (w.heap.size + 1) 3 #[.int .i64 ni']) (hg : Gr w w' (fun k => k = M + 2 ∨ k = M + 4)) (ht : w.heap.size + 2 ≤ w'.heap.size) :
    GbInv sn l M e w w' (gd ++ [d]) rest (vd ++ [(kindOf sn d.type, x)]) np' ni' where
  all := by rw [h.all]; simp
  go := by rw [h.go, declsGo_cons, if_pos h0, dNames_snoc]
  small := by have := declE_lt h0; simp [dNames] at this ⊢; omega
  vs := by
    rw [h.vs, varsGo, hx, hnp, hni]
    by_cases hk : kindOf sn d.type = -1
    · simp [hk]
    · simp [hk]
  vlen := by have := h.vlen; simp; omega
  np0 := by have := h.np0; rw [hnp]; split <;> omega
  np1 := by have := h.np1; rw [hnp]; simp; split <;> omega
  ni0 := by have := h.ni0; rw [hni]; split <;> omega
  ni1 := by have := h.ni1; rw [hni]; simp; split <;> omega
  roll := by rw [dNames_snoc]; exact hR
  sroll := hS
  tab := ⟨v', hT, by rw [pcells_snoc, List.length_append]; exact hO⟩
  cp := hp
  ci := hi
  gr := hg
  top := ht

set_option maxHeartbeats 6400000 in
set_option maxRecDepth 100000 in
theorem addGlobals_any (p : Option Addr) (l : List Dc) (c M : Nat) (e : Value) (sn : List ByteArray) (w : World) (hM : M + 4 < w.heap.size) (hlen : l.length ≤ 1048576) (hL : ∀ wr, Gr w wr (fun k => k = M + 2 ∨ k = M + 4) → Lay 3 Dc.cells dcR wr p l)
    (hT : Bk w (M + 4) 57 (tcells M e (.slice none 0 0))) (hS : Roll byName w M sn) (hR : Roll byName w (M + 2) []) :
    Calls Try.prog 21 #[tptr M, .slice p l.length c] w (GbPost sn l M e w) := by
  have HP : Hid (Gr w ((w.alloc (.cells #[.int .i64 0] 3)).alloc (.cells #[.int .i64 0] 3)) (fun _ => False)) := Lib.hid (((Gr.refl w _).alloc _).alloc _)
  have HI0 : Hid (GbInv sn l M e w ((w.alloc (.cells #[.int .i64 0] 3)).alloc (.cells #[.int .i64 0] 3)) [] l [] 0 0) := Lib.hid
    ⟨rfl, rfl, by decide, rfl, rfl, by decide, by decide, by decide, by decide, HP.out.roll hR (fun h => h), HP.out.roll hS (fun h => h), ⟨_, HP.out.bk hT (fun h => h), World.ownsRow_nil _ _ _ _⟩, heap_alloc2_old w _ _, heap_alloc2_new w _ _, HP.out.mono (fun _ _ h => h.elim), by simp⟩
  obtain ⟨i0, hi0, hz0, hz1, hz2⟩ := info_parts zinfo81
  have HI := Lib.hid hi0; have HZ0 := Lib.hid hz0; have HZ1 := Lib.hid hz1; have HZ2 := Lib.hid hz2
  have HL := Lib.hid hL
  have HM := Lib.hid hM
  clear hL hT hS hR hM hi0 hz0 hz1 hz2
  unfold tptr
  go_enter Try.func21, Try.ntmps21
  go_wp2_with fail
  generalize (w.alloc (.cells #[.int .i64 0] 3)).alloc (.cells #[.int .i64 0] 3) = wA at HI0 ⊢
  go_loopw [15] (fun i wr => ∃ (k : Nat) (gd : List Dc) (vd : List (Int × Int)) (np ni : Int), i = .int .i64 k ∧ k ≤ l.length ∧ Hid (GbInv sn l M e w wr gd (l.drop k) vd np ni)) (fun i _ => l.length - (intOf i).toNat)
  case atStart => exact ⟨0, [], [], 0, 0, rfl, Nat.zero_le _, HI0⟩
  case round =>
    obtain ⟨k, gd, vd, np, ni, rfl, hk, HV⟩ := hrel
    by_cases hkl : k < l.length
    · obtain ⟨b, o, rfl, hrg, hdc⟩ := (HL.out wr HV.out.gr).at_ hkl
      have HV1 : Hid (GbInv sn l M e w wr gd (l[k] :: l.drop (k + 1)) vd np ni) := Lib.hid (by have := HV.out; rwa [List.drop_eq_getElem_cons hkl] at this)
      obtain ⟨v, hT, hO⟩ := HV.out.tab
      generalize hd : l[k] = d at hrg hdc HV1
      clear hd HV
      have HRG : Hid (wr.rangeAt b (o + k * 3) (#[.string d.type, .string d.name, .int .i64 d.pos] : Array Value).toList) := Lib.hid hrg
      have HNB : Hid (Bk (wr.alloc (.cells #[.string d.type, .string d.name, .int .i64 d.pos] 46)) wr.heap.size 46 #[.string d.type, .string d.name, .int .i64 d.pos]) := Lib.hid (heap_alloc_new _ _)
      have HNF : Hid (Gr wr (wr.alloc (.cells #[.string d.type, .string d.name, .int .i64 d.pos] 46)) (fun _ => False)) := Lib.hid ((Gr.refl _ _).alloc _)
      have HT1 : Hid (Bk (wr.alloc (.cells #[.string d.type, .string d.name, .int .i64 d.pos] 46)) (M + 4) 57 (tcells M e v)) := Lib.hid (HNF.out.bk hT (fun h => h))
      have HO1 : Hid ((wr.alloc (.cells #[.string d.type, .string d.name, .int .i64 d.pos] 46)).ownsRow (w.heap.size + 2) 81 2 v vd.length (pcells vd)) := Lib.hid (own_gr hO HNF.out (fun _ _ _ h => h))
      have HR1 : Hid (Roll byName (wr.alloc (.cells #[.string d.type, .string d.name, .int .i64 d.pos] 46)) (M + 2) (dNames gd)) := Lib.hid (HNF.out.roll HV1.out.roll (fun h => h))
      have HS1 : Hid (Roll byName (wr.alloc (.cells #[.string d.type, .string d.name, .int .i64 d.pos] 46)) M sn) := Lib.hid (HNF.out.roll HV1.out.sroll (fun h => h))
      have HCP : Hid (Bk (wr.alloc (.cells #[.string d.type, .string d.name, .int .i64 d.pos] 46)) w.heap.size 3 #[.int .i64 np]) := Lib.hid (HNF.out.bk HV1.out.cp (fun h => h))
      have HCI : Hid (Bk (wr.alloc (.cells #[.string d.type, .string d.name, .int .i64 d.pos] 46)) (w.heap.size + 1) 3 #[.int .i64 ni]) := Lib.hid (HNF.out.bk HV1.out.ci (fun h => h))
      have HGB : Hid (Gr w (wr.alloc (.cells #[.string d.type, .string d.name, .int .i64 d.pos] 46)) (fun k => k = M + 2 ∨ k = M + 4)) := Lib.hid (HV1.out.gr.then HNF.out (fun _ _ h => h.elim))
      have HTP : Hid (w.heap.size + 2 ≤ wr.heap.size) := Lib.hid HV1.out.top
      have HDC := Lib.hid hdc
      have k0 := HNB.out.cell 0
      replace k0 : (wr.alloc (.cells #[.string d.type, .string d.name, .int .i64 d.pos] 46)).cell? ⟨wr.heap.size, 0, none⟩ = some (.string d.type) := k0
      have k1 : (wr.alloc (.cells #[.string d.type, .string d.name, .int .i64 d.pos] 46)).cell? ⟨wr.heap.size, 1, none⟩ = some (.string d.name) := HNB.out.cell 1
      have k2 : (wr.alloc (.cells #[.string d.type, .string d.name, .int .i64 d.pos] 46)).cell? ⟨wr.heap.size, 2, none⟩ = some (.int .i64 d.pos) := HNB.out.cell 2
      have t3 : (wr.alloc (.cells #[.string d.type, .string d.name, .int .i64 d.pos] 46)).cell? ⟨M + 4, 3, none⟩ = some (.map (some (M + 2))) := HT1.out.cell 3
      have t0 : Hid ((wr.alloc (.cells #[.string d.type, .string d.name, .int .i64 d.pos] 46)).cell? ⟨M + 4, 0, none⟩ = some (.map (some M))) := Lib.hid (HT1.out.cell 0)
      have HC : Hid (Calls Try.prog 36 #[tptr M, .map (some (M + 2)), .agg #[.string d.type, .string d.name, .int .i64 d.pos]] (wr.alloc (.cells #[.string d.type, .string d.name, .int .i64 d.pos] 46)).drew (DePost sn (dNames gd) d (M + 2) (wr.alloc (.cells #[.string d.type, .string d.name, .int .i64 d.pos] 46)).drew)) :=
        Lib.hid (declare_any d sn (dNames gd) M (M + 2) _ hdc (by omega) (by omega) t0.out (HS1.out.same rfl) (HR1.out.same rfl))
      unfold tptr at HC
      have n0 : (0 : Int) ≤ (k : Int) := Int.natCast_nonneg _
      have n1 : (k : Int) < (l.length : Int) := by omega
      clear hrg hdc hT hO
      go_wp2_with (first | ((with_reducible show wpList _ _ _ (Oper.mk (some 18) _ _ _ _ _ :: _) _ _); refine wpList_load_arr rfl 46 (.tmp 17) rfl b (o + k * 3) rfl #[.string d.type, .string d.name, .int .i64 d.pos] _ HRG.out Try.underlying46 rfl size46 ?_) | ((with_reducible show wpList _ _ _ (Oper.mk none (Op.store _ _ _) _ _ _ _ :: _) _ _); refine wpList_store_new rfl 46 (.tmp 9) (.tmp 18) rfl _ #[.string d.type, .string d.name, .int .i64 d.pos] rfl rfl size46 rfl rfl ?_))
      generalize wr.alloc (.cells #[.string d.type, .string d.name, .int .i64 d.pos] 46) = wB at HNB HNF HT1 HO1 HR1 HS1 HCP HCI HGB k0 k1 k2 t3 t0 HC ⊢
      have HMw : Hid (M + 4 < wr.heap.size) := Lib.hid (by have := HM.out; have := HTP.out; omega)
      have HST : Hid (∀ w', Gr wB w' (fun k => k = M + 2) → w'.cell? ⟨M + 4, 3, none⟩ = some (.map (some (M + 2))) ∧ w'.cell? ⟨wr.heap.size, 0, none⟩ = some (.string d.type) ∧ w'.cell? ⟨wr.heap.size, 1, none⟩ = some (.string d.name) ∧ w'.cell? ⟨wr.heap.size, 2, none⟩ = some (.int .i64 d.pos)) := Lib.hid (fun w' hg => by
        have h1 := hg.bk HT1.out (by omega)
        have h2 := hg.bk HNB.out (by have := HMw.out; omega)
        exact ⟨h1.cell 3, h2.cell 0, h2.cell 1, h2.cell 2⟩)
      have HG0 : Hid (Gr wB wB.drew (fun k => k = M + 2)) := Lib.hid (Gr.refl _ _).drew
      have HG00 : Hid (Gr wB wB (fun k => k = M + 2)) := Lib.hid (Gr.refl _ _)
      go_region_held3 (fun w' => w'.cell? ⟨M + 4, 3, none⟩ = some (.map (some (M + 2))) ∧ w'.cell? ⟨wr.heap.size, 0, none⟩ = some (.string d.type) ∧ w'.cell? ⟨wr.heap.size, 1, none⟩ = some (.string d.name) ∧ w'.cell? ⟨wr.heap.size, 2, none⟩ = some (.int .i64 d.pos)) (first | exact HST.out _ HN2.out | exact HST.out _ HG0.out | exact HST.out _ HG00.out | fail) (first | (go_at_call 36; refine (HC.out).mono ?_; rintro en w2 ⟨rfl, hr2, hg2⟩; have HR2 := Lib.hid hr2; have HN2 : Hid (Gr wB w2 (fun k => k = M + 2)) := Lib.hid (HG0.out.trans hg2); clear hr2 hg2))
      have HT2 : Hid (Bk w2 (M + 4) 57 (tcells M e v)) := Lib.hid (HN2.out.bk HT1.out (by omega))
      have HS2 : Hid (Roll byName w2 M sn) := Lib.hid (HN2.out.roll HS1.out (by omega))
      have HO2 : Hid (w2.ownsRow (w.heap.size + 2) 81 2 v vd.length (pcells vd)) := Lib.hid (own_gr HO1.out HN2.out (fun i hi _ h => by have := HM.out; omega))
      have HP2 : Hid (Bk w2 w.heap.size 3 #[.int .i64 np]) := Lib.hid (HN2.out.bk HCP.out (by have := HM.out; omega))
      have HQ2 : Hid (Bk w2 (w.heap.size + 1) 3 #[.int .i64 ni]) := Lib.hid (HN2.out.bk HCI.out (by have := HM.out; omega))
      have HNB2 : Hid (Bk w2 wr.heap.size 46 #[.string d.type, .string d.name, .int .i64 d.pos]) := Lib.hid (HN2.out.bk HNB.out (by have := HMw.out; omega))
      have HGB2 : Hid (Gr w w2 (fun k => k = M + 2 ∨ k = M + 4)) := Lib.hid (HGB.out.then HN2.out (fun _ _ h => .inl h))
      have HVB : Hid (∀ g, v.ownBlock = some g → w.heap.size + 2 ≤ g ∧ g < w2.heap.size) := Lib.hid HO2.out.lt
      have HSZ2 : Hid (wr.heap.size < w2.heap.size) := Lib.hid HNB2.out.lt
      clear k0 k1 k2 t3
      by_cases he : declE sn (dNames gd) d = 0
      · have HX := Lib.hid he
        have HXA : Hid (addL 16 (dNames gd) d.name = dNames gd ++ [d.name]) := Lib.hid (by unfold addL; rw [if_pos (declE_add he)])
        have hnp0 := HV1.out.np0
        have hnp1 := HV1.out.np1
        have hni0 := HV1.out.ni0
        have hni1 := HV1.out.ni1
        have hgs := HV1.out.small
        have hvl : vd.length ≤ 16 := by have := HV1.out.vlen; omega
        have HDV : Hid (declV sn (dNames gd) d = kindOf sn d.type) := Lib.hid (by unfold declV; rw [if_pos he])
        rw [he, HDV.out]
        clear he
        have k24 : w2.cell? ⟨M + 4, 4, none⟩ = some v := HT2.out.cell 4
        cases hkk : (kindOf sn d.type == -1)
        · have HK : Hid (kindOf sn d.type ≠ -1) := Lib.hid (by simpa using hkk)
          have c3 : w2.cell? ⟨w.heap.size, 0, none⟩ = some (.int .i64 np) := HP2.out.cell 0
          have HKX : Hid (kindOf sn d.type = kindOf sn d.type) := Lib.hid rfl
          generalize hkx : kindOf sn d.type = kx at HKX HK hkk ⊢
          have HKE := Lib.hid hkx
          clear hkx
          go_wp2_with fail
          have k24a : (w2.alloc (.cells #[.int .i64 kx, .int .i64 np] 81)).drew.cell? ⟨M + 4, 4, none⟩ = some v := cell_of_row _ _ 4 _ _ _ ((heap_alloc_old w2 (.cells #[.int .i64 kx, .int .i64 np] 81) HT2.out.lt).trans HT2.out)
          have c3a : (w2.alloc (.cells #[.int .i64 kx, .int .i64 np] 81)).drew.cell? ⟨w.heap.size, 0, none⟩ = some (.int .i64 np) := cell_of_row _ _ 0 _ _ _ ((heap_alloc_old w2 (.cells #[.int .i64 kx, .int .i64 np] 81) HP2.out.lt).trans HP2.out)
          have HOD : Hid (w2.drew.ownsRow (w.heap.size + 2) 81 2 v vd.length (pcells vd)) := Lib.hid HO2.out.drew
          go_region_law (first
            | (refine step_append_lies _ rfl (.tmp 40) (.tmp 46) 55 rfl (w.heap.size + 2) 81 i0 (.agg #[.int .i64 0, .int .i64 0]) 2 16 Try.underlying55 HI.out HZ0.out HZ1.out HZ2.out rfl (by decide) _ vd.length _ rfl (HOD.out.alloc _) ⟨w2.drew.heap.size, 0, none⟩ 1 1 [.int .i64 kx, .int .i64 np] rfl rfl (World.news_of_block (heap_alloc_new _ _)) (two_one _ _) (by decide) (by unfold maxLen; omega) (by omega) (by have := HTP.out; have := HSZ2.out; simp; omega) _ rfl ?_; intro g cap w3 hown3 hgrow3 _ _; have HO3 := Lib.hid hown3; have HN3 : Hid (Gr w2 w3 (fun k => some k = v.ownBlock)) := Lib.hid (((Gr.refl w2 _).drew.alloc _).grown hgrow3 (fun i _ e => e)); have HT3 : Hid (Bk w3 (M + 4) 57 (tcells M e v)) := Lib.hid (HN3.out.bk HT2.out (fun e => by have := (HVB.out _ e.symm).1; have := HM.out; omega)); have d24 : w3.cell? ⟨M + 4, 4, none⟩ = some v := HT3.out.cell 4; have f24 : w3.frozen? ⟨M + 4, 4, none⟩ = false := HT3.out.frozen 4; clear hown3 hgrow3))
          all_goals
            have HN4 : Hid (Gr w2 (w3.setCell ⟨M + 4, 4, none⟩ (.slice (some ⟨g, 0, none⟩) (vd.length + 1) cap)) (fun k => some k = v.ownBlock ∨ k = M + 4)) := Lib.hid ((HN3.out.mono (fun _ _ h => .inl h)).setCell (fun _ => .inr rfl) _)
            have HO4 : Hid ((w3.setCell ⟨M + 4, 4, none⟩ (.slice (some ⟨g, 0, none⟩) (vd.length + 1) cap)).ownsRow (w.heap.size + 2) 81 2 (.slice (some ⟨g, 0, none⟩) (vd.length + 1) cap) (vd.length + 1) (pcells vd ++ [.int .i64 kx, .int .i64 np])) := Lib.hid (own_setC HO3.out (by have := HM.out; simp; omega) _)
            have HT4 : Hid (Bk (w3.setCell ⟨M + 4, 4, none⟩ (.slice (some ⟨g, 0, none⟩) (vd.length + 1) cap)) (M + 4) 57 (tcells M e (.slice (some ⟨g, 0, none⟩) (vd.length + 1) cap))) := Lib.hid (Bk.set_ HT3.out 4 _)
            generalize w3.setCell ⟨M + 4, 4, none⟩ (.slice (some ⟨g, 0, none⟩) (vd.length + 1) cap) = w4 at HN4 HO4 HT4 ⊢
            have HP4 : Hid (Bk w4 w.heap.size 3 #[.int .i64 np]) := Lib.hid (HN4.out.bk HP2.out (by rintro (h | h); (have := (HVB.out _ h.symm).1; omega); (have := HM.out; omega)))
            have HQ4 : Hid (Bk w4 (w.heap.size + 1) 3 #[.int .i64 ni]) := Lib.hid (HN4.out.bk HQ2.out (by rintro (h | h); (have := (HVB.out _ h.symm).1; omega); (have := HM.out; omega)))
            have c4 : w4.cell? ⟨w.heap.size, 0, none⟩ = some (.int .i64 np) := HP4.out.cell 0
            have f4 : w4.frozen? ⟨w.heap.size, 0, none⟩ = false := HP4.out.frozen 0
            go_wp2_with fail
            have HG5 : Hid (Gr w4 (w4.setCell ⟨w.heap.size, 0, none⟩ (.int .i64 (np + 1))) (fun k => k = w.heap.size)) := Lib.hid ((Gr.refl w4 (fun k => k = w.heap.size)).setCell (p := ⟨w.heap.size, 0, none⟩) (fun _ => rfl) _)
            have HX5 : Hid (Bk (w4.setCell ⟨w.heap.size, 0, none⟩ (.int .i64 (np + 1))) (w.heap.size) 3 #[.int .i64 (np + 1)]) := Lib.hid (HP4.out.set_ 0 _)
            generalize w4.setCell ⟨w.heap.size, 0, none⟩ (.int .i64 (np + 1)) = w5 at HG5 HX5 ⊢
            have HV5 : Hid (GbInv sn l M e w w5 (gd ++ [d]) (l.drop (k + 1)) (vd ++ [(kindOf sn d.type, np)]) (np + 1) (ni)) := Lib.hid (by
              have hs : Roll byName w5 M sn := HG5.out.roll (HN4.out.roll HS2.out (by rintro (h | h); (have := (HVB.out _ h.symm).1; have := HM.out; omega); omega)) (by have := HM.out; omega)
              have hr : Roll byName w5 (M + 2) (dNames gd ++ [d.name]) := by
                have h1 := HG5.out.roll (HN4.out.roll HR2.out (by rintro (h | h); (have := (HVB.out _ h.symm).1; have := HM.out; omega); omega)) (by have := HM.out; omega)
                rwa [HXA.out] at h1
              refine HV1.out.step HX.out (x := np) (v' := .slice (some ⟨g, 0, none⟩) (vd.length + 1) cap) (by rw [HKE.out]; simp [HK.out]) (by rw [HKE.out]; simp [HK.out]) (by rw [HKE.out]; simp [HK.out]) hr hs (HG5.out.bk HT4.out (by have := HM.out; omega)) (by rw [HKE.out]; exact own_gr HO4.out HG5.out (fun i hi _ h => by omega)) HX5.out (HG5.out.bk HQ4.out (by omega)) ?_ ?_
              · exact (HGB2.out.then (HN4.out.mono (S' := fun k => (some k = v.ownBlock) ∨ k = M + 4) (fun _ _ h => h)) (by rintro i hi (h | h); (have := (HVB.out _ h.symm).1; omega); exact .inr h)).then HG5.out (fun i hi h => by omega)
              · have h1 := HG5.out.size; have h2 := HN4.out.size; have h3 := HSZ2.out; have h4 := HTP.out; omega)
            go_wp2_with fail
            go_roundw
            case rel => exact ⟨k + 1, _, _, _, _, by go_num, by omega, HV5⟩
            case measure => simp [intOf]; omega
        · have HK : Hid (kindOf sn d.type = -1) := Lib.hid (by simpa using hkk)
          have c3 : w2.cell? ⟨w.heap.size + 1, 0, none⟩ = some (.int .i64 ni) := HQ2.out.cell 0
          have HKX : Hid (kindOf sn d.type = kindOf sn d.type) := Lib.hid rfl
          generalize hkx : kindOf sn d.type = kx at HKX HK hkk ⊢
          have HKE := Lib.hid hkx
          clear hkx
          go_wp2_with fail
          have k24a : (w2.alloc (.cells #[.int .i64 kx, .int .i64 ni] 81)).drew.cell? ⟨M + 4, 4, none⟩ = some v := cell_of_row _ _ 4 _ _ _ ((heap_alloc_old w2 (.cells #[.int .i64 kx, .int .i64 ni] 81) HT2.out.lt).trans HT2.out)
          have c3a : (w2.alloc (.cells #[.int .i64 kx, .int .i64 ni] 81)).drew.cell? ⟨w.heap.size + 1, 0, none⟩ = some (.int .i64 ni) := cell_of_row _ _ 0 _ _ _ ((heap_alloc_old w2 (.cells #[.int .i64 kx, .int .i64 ni] 81) HQ2.out.lt).trans HQ2.out)
          have HOD : Hid (w2.drew.ownsRow (w.heap.size + 2) 81 2 v vd.length (pcells vd)) := Lib.hid HO2.out.drew
          go_region_law (first
            | (refine step_append_lies _ rfl (.tmp 40) (.tmp 46) 55 rfl (w.heap.size + 2) 81 i0 (.agg #[.int .i64 0, .int .i64 0]) 2 16 Try.underlying55 HI.out HZ0.out HZ1.out HZ2.out rfl (by decide) _ vd.length _ rfl (HOD.out.alloc _) ⟨w2.drew.heap.size, 0, none⟩ 1 1 [.int .i64 kx, .int .i64 ni] rfl rfl (World.news_of_block (heap_alloc_new _ _)) (two_one _ _) (by decide) (by unfold maxLen; omega) (by omega) (by have := HTP.out; have := HSZ2.out; simp; omega) _ rfl ?_; intro g cap w3 hown3 hgrow3 _ _; have HO3 := Lib.hid hown3; have HN3 : Hid (Gr w2 w3 (fun k => some k = v.ownBlock)) := Lib.hid (((Gr.refl w2 _).drew.alloc _).grown hgrow3 (fun i _ e => e)); have HT3 : Hid (Bk w3 (M + 4) 57 (tcells M e v)) := Lib.hid (HN3.out.bk HT2.out (fun e => by have := (HVB.out _ e.symm).1; have := HM.out; omega)); have d24 : w3.cell? ⟨M + 4, 4, none⟩ = some v := HT3.out.cell 4; have f24 : w3.frozen? ⟨M + 4, 4, none⟩ = false := HT3.out.frozen 4; clear hown3 hgrow3))
          all_goals
            have HN4 : Hid (Gr w2 (w3.setCell ⟨M + 4, 4, none⟩ (.slice (some ⟨g, 0, none⟩) (vd.length + 1) cap)) (fun k => some k = v.ownBlock ∨ k = M + 4)) := Lib.hid ((HN3.out.mono (fun _ _ h => .inl h)).setCell (fun _ => .inr rfl) _)
            have HO4 : Hid ((w3.setCell ⟨M + 4, 4, none⟩ (.slice (some ⟨g, 0, none⟩) (vd.length + 1) cap)).ownsRow (w.heap.size + 2) 81 2 (.slice (some ⟨g, 0, none⟩) (vd.length + 1) cap) (vd.length + 1) (pcells vd ++ [.int .i64 kx, .int .i64 ni])) := Lib.hid (own_setC HO3.out (by have := HM.out; simp; omega) _)
            have HT4 : Hid (Bk (w3.setCell ⟨M + 4, 4, none⟩ (.slice (some ⟨g, 0, none⟩) (vd.length + 1) cap)) (M + 4) 57 (tcells M e (.slice (some ⟨g, 0, none⟩) (vd.length + 1) cap))) := Lib.hid (Bk.set_ HT3.out 4 _)
            generalize w3.setCell ⟨M + 4, 4, none⟩ (.slice (some ⟨g, 0, none⟩) (vd.length + 1) cap) = w4 at HN4 HO4 HT4 ⊢
            have HP4 : Hid (Bk w4 w.heap.size 3 #[.int .i64 np]) := Lib.hid (HN4.out.bk HP2.out (by rintro (h | h); (have := (HVB.out _ h.symm).1; omega); (have := HM.out; omega)))
            have HQ4 : Hid (Bk w4 (w.heap.size + 1) 3 #[.int .i64 ni]) := Lib.hid (HN4.out.bk HQ2.out (by rintro (h | h); (have := (HVB.out _ h.symm).1; omega); (have := HM.out; omega)))
            have c4 : w4.cell? ⟨w.heap.size + 1, 0, none⟩ = some (.int .i64 ni) := HQ4.out.cell 0
            have f4 : w4.frozen? ⟨w.heap.size + 1, 0, none⟩ = false := HQ4.out.frozen 0
            go_wp2_with fail
            have HG5 : Hid (Gr w4 (w4.setCell ⟨w.heap.size + 1, 0, none⟩ (.int .i64 (ni + 1))) (fun k => k = w.heap.size + 1)) := Lib.hid ((Gr.refl w4 (fun k => k = w.heap.size + 1)).setCell (p := ⟨w.heap.size + 1, 0, none⟩) (fun _ => rfl) _)
            have HX5 : Hid (Bk (w4.setCell ⟨w.heap.size + 1, 0, none⟩ (.int .i64 (ni + 1))) (w.heap.size + 1) 3 #[.int .i64 (ni + 1)]) := Lib.hid (HQ4.out.set_ 0 _)
            generalize w4.setCell ⟨w.heap.size + 1, 0, none⟩ (.int .i64 (ni + 1)) = w5 at HG5 HX5 ⊢
            have HV5 : Hid (GbInv sn l M e w w5 (gd ++ [d]) (l.drop (k + 1)) (vd ++ [(kindOf sn d.type, ni)]) (np) (ni + 1)) := Lib.hid (by
              have hs : Roll byName w5 M sn := HG5.out.roll (HN4.out.roll HS2.out (by rintro (h | h); (have := (HVB.out _ h.symm).1; have := HM.out; omega); omega)) (by have := HM.out; omega)
              have hr : Roll byName w5 (M + 2) (dNames gd ++ [d.name]) := by
                have h1 := HG5.out.roll (HN4.out.roll HR2.out (by rintro (h | h); (have := (HVB.out _ h.symm).1; have := HM.out; omega); omega)) (by have := HM.out; omega)
                rwa [HXA.out] at h1
              refine HV1.out.step HX.out (x := ni) (v' := .slice (some ⟨g, 0, none⟩) (vd.length + 1) cap) (by rw [HKE.out]; simp [HK.out]) (by rw [HKE.out]; simp [HK.out]) (by rw [HKE.out]; simp [HK.out]) hr hs (HG5.out.bk HT4.out (by have := HM.out; omega)) (by rw [HKE.out]; exact own_gr HO4.out HG5.out (fun i hi _ h => by omega)) (HG5.out.bk HP4.out (by omega)) HX5.out ?_ ?_
              · exact (HGB2.out.then (HN4.out.mono (S' := fun k => (some k = v.ownBlock) ∨ k = M + 4) (fun _ _ h => h)) (by rintro i hi (h | h); (have := (HVB.out _ h.symm).1; omega); exact .inr h)).then HG5.out (fun i hi h => by omega)
              · have h1 := HG5.out.size; have h2 := HN4.out.size; have h3 := HSZ2.out; have h4 := HTP.out; omega)
            go_wp2_with fail
            go_roundw
            case rel => exact ⟨k + 1, _, _, _, _, by go_num, by omega, HV5⟩
            case measure => simp [intOf]; omega
      · have hne := declE_ne he
        have HX := Lib.hid he
        have HFE : Hid (declsGo sn [] l = (d.pos, declE sn (dNames gd) d)) := Lib.hid (by rw [HV1.out.go, declsGo_cons, if_neg he])
        have d2 : w2.cell? ⟨wr.heap.size, 2, none⟩ = some (.int .i64 d.pos) := HNB2.out.cell 2
        clear he
        go_wp2_with fail
        go_ret2
        exact ⟨by rw [HFE.out]; rfl, fun h => absurd (by rw [HFE.out] at h; exact h) HX.out, HGB2.out⟩
    · have HF : Hid (GbInv sn l M e w wr gd [] vd np ni) := Lib.hid (by have := HV.out; rwa [List.drop_eq_nil_of_le (by omega)] at this)
      have HG : Hid (declsGo sn [] l = (0, 0)) := Lib.hid (by rw [HF.out.go]; rfl)
      have HGD : Hid (l = gd) := Lib.hid (by have := HF.out.all; simpa using this)
      have HVD : Hid (varsGo sn 0 0 l = vd) := Lib.hid (by have := HF.out.vs; simpa [varsGo] using this)
      go_wp2_with fail
      go_ret2
      refine ⟨by rw [HG.out]; rfl, fun _ => ?_, HF.out.gr⟩
      rw [HVD.out, HGD.out]
      exact ⟨HF.out.small, HF.out.roll, HF.out.vlen, HF.out.tab⟩
end Go.Proofs.Ytjkgkigfmcegoaa
