/-
  DERIVED. The walk of all fields' addition.
-/
import Derived.Test.YtjkgkigfmcegoaaAf
namespace Go.Proofs.Ytjkgkigfmcegoaa
open Go.RowKit Go.Sort Go.Maps

theorem fieldE_ne {sn : List ByteArray} {hv : List (Int × ByteArray)} {o : Int} {f : Dc} (h : fieldE sn hv o f ≠ 0) : (fieldE sn hv o f != 0) = true := by rw [bne_iff_ne]; exact h
theorem fieldE_lt {sn : List ByteArray} {hv : List (Int × ByteArray)} {o : Int} {f : Dc} (h : fieldE sn hv o f = 0) : hv.length < 8 := by
  have h1 : addE 8 hv (o, f.name) = 0 := by
    unfold fieldE at h
    split at h
    · assumption
    · exact h
  by_cases hc : 8 ≤ hv.length
  · unfold addE at h1; rw [if_pos hc] at h1; cases h1
  · omega
theorem fieldsGo_cons (sn : List ByteArray) (hv : List (Nat × Dc)) (x : Nat × Dc) (r : List (Nat × Dc)) : fieldsGo sn hv (x :: r) = if fieldE sn (hv.map memb) x.1 x.2 = 0 then fieldsGo sn (hv ++ [x]) r else (x.2.pos, fieldE sn (hv.map memb) x.1 x.2) := by
  rw [fieldsGo]; unfold fieldE addE
  rw [List.length_map, show memb x = ((x.1 : Int), x.2.name) from rfl]
  by_cases h1 : 8 ≤ hv.length
  · simp [h1]
  · simp only [if_neg h1]
    cases h2 : isIn (hv.map memb) ((x.1 : Int), x.2.name)
    · cases h3 : x.2.type.toList.isEmpty
      · cases h4 : isIn sn x.2.type
        · simp
        · simp
      · simp
    · simp

structure FsInv (sn : List ByteArray) (l : List Sr) (M : Nat) (v : Value) (w wr : World) (pd rest : List (Nat × Dc)) : Prop where
  all : pairsFrom 0 l = pd ++ rest
  go : fieldsGo sn [] (pairsFrom 0 l) = fieldsGo sn pd rest
  small : pd.length ≤ 8
  roll : Roll byMember wr (M + 1) (pd.map memb)
  sroll : Roll byName wr M sn
  tab : ∃ e, Bk wr (M + 4) 57 (tcells M e v) ∧ wr.ownsRow w.heap.size 42 2 e (endsOf sn pd).length (pcells (endsOf sn pd))
  gr : Gr w wr (fun k => k = M + 1 ∨ k = M + 4)
theorem FsInv.fresh {sn : List ByteArray} {l : List Sr} {M : Nat} {v : Value} {w wr w' : World} {pd rest : List (Nat × Dc)} (h : FsInv sn l M v w wr pd rest) (hg : Gr wr w' (fun _ => False)) : FsInv sn l M v w w' pd rest where
  all := h.all
  go := h.go
  small := h.small
  roll := hg.roll h.roll (fun h => h)
  sroll := hg.roll h.sroll (fun h => h)
  tab := by
    obtain ⟨e, h1, h2⟩ := h.tab
    exact ⟨e, hg.bk h1 (fun h => h), own_gr h2 hg (fun _ _ _ h => h)⟩
  gr := h.gr.then hg (fun _ _ h => h.elim)
theorem endsOf_snoc (sn : List ByteArray) (pd : List (Nat × Dc)) (x : Nat × Dc) : endsOf sn (pd ++ [x]) = endsOf sn pd ++ [((x.1 : Int), numOf sn x.2.type)] := by simp [endsOf]
theorem endsOf_len (sn : List ByteArray) (pd : List (Nat × Dc)) : (endsOf sn pd).length = pd.length := by simp [endsOf]
theorem FsInv.step {sn : List ByteArray} {l : List Sr} {M : Nat} {v e : Value} {w wr w' : World} {pd rest : List (Nat × Dc)} {x : Nat × Dc} {en : Ending} (hM : M + 4 < w.heap.size) (h : FsInv sn l M v w wr pd (x :: rest)) (hO : wr.ownsRow w.heap.size 42 2 e (endsOf sn pd).length (pcells (endsOf sn pd)))
    (hp : AfPost sn (pd.map memb) x.1 x.2 M w.heap.size e v (endsOf sn pd) wr en w') (h0 : fieldE sn (pd.map memb) x.1 x.2 = 0) : FsInv sn l M v w w' (pd ++ [x]) rest where
  all := by rw [h.all]; simp
  go := by rw [h.go, fieldsGo_cons, if_pos h0]
  small := by have := fieldE_lt h0; simp at this ⊢; omega
  roll := by
    obtain ⟨e', _, h2, _⟩ := hp.2.1 h0
    rw [List.map_append]; exact h2
  sroll := hp.2.2.roll h.sroll (by
    rintro (h | h | h)
    · omega
    · omega
    · have := (hO.lt _ h.symm).1; omega)
  tab := by
    obtain ⟨e', h1, _, h3⟩ := hp.2.1 h0
    exact ⟨e', h1, by rw [endsOf_snoc]; exact h3⟩
  gr := h.gr.then hp.2.2 (by
    rintro i hi (h | h | h)
    · exact .inl h
    · exact .inr h
    · have := (hO.lt _ h.symm).1; omega)

/-- What the fields' addition leaves. -/
def FsPost (sn : List ByteArray) (l : List Sr) (M : Nat) (v : Value) (w : World) (en : Ending) (w' : World) : Prop :=
  en = .returned (.tuple #[.int .i64 (fieldsGo sn [] (pairsFrom 0 l)).1, .int .i64 (fieldsGo sn [] (pairsFrom 0 l)).2]) ∧
  ((fieldsGo sn [] (pairsFrom 0 l)).2 = 0 → FsInv sn l M v w w' (pairsFrom 0 l) []) ∧ Gr w w' (fun k => k = M + 1 ∨ k = M + 4)
theorem pairsFrom_drop {l : List Sr} {k : Nat} (h : k < l.length) : pairsFrom k (l.drop k) = l[k].fields.l.map (fun f => (k, f)) ++ pairsFrom (k + 1) (l.drop (k + 1)) := by
  rw [List.drop_eq_getElem_cons h]; rfl
theorem pairs_drop {m : List Dc} {k j : Nat} (h : j < m.length) : (m.drop j).map (fun f => (k, f)) = (k, m[j]) :: (m.drop (j + 1)).map (fun f => (k, f)) := by
  rw [List.drop_eq_getElem_cons h]; rfl

set_option maxHeartbeats 3200000 in
set_option maxRecDepth 100000 in
theorem addFields_any (p : Option Addr) (l : List Sr) (c M : Nat) (v : Value) (sn : List ByteArray) (w : World) (hM : M + 4 < w.heap.size) (hlen : l.length ≤ 1048576) (hL : ∀ wr, Gr w wr (fun k => k = M + 1 ∨ k = M + 4) → Lay 3 Sr.cells srLies wr p l)
    (hT : Bk w (M + 4) 57 (tcells M (.slice none 0 0) v)) (hS : Roll byName w M sn) (hR : Roll byMember w (M + 1) []) :
    Calls Try.prog 20 #[tptr M, .slice p l.length c] w (FsPost sn l M v w) := by
  have HI0 : Hid (FsInv sn l M v w w [] (pairsFrom 0 l)) := Lib.hid ⟨rfl, rfl, by decide, hR, hS, ⟨_, hT, World.ownsRow_nil _ _ _ _⟩, Gr.refl _ _⟩
  have HL := Lib.hid hL
  have HM := Lib.hid hM
  clear hL hT hS hR hM
  unfold tptr
  go_enter Try.func20, Try.ntmps20
  go_wp2_with fail
  go_loopw [13] (fun i wr => ∃ (k : Nat) (pd : List (Nat × Dc)), i = .int .i64 k ∧ k ≤ l.length ∧ Hid (FsInv sn l M v w wr pd (pairsFrom k (l.drop k)))) (fun i _ => l.length - (intOf i).toNat)
  case atStart => exact ⟨0, [], rfl, Nat.zero_le _, HI0⟩
  case round =>
    obtain ⟨k, pd, rfl, hk, HI⟩ := hrel
    by_cases hkl : k < l.length
    · obtain ⟨b, o, rfl, hrg, hsr⟩ := (HL.out wr HI.out.gr).at_ hkl
      obtain ⟨cs, hcs⟩ : ∃ cs : Array Value, cs = (Sr.cells l[k]).toArray := ⟨_, rfl⟩
      have HRG : Hid (wr.rangeAt b (o + k * 3) cs.toList) := Lib.hid (by rw [hcs]; exact hrg)
      have HSZ : Hid ((Try.prog.info? 44).map (·.size) = some cs.size) := Lib.hid (by rw [hcs]; exact size44)
      have HZ : Hid (3 = cs.size) := Lib.hid (by rw [hcs]; rfl)
      have HON : Hid (cs.all (·.oneCell') = true) := Lib.hid (by rw [hcs]; simp [Value.oneCell'])
      have d2 : cs[2]? = some (.slice l[k].fields.p l[k].fields.l.length l[k].fields.cap) := by rw [hcs]; rfl
      clear hcs
      have e2 : (wr.alloc (.cells cs 44)).cell? ⟨wr.heap.size, 2, none⟩ = some (.slice l[k].fields.p l[k].fields.l.length l[k].fields.cap) := (World.cell?_alloc_at _ _ _ _ rfl).trans d2
      have hml : l[k].fields.l.length ≤ 1048576 := hsr.1.1
      have HI1 : Hid (FsInv sn l M v w (wr.alloc (.cells cs 44)) pd (l[k].fields.l.map (fun f => (k, f)) ++ pairsFrom (k + 1) (l.drop (k + 1)))) := Lib.hid (by
        have := HI.out.fresh ((Gr.refl wr (fun _ => False)).alloc (.cells cs 44))
        rwa [pairsFrom_drop hkl] at this)
      have HFL : Hid (∀ wi, Gr w wi (fun k => k = M + 1 ∨ k = M + 4) → Lay 3 Dc.cells dcR wi l[k].fields.p l[k].fields.l) := Lib.hid (fun wi hi => by
        obtain ⟨_, _, _, _, h⟩ := (HL.out wi hi).at_ hkl
        exact h.1)
      generalize l[k].fields.l = m at e2 hml HI1 HFL
      generalize l[k].fields.p = mp at e2 HFL
      generalize l[k].fields.cap = mc at e2
      have hk0 : (0 : Int) ≤ (k : Int) := Int.natCast_nonneg _
      have hk1 : (k : Int) < (l.length : Int) := by omega
      clear hrg hsr d2
      go_wp2_with (first | ((with_reducible show wpList _ _ _ (Oper.mk (some 17) _ _ _ _ _ :: _) _ _); refine wpList_load_arr rfl 44 (.tmp 16) rfl b (o + k * 3) rfl cs _ HRG.out Try.underlying44 rfl HSZ.out ?_) | ((with_reducible show wpList _ _ _ (Oper.mk none (Op.store _ _ _) _ _ _ _ :: _) _ _); refine wpList_store_new rfl 44 (.tmp 7) (.tmp 17) rfl _ cs rfl rfl HSZ.out HZ.out HON.out ?_))
      generalize wr.alloc (.cells cs 44) = wB at HI1 e2 ⊢
      obtain ⟨wo, rfl⟩ : ∃ wo : World, wo = wr := ⟨_, rfl⟩
      go_loopw [21] (fun i wr => ∃ (j : Nat) (pd : List (Nat × Dc)), i = .int .i64 j ∧ j ≤ m.length ∧ Hid (FsInv sn l M v w wr pd ((m.drop j).map (fun f => (k, f)) ++ pairsFrom (k + 1) (l.drop (k + 1))))) (fun i _ => m.length - (intOf i).toNat)
      case atStart => exact ⟨0, pd, rfl, Nat.zero_le _, HI1⟩
      case round =>
        clear HI HI1 HRG HSZ HZ HON e2
        obtain ⟨j, pd, rfl, hj, HI⟩ := hrel
        by_cases hjl : j < m.length
        · obtain ⟨b2, o2, rfl, hrg, hdc⟩ := (HFL.out wr HI.out.gr).at_ hjl
          obtain ⟨e, hTe, hOe⟩ := HI.out.tab
          have hdr : (m.drop j).map (fun f => (k, f)) ++ pairsFrom (k + 1) (l.drop (k + 1)) = (k, m[j]) :: ((m.drop (j + 1)).map (fun f => (k, f)) ++ pairsFrom (k + 1) (l.drop (k + 1))) := by rw [pairs_drop hjl]; rfl
          have HI2 : Hid (FsInv sn l M v w wr pd ((k, m[j]) :: ((m.drop (j + 1)).map (fun f => (k, f)) ++ pairsFrom (k + 1) (l.drop (k + 1))))) := Lib.hid (by have := HI.out; rwa [hdr] at this)
          generalize hff : m[j] = f at hrg hdc HI2
          clear hff hdr HI
          obtain ⟨cs, hcs⟩ : ∃ cs : Array Value, cs = #[.string f.type, .string f.name, .int .i64 f.pos] := ⟨_, rfl⟩
          have HCS := Lib.hid hcs
          have HRG : Hid (wr.rangeAt b2 (o2 + j * 3) cs.toList) := Lib.hid (by rw [hcs]; exact hrg)
          have HSZ : Hid ((Try.prog.info? 46).map (·.size) = some cs.size) := Lib.hid (by rw [hcs]; exact size46)
          have HZ : Hid (3 = cs.size) := Lib.hid (by rw [hcs]; rfl)
          have HON : Hid (cs.all (·.oneCell') = true) := Lib.hid (by rw [hcs]; simp [Value.oneCell'])
          have HNB : Hid (Bk (wr.alloc (.cells cs 46)) wr.heap.size 46 cs) := Lib.hid (heap_alloc_new _ _)
          have HNF : Hid (Gr wr (wr.alloc (.cells cs 46)) (fun _ => False)) := Lib.hid ((Gr.refl _ _).alloc _)
          have HI3 : Hid (FsInv sn l M v w (wr.alloc (.cells cs 46)) pd ((k, f) :: ((m.drop (j + 1)).map (fun f => (k, f)) ++ pairsFrom (k + 1) (l.drop (k + 1))))) := Lib.hid (HI2.out.fresh HNF.out)
          have HTE : Hid (Bk (wr.alloc (.cells cs 46)) (M + 4) 57 (tcells M e v)) := Lib.hid (HNF.out.bk hTe (fun h => h))
          have HOE : Hid ((wr.alloc (.cells cs 46)).ownsRow w.heap.size 42 2 e (endsOf sn pd).length (pcells (endsOf sn pd))) := Lib.hid (own_gr hOe HNF.out (fun _ _ _ h => h))
          have HOL : Hid (∀ g, e.ownBlock = some g → g < wr.heap.size) := Lib.hid (fun g hg => (hOe.lt g hg).2)
          have HC : Hid (Calls Try.prog 35 #[tptr M, .int .i64 k, .agg #[.string f.type, .string f.name, .int .i64 f.pos]] (wr.alloc (.cells cs 46)) (AfPost sn (pd.map memb) k f M w.heap.size e v (endsOf sn pd) (wr.alloc (.cells cs 46)))) :=
            Lib.hid (addField_any k f sn _ M w.heap.size e v _ _ hdc (by omega) (by rw [endsOf_len]; have := HI3.out.small; omega) HM.out HI3.out.gr.size HTE.out HI3.out.sroll HI3.out.roll HOE.out)
          have HMw : Hid (M + 4 < wr.heap.size) := Lib.hid hTe.lt
          unfold tptr at HC
          rw [← HCS.out] at HC
          have n0 : (0 : Int) ≤ (j : Int) := Int.natCast_nonneg _
          have n1 : (j : Int) < (m.length : Int) := by omega
          have d2 : (wr.alloc (.cells cs 46)).cell? ⟨wr.heap.size, 2, none⟩ = some (.int .i64 f.pos) := (HNB.out.cell 2).trans (by rw [HCS.out]; rfl)
          have HD2 := Lib.hid d2
          clear hrg hdc hTe hOe hcs HI2 d2 HNF
          go_wp2_with (first | ((with_reducible show wpList _ _ _ (Oper.mk (some 24) _ _ _ _ _ :: _) _ _); refine wpList_load_arr rfl 46 (.tmp 23) rfl b2 (o2 + j * 3) rfl cs _ HRG.out Try.underlying46 rfl HSZ.out ?_) | ((with_reducible show wpList _ _ _ (Oper.mk none (Op.store _ _ _) _ _ _ _ :: _) _ _); refine wpList_store_new rfl 46 (.tmp 9) (.tmp 24) rfl _ cs rfl rfl HSZ.out HZ.out HON.out ?_) | ((with_reducible show wpList _ _ _ (Oper.mk (some 27) _ _ _ _ _ :: _) _ _); refine wpList_load_arr rfl 46 (.tmp 9) rfl wr.heap.size 0 rfl cs _ (fun i u hu => by rw [Nat.zero_add]; exact (HNB.out.cell i).trans (by simpa using hu)) Try.underlying46 rfl HSZ.out ?_))
          generalize wr.alloc (.cells cs 46) = wB2 at HI3 HTE HOE HC HD2 HNB ⊢
          refine HC.out.mono ?_; rintro en w2 hp
          have HP := Lib.hid hp
          obtain ⟨rfl, _, hg2⟩ := hp
          have HD3 : Hid (w2.cell? ⟨wr.heap.size, 2, none⟩ = some (.int .i64 f.pos)) := Lib.hid (by
            refine (World.cell?_of_block (a := ⟨wr.heap.size, 2, none⟩) (hg2.block _ HNB.out.lt ?_)).trans HD2.out
            rintro (h | h | h)
            · have h' : wr.heap.size = M + 1 := h; have := HMw.out; omega
            · have h' : wr.heap.size = M + 4 := h; have := HMw.out; omega
            · exact absurd (HOL.out wr.heap.size h.symm) (Nat.lt_irrefl _))
          have HGG : Hid (Gr w w2 (fun k => k = M + 1 ∨ k = M + 4)) := Lib.hid (HI3.out.gr.then hg2 (by
            rintro i hi (h | h | h)
            · exact .inl h
            · exact .inr h
            · have := (HOE.out.lt _ h.symm).1; omega))
          clear hg2
          by_cases he : fieldE sn (pd.map memb) k f = 0
          · have HX := Lib.hid he
            have HIN : Hid (FsInv sn l M v w w2 (pd ++ [(k, f)]) ((m.drop (j + 1)).map (fun f => (k, f)) ++ pairsFrom (k + 1) (l.drop (k + 1)))) := Lib.hid (HI3.out.step HM.out HOE.out HP.out he)
            rw [he]
            clear he
            go_wp2_with fail
            go_roundw
            case rel => exact ⟨j + 1, _, by go_num, by omega, HIN⟩
            case measure => simp [intOf]; omega
          · have hne := fieldE_ne he
            have HX := Lib.hid he
            have HFE : Hid (fieldsGo sn [] (pairsFrom 0 l) = (f.pos, fieldE sn (pd.map memb) k f)) := Lib.hid (by rw [HI3.out.go, fieldsGo_cons, if_neg he])
            have d2 := HD3.out
            clear he
            go_wp2_with fail
            go_ret2
            exact ⟨by rw [HFE.out]; rfl, fun h => absurd (by rw [HFE.out] at h; exact h) HX.out, HGG.out⟩
        · have HIN : Hid (FsInv sn l M v w wr pd (pairsFrom (k + 1) (l.drop (k + 1)))) := Lib.hid (by have := HI.out; rwa [List.drop_eq_nil_of_le (by omega)] at this)
          go_wp2_with fail
          go_roundw
          case rel => exact ⟨k + 1, pd, by go_num, by omega, HIN⟩
          case measure => simp [intOf]; omega
    · have HF : Hid (FsInv sn l M v w wr pd []) := Lib.hid (by have := HI.out; rwa [List.drop_eq_nil_of_le (by omega)] at this)
      have HG : Hid (fieldsGo sn [] (pairsFrom 0 l) = (0, 0)) := Lib.hid (by rw [HF.out.go]; rfl)
      have HPD : Hid (pairsFrom 0 l = pd) := Lib.hid (by have := HF.out.all; simpa using this)
      go_wp2_with fail
      go_ret2
      exact ⟨by rw [HG.out]; rfl, fun _ => by have := HF.out; rw [← HPD.out] at this; exact this, HF.out.gr⟩
end Go.Proofs.Ytjkgkigfmcegoaa
