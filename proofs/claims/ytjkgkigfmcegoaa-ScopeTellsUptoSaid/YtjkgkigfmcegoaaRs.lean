/-
  DERIVED. The walk of the document's structs.
-/
import Derived.Test.YtjkgkigfmcegoaaRd
namespace Go.Proofs.Ytjkgkigfmcegoaa
open Go.RowKit Go.Sort Go.Maps

/-- Structs, and then fields. -/
def stGo (l : List Sr) : Int × Int := if (structsGo [] l).2 = 0 then fieldsGo (sNames l) [] (pairsFrom 0 l) else structsGo [] l
theorem structsGo_zero : ∀ (l : List Sr) (hv : List ByteArray), (structsGo hv l).2 = 0 → structsGo hv l = (0, 0)
  | [], _, _ => rfl
  | s :: r, hv, h => by
    rw [structsGo_cons] at h ⊢
    by_cases h1 : addE 8 hv s.name = 0
    · rw [if_pos h1] at h ⊢
      exact structsGo_zero r _ h
    · rw [if_neg h1] at h
      exact absurd h h1
theorem stGo_err {l : List Sr} {a b : Int} (h : structsGo [] l = (a, b)) (hb : b ≠ 0) : stGo l = (a, b) := by
  unfold stGo; rw [h]; exact if_neg hb
theorem stGo_ok {l : List Sr} (h : structsGo [] l = (0, 0)) : stGo l = fieldsGo (sNames l) [] (pairsFrom 0 l) := by
  unfold stGo; rw [h]; rfl
theorem sNames_tk (l : List Sr) (k : Nat) : sNames (l.take k) = (sNames l).take k := by simp [sNames, List.map_take]
theorem sNames_len (l : List Sr) : (sNames l).length = l.length := by simp [sNames]
theorem placeOf_take {κ : Type} [DecidableEq κ] {l : List κ} {k : Nat} {x : κ} (h : x ∈ l.take k) : placeOf l x < k ∧ isIn l x = true := by
  refine ⟨?_, isIn_iff.2 (List.mem_of_mem_take h)⟩
  unfold placeOf
  have hd : l = l.take k ++ l.drop k := (List.take_append_drop k l).symm
  rw [hd, List.idxOf_append, if_pos h]
  have := List.idxOf_lt_length_of_mem h
  rw [List.length_take] at this
  omega
theorem sIx_take {l : List ByteArray} {k : Nat} {x : ByteArray} (h : x ∈ l.take k) : sIx l x < k := by
  obtain ⟨h1, h2⟩ := placeOf_take h
  unfold sIx
  rw [h2, numOf_in h2]; simp; omega
theorem sIx_neg {l : List ByteArray} {x : ByteArray} : sIx l x < 0 ↔ isIn l x = false := by
  unfold sIx
  cases h : isIn l x
  · simp
  · rw [numOf_in h]; simp
theorem pairsFrom_split : ∀ (l : List Sr) (o i : Nat), pairsFrom o l = pairsFrom o (l.take i) ++ pairsFrom (o + i) (l.drop i)
  | [], o, i => by simp [pairsFrom]
  | s :: r, o, 0 => by simp [pairsFrom]
  | s :: r, o, i + 1 => by
    simp only [List.take_succ_cons, List.drop_succ_cons, pairsFrom, List.append_assoc]
    rw [pairsFrom_split r (o + 1) i, show o + 1 + i = o + (i + 1) by omega]
theorem pairsFrom_snoc {l : List Sr} {i : Nat} (h : i < l.length) : pairsFrom 0 (l.take (i + 1)) = pairsFrom 0 (l.take i) ++ l[i].fields.l.map (fun f => (i, f)) := by
  have h1 := pairsFrom_split l 0 i
  have h2 := pairsFrom_split l 0 (i + 1)
  rw [Nat.zero_add] at h1 h2
  rw [pairsFrom_drop h, ← List.append_assoc] at h1
  exact (List.append_cancel_right (h1.symm.trans h2)).symm
theorem pairsFrom_owner : ∀ (l : List Sr) (o : Nat) (x : Nat × Dc), x ∈ pairsFrom o l → o ≤ x.1 ∧ x.1 < o + l.length
  | [], _, x, h => by simp [pairsFrom] at h
  | s :: r, o, x, h => by
    simp only [pairsFrom, List.mem_append, List.mem_map] at h
    rcases h with ⟨f, _, rfl⟩ | h
    · simp
    · have := pairsFrom_owner r (o + 1) x h
      simp only [List.length_cons]; omega
/-- Is a name within the struct that is looked at? -/
theorem memb_in {l : List Sr} {m : List Dc} {i k : Nat} {n : ByteArray} (hi : i ≤ l.length) : (((i : Int), n) ∈ (pairsFrom 0 (l.take i) ++ (m.take k).map (fun f => (i, f))).map memb) ↔ n ∈ (dNames m).take k := by
  rw [← dNames_take]
  simp only [List.map_append, List.mem_append, List.mem_map, memb, Prod.mk.injEq, dNames]
  constructor
  · rintro (⟨x, hx, h1, h2⟩ | ⟨x, ⟨f, hf, rfl⟩, h1, h2⟩)
    · have := (pairsFrom_owner _ _ _ hx).2
      rw [List.length_take] at this
      omega
    · exact ⟨f, hf, h2⟩
  · rintro ⟨f, hf, h2⟩
    exact .inr ⟨(i, f), ⟨f, hf, rfl⟩, rfl, h2⟩
theorem fieldE_many {sn : List ByteArray} {hv : List (Int × ByteArray)} {o : Int} {f : Dc} (h : 8 ≤ hv.length) : fieldE sn hv o f = 11 := by
  unfold fieldE; rw [addE_many h]; rfl
theorem fieldE_twice {sn : List ByteArray} {hv : List (Int × ByteArray)} {o : Int} {f : Dc} (h : hv.length < 8) (hi : (o, f.name) ∈ hv) : fieldE sn hv o f = 7 := by
  unfold fieldE; rw [addE_twice h hi]; rfl
theorem fieldE_new {sn : List ByteArray} {hv : List (Int × ByteArray)} {o : Int} {f : Dc} (h : hv.length < 8) (hi : (o, f.name) ∉ hv) : fieldE sn hv o f = if f.type.toList.isEmpty = true then 9 else if isIn sn f.type = true then 0 else 8 := by
  unfold fieldE; rw [addE_new h hi, if_pos rfl]
/-- The pairs ahead of a field. -/
def ahead (l : List Sr) (m : List Dc) (i k : Nat) : List (Nat × Dc) := pairsFrom 0 (l.take i) ++ (m.take k).map (fun f => (i, f))
theorem ahead_snoc {l : List Sr} {m : List Dc} {i k : Nat} (h : k < m.length) : ahead l m i (k + 1) = ahead l m i k ++ [(i, m[k])] := by
  unfold ahead
  rw [List.take_succ_eq_append_getElem h, List.map_append, List.append_assoc]; rfl
theorem ahead_zero (l : List Sr) (m : List Dc) (i : Nat) : ahead l m i 0 = pairsFrom 0 (l.take i) := by simp [ahead]
theorem ahead_all {l : List Sr} {i : Nat} (h : i < l.length) : ahead l l[i].fields.l i l[i].fields.l.length = pairsFrom 0 (l.take (i + 1)) := by
  unfold ahead; rw [List.take_length, pairsFrom_snoc h]

/-- What the document's structs leave. -/
def RssPost (l : List Sr) (w : World) (en : Ending) (w' : World) : Prop :=
  en = .returned (.tuple #[.int .i64 (stGo l).1, .int .i64 (stGo l).2]) ∧ Below w.heap.size w w'

set_option maxHeartbeats 6400000 in
set_option maxRecDepth 100000 in
theorem refStructs_any (x : Pg) (w : World) (hx : pgLies w x) : Calls Try.prog 23 #[.agg (pval x)] w (RssPost x.structs.l w) := by
  have HX := Lib.hid hx
  have hlen : x.structs.l.length ≤ 1048576 := hx.1.1
  have HL : Hid (Lay 3 Sr.cells srLies w x.structs.p x.structs.l) := Lib.hid hx.1
  have HA : Hid (Below w.heap.size w (w.alloc (.cells (pval x) 26))) := Lib.hid ((Below.refl _ _).alloc (Nat.le_refl _) _)
  have HK : Hid (Bk (w.alloc (.cells (pval x) 26)) w.heap.size 26 (pval x)) := Lib.hid (heap_alloc_new _ _)
  have HCS : Hid (∀ (n : ByteArray) (wr : World), Below w.heap.size w wr → ∀ dd os, Calls Try.prog 25 #[.agg (pval x), .string n] (grow (redrawn wr dd) os) fun en w'' => en = .returned (.int .i64 (sIx (sNames x.structs.l) n)) ∧ ∃ p : Regrown, w'' = grow (redrawn wr p.d) p.os) := Lib.hid
    (fun n wr hb dd os => Calls.regrown_of (refStruct_any x n _ (pgLies_below (pgLies_below hx hb) (below_regrown _ _ _))))
  clear hx
  unfold pval at HA HK HCS
  go_enter Try.func23, Try.ntmps23
  go_wp2_with fail
  generalize w.alloc (.cells #[.slice x.structs.p x.structs.l.length x.structs.cap, .slice x.globals.p x.globals.l.length x.globals.cap, .slice x.procs.p x.procs.l.length x.procs.cap] 26) = wA at HA HK ⊢
  have HW : Hid (w.heap.size < wA.heap.size) := Lib.hid HK.out.lt
  have HKC : Hid (∀ wr, Below wA.heap.size wA wr → wr.cell? ⟨w.heap.size, 0, none⟩ = some (.slice x.structs.p x.structs.l.length x.structs.cap) ∧ wr.cell? ⟨w.heap.size, 1, none⟩ = some (.slice x.globals.p x.globals.l.length x.globals.cap) ∧ wr.cell? ⟨w.heap.size, 2, none⟩ = some (.slice x.procs.p x.procs.l.length x.procs.cap)) := Lib.hid (fun wr hb =>
    ⟨(hb.cell (p := ⟨w.heap.size, 0, none⟩) HW.out).trans (HK.out.cell 0), (hb.cell (p := ⟨w.heap.size, 1, none⟩) HW.out).trans (HK.out.cell 1), (hb.cell (p := ⟨w.heap.size, 2, none⟩) HW.out).trans (HK.out.cell 2)⟩)
  go_loopw [4] (fun i wr => ∃ k : Nat, i = .int .i64 k ∧ k ≤ x.structs.l.length ∧ Hid (structsGo [] x.structs.l = structsGo (sNames (x.structs.l.take k)) (x.structs.l.drop k)) ∧ Hid (Below wA.heap.size wA wr)) (fun i _ => x.structs.l.length - (intOf i).toNat)
  case atStart => exact ⟨0, rfl, Nat.zero_le _, Lib.hid rfl, Lib.hid (Below.refl _ _)⟩
  case round =>
    obtain ⟨k, rfl, hk, HG, HB⟩ := hrel
    have HBW : Hid (Below w.heap.size w wr) := Lib.hid (HA.out.trans (HB.out.mono HA.out.size))
    obtain ⟨kc0, kc1, kc2⟩ := HKC.out wr HB.out
    by_cases hkl : k < x.structs.l.length
    · obtain ⟨b, o, hp, hrg, _⟩ := HL.out.at_ hkl
      have hst : structsGo [] x.structs.l = if addE 8 (sNames (x.structs.l.take k)) x.structs.l[k].name = 0 then structsGo (sNames (x.structs.l.take k) ++ [x.structs.l[k].name]) (x.structs.l.drop (k + 1)) else (x.structs.l[k].pos, addE 8 (sNames (x.structs.l.take k)) x.structs.l[k].name) := by
        rw [HG.out, List.drop_eq_getElem_cons hkl, structsGo_cons]
      have hnx := sNames_take hkl
      have hhl : (sNames (x.structs.l.take k)).length = k := by rw [sNames_len, List.length_take]; omega
      have HDN := Lib.hid (sNames_get hkl)
      generalize hd : x.structs.l[k] = s at hrg hst hnx HDN
      clear hd
      have HST := Lib.hid hst; have HNX := Lib.hid hnx; have HHL := Lib.hid hhl; have HRG := Lib.hid hrg
      have hk0 : (0 : Int) ≤ (k : Int) := Int.natCast_nonneg _
      have hk1 : (k : Int) < (x.structs.l.length : Int) := by omega
      clear hst hnx hhl hrg
      rw [hp] at kc0
      by_cases hmany : 8 ≤ k
      · have HE : Hid (stGo x.structs.l = (s.pos, 11)) := Lib.hid (stGo_err (by rw [HST.out, addE_many (by rw [HHL.out]; exact hmany)]; rfl) (by decide))
        have d1 := cell_at (rangeAt_below HRG.out HBW.out) 1 _ rfl
        have hm' : decide ((k : Int) < 8) = false := by simp; omega
        go_wp2_with fail
        go_ret2
        exact ⟨by rw [HE.out]; rfl, HBW.out⟩
      · have hlt : k < 8 := by omega
        have d0 := cell_at (rangeAt_below HRG.out HBW.out) 0 _ rfl
        rw [Nat.add_zero] at d0
        have rd0 := cell_regrown d0
        have rk0 := cell_regrown kc0
        have rk1 := cell_regrown kc1
        have rk2 := cell_regrown kc2
        have CV := HCS.out s.name wr HBW.out
        rw [hp] at CV
        clear hmany d0
        by_cases hm : s.name ∈ (sNames x.structs.l).take k
        · have hix := sIx_take hm
          have HE : Hid (stGo x.structs.l = (s.pos, 7)) := Lib.hid (stGo_err (by rw [HST.out, addE_twice (by rw [HHL.out]; exact hlt) (by rw [sNames_tk]; exact hm)]; rfl) (by decide))
          generalize sIx (sNames x.structs.l) s.name = ix at CV hix
          go_wp2_with fail
          clear kc0 kc1 kc2
          refine wp_region_quiet_below (by kernel_rfl) (by kernel_rfl) ?_
          repeat (go_big_quiet_step (with_reducible exact CV _ _))
          refine wpQuiet_nil ?_
          intro _ hw'
          obtain ⟨⟨dq, osq⟩, hw''⟩ := hw'
          subst hw''
          have HB3 := Lib.hid (HB.out.trans ((below_regrown wr dq osq).mono HB.out.size))
          have HBW3 : Hid (Below w.heap.size w (grow (redrawn wr dq) osq)) := Lib.hid (HA.out.trans (HB3.out.mono HA.out.size))
          have d1 : (grow (redrawn wr dq) osq).cell? ⟨b, o + k * 3 + 1, none⟩ = some (.int .i64 s.pos) := cell_at (rangeAt_below HRG.out HBW3.out) 1 _ rfl
          have q0 := (HKC.out _ HB3.out).1
          rw [hp] at q0
          generalize grow (redrawn wr dq) osq = w3 at HB3 HBW3 d1 q0 ⊢
          clear rd0 rk0 rk1 rk2 CV
          go_wp2_with fail
          go_ret2
          exact ⟨by rw [HE.out]; rfl, HBW3.out⟩
        · have hix := sIx_first HDN.out hm
          rw [hix] at CV
          have HAE : Hid (addE 8 (sNames (x.structs.l.take k)) s.name = 0) := Lib.hid (addE_new (by rw [HHL.out]; exact hlt) (by rw [sNames_tk]; exact hm))
          clear hix hm
          go_wp2_with fail
          clear kc0 kc1 kc2
          refine wp_region_quiet_below (by kernel_rfl) (by kernel_rfl) ?_
          repeat (go_big_quiet_step (with_reducible exact CV _ _))
          refine wpQuiet_nil ?_
          intro _ hw'
          obtain ⟨⟨dq, osq⟩, hw''⟩ := hw'
          subst hw''
          have HB3 := Lib.hid (HB.out.trans ((below_regrown wr dq osq).mono HB.out.size))
          generalize grow (redrawn wr dq) osq = w3 at HB3 ⊢
          clear rd0 rk0 rk1 rk2 CV
          go_wp2_with fail
          go_roundw
          case rel => exact ⟨k + 1, by go_num, by omega, Lib.hid (by rw [HST.out, if_pos HAE.out, HNX.out]), HB3⟩
          case measure => simp [intOf]; omega
    · have HSZ : Hid (structsGo [] x.structs.l = (0, 0)) := Lib.hid (by rw [HG.out, List.drop_eq_nil_of_le (by omega)]; rfl)
      have HSG : Hid (stGo x.structs.l = fieldsGo (sNames x.structs.l) [] (pairsFrom 0 x.structs.l)) := Lib.hid (stGo_ok HSZ.out)
      clear HG
      go_wp2_with fail
      clear kc0 kc1 kc2 hk hkl
      obtain ⟨wo, rfl⟩ : ∃ wo : World, wo = wr := ⟨_, rfl⟩
      go_loopw [5, 6] (fun nv iv wr => ∃ i : Nat, iv = .int .i64 i ∧ i ≤ x.structs.l.length ∧ nv = .int .i64 (pairsFrom 0 (x.structs.l.take i)).length ∧ (pairsFrom 0 (x.structs.l.take i)).length ≤ 8 ∧
          Hid (fieldsGo (sNames x.structs.l) [] (pairsFrom 0 x.structs.l) = fieldsGo (sNames x.structs.l) (pairsFrom 0 (x.structs.l.take i)) (pairsFrom i (x.structs.l.drop i))) ∧ Hid (Below wA.heap.size wA wr)) (fun _ i _ => x.structs.l.length - (intOf i).toNat)
      case atStart => exact ⟨0, rfl, Nat.zero_le _, rfl, by simp [pairsFrom], Lib.hid (by simp [pairsFrom]), HB⟩
      case round =>
        clear HB HBW
        obtain ⟨i, rfl, hi, rfl, hn8, HG, HB⟩ := hrel
        have HBW : Hid (Below w.heap.size w wr) := Lib.hid (HA.out.trans (HB.out.mono HA.out.size))
        obtain ⟨kc0, kc1, kc2⟩ := HKC.out wr HB.out
        by_cases hil : i < x.structs.l.length
        · obtain ⟨b, o, hp, hrg, hsr⟩ := HL.out.at_ hil
          have HNX := Lib.hid (ahead_all hil)
          have HG1 : Hid (fieldsGo (sNames x.structs.l) [] (pairsFrom 0 x.structs.l) = fieldsGo (sNames x.structs.l) (ahead x.structs.l x.structs.l[i].fields.l i 0) (x.structs.l[i].fields.l.map (fun f => (i, f)) ++ pairsFrom (i + 1) (x.structs.l.drop (i + 1)))) := Lib.hid (by
            rw [HG.out, pairsFrom_drop hil, ahead_zero])
          have HZR : Hid (pairsFrom 0 (x.structs.l.take i) = ahead x.structs.l x.structs.l[i].fields.l i 0) := Lib.hid (ahead_zero _ _ _).symm
          have d2 := cell_at (rangeAt_below hrg HBW.out) 2 _ rfl
          have HML : Hid (Lay 3 Dc.cells dcR w x.structs.l[i].fields.p x.structs.l[i].fields.l) := Lib.hid hsr.1
          have hml : x.structs.l[i].fields.l.length ≤ 1048576 := hsr.1.1
          have hi0 : (0 : Int) ≤ (i : Int) := Int.natCast_nonneg _
          have hi1 : (i : Int) < (x.structs.l.length : Int) := by omega
          generalize x.structs.l[i].fields.l = m at d2 HML hml HNX HG1 HZR
          generalize x.structs.l[i].fields.p = mp at d2 HML
          generalize x.structs.l[i].fields.cap = mc at d2
          rw [hp] at kc0
          clear hrg hsr HG
          go_wp2_with fail
          rw [HZR.out] at hn8 ⊢
          clear kc0 kc1 kc2 d2 HZR hp
          obtain ⟨wq, rfl⟩ : ∃ wq : World, wq = wr := ⟨_, rfl⟩
          go_loopw [5, 8] (fun nv kv wr => ∃ k : Nat, kv = .int .i64 k ∧ k ≤ m.length ∧ nv = .int .i64 (ahead x.structs.l m i k).length ∧ (ahead x.structs.l m i k).length ≤ 8 ∧
              Hid (fieldsGo (sNames x.structs.l) [] (pairsFrom 0 x.structs.l) = fieldsGo (sNames x.structs.l) (ahead x.structs.l m i k) ((m.drop k).map (fun f => (i, f)) ++ pairsFrom (i + 1) (x.structs.l.drop (i + 1)))) ∧ Hid (Below wA.heap.size wA wr)) (fun _ k _ => m.length - (intOf k).toNat)
          case atStart => exact ⟨0, rfl, Nat.zero_le _, rfl, hn8, HG1, HB⟩
          case round =>
            clear HB HBW HG1 hn8
            obtain ⟨k, rfl, hk, rfl, hn8, HG, HB⟩ := hrel
            have HBW : Hid (Below w.heap.size w wr) := Lib.hid (HA.out.trans (HB.out.mono HA.out.size))
            by_cases hkl : k < m.length
            · obtain ⟨b2, o2, rfl, hrg, hdc⟩ := HML.out.at_ hkl
              have hst : fieldsGo (sNames x.structs.l) [] (pairsFrom 0 x.structs.l) = if fieldE (sNames x.structs.l) ((ahead x.structs.l m i k).map memb) i m[k] = 0 then fieldsGo (sNames x.structs.l) (ahead x.structs.l m i (k + 1)) ((m.drop (k + 1)).map (fun f => (i, f)) ++ pairsFrom (i + 1) (x.structs.l.drop (i + 1))) else (m[k].pos, fieldE (sNames x.structs.l) ((ahead x.structs.l m i k).map memb) i m[k]) := by
                rw [HG.out, pairs_drop hkl, List.cons_append, fieldsGo_cons, ahead_snoc hkl]
              have HLEN : Hid ((ahead x.structs.l m i (k + 1)).length = (ahead x.structs.l m i k).length + 1) := Lib.hid (by rw [ahead_snoc hkl]; simp)
              have HIN : Hid (∀ n, ((i : Int), n) ∈ (ahead x.structs.l m i k).map memb ↔ n ∈ (dNames m).take k) := Lib.hid (fun n => memb_in hi)
              have HDN := Lib.hid (dNames_get hkl)
              have HAT : Hid (∀ j (hj : j < m.length), w.rangeAt b2 (o2 + j * 3) (Dc.cells m[j])) := Lib.hid (fun j hj => by
                obtain ⟨b', o', he, h1, _⟩ := HML.out.at_ hj
                injection he with he
                injection he with e1 e2
                subst e1; subst e2
                exact h1)
              generalize hd : m[k] = d at hrg hdc hst HDN
              clear hd
              have HST := Lib.hid hst; have HRG := Lib.hid hrg; have HDC := Lib.hid hdc
              have hk0 : (0 : Int) ≤ (k : Int) := Int.natCast_nonneg _
              have hk1 : (k : Int) < (m.length : Int) := by omega
              have HML2 : Hid (((ahead x.structs.l m i k).map memb).length = (ahead x.structs.l m i k).length) := Lib.hid (by simp)
              generalize hnn : (ahead x.structs.l m i k).length = nn at hn8 HLEN HML2 ⊢
              have HNN := Lib.hid hnn
              clear hst hrg hdc hnn
              by_cases hmany : 8 ≤ nn
              · have HE : Hid (stGo x.structs.l = (d.pos, 11)) := Lib.hid (by rw [HSG.out, HST.out, fieldE_many (by rw [HML2.out]; exact hmany), if_neg (by decide)])
                have d2 := cell_at (rangeAt_below HRG.out HBW.out) 2 _ rfl
                have hm' : decide ((nn : Int) < 8) = false := by simp; omega
                go_wp2_with fail
                go_ret2
                exact ⟨by rw [HE.out]; rfl, HBW.out⟩
              · have hlt : nn < 8 := by omega
                clear hmany
                go_wp2_with fail
                obtain ⟨wz, rfl⟩ : ∃ wz : World, wz = wr := ⟨_, rfl⟩
                go_loopw [9] (fun jv wr => ∃ j : Nat, jv = .int .i64 j ∧ j ≤ k ∧ Hid (d.name ∉ (dNames m).take j) ∧ Hid (Below wA.heap.size wA wr)) (fun j _ => k - (intOf j).toNat)
                case atStart => exact ⟨0, rfl, Nat.zero_le _, Lib.hid (by simp), HB⟩
                case round =>
                  clear HB HBW HG
                  obtain ⟨j, rfl, hj, HN, HB⟩ := hrel
                  have HBW : Hid (Below w.heap.size w wr) := Lib.hid (HA.out.trans (HB.out.mono HA.out.size))
                  by_cases hjk : j < k
                  · have hjl : j < m.length := by omega
                    have HJN := Lib.hid (dNames_get hjl)
                    have e1 := cell_at (rangeAt_below (HAT.out j hjl) HBW.out) 1 _ rfl
                    have d1 := cell_at (rangeAt_below HRG.out HBW.out) 1 _ rfl
                    have d2 := cell_at (rangeAt_below HRG.out HBW.out) 2 _ rfl
                    generalize m[j].name = a at e1 HJN
                    have n0 : (0 : Int) ≤ (j : Int) := Int.natCast_nonneg _
                    have n1 : (j : Int) < (k : Int) := by omega
                    have n2 : (j : Int) < (m.length : Int) := by omega
                    cases he : (a.toList == d.name.toList)
                    · have HE := Lib.hid he
                      go_wp2_with fail
                      go_quiet (fail)
                      go_wp2_with fail
                      go_roundw
                      case rel => exact ⟨j + 1, by go_num, by omega, Lib.hid (take_next HJN.out HN.out HE.out), Lib.hid (below_drewN_ HB.out _)⟩
                      case measure => simp [intOf]; omega
                    · have HE : Hid (stGo x.structs.l = (d.pos, 7)) := Lib.hid (by
                        rw [eqName] at he
                        have e := of_decide_eq_true he
                        subst e
                        rw [HSG.out, HST.out, fieldE_twice (by rw [HML2.out]; exact hlt) ((HIN.out _).2 (List.mem_of_getElem? (i := j) (by rw [List.getElem?_take, if_pos hjk]; exact HJN.out))), if_neg (by decide)])
                      go_wp2_with fail
                      go_quiet (fail)
                      go_wp2_with fail
                      go_ret2
                      exact ⟨by rw [HE.out]; rfl, below_drewN_ HBW.out _⟩
                  · have hjk' : j = k := by omega
                    subst hjk'
                    have HFN : Hid (fieldE (sNames x.structs.l) ((ahead x.structs.l m i j).map memb) i d = if d.type.toList.isEmpty = true then 9 else if isIn (sNames x.structs.l) d.type = true then 0 else 8) := Lib.hid (fieldE_new (by rw [HML2.out]; exact hlt) (fun h => HN.out ((HIN.out _).1 h)))
                    have d0 := cell_at (rangeAt_below HRG.out HBW.out) 0 _ rfl
                    rw [Nat.add_zero] at d0
                    have d2 := cell_at (rangeAt_below HRG.out HBW.out) 2 _ rfl
                    cases hty : d.type.toList.isEmpty
                    · have hty' : (d.type.toList == []) = false := by cases hh : d.type.toList <;> simp_all
                      have rd0 := cell_regrown d0
                      obtain ⟨kc0, kc1, kc2⟩ := HKC.out wr HB.out
                      have rk0 := cell_regrown kc0
                      have rk1 := cell_regrown kc1
                      have rk2 := cell_regrown kc2
                      have CV := HCS.out d.type wr HBW.out
                      clear kc0 kc1 kc2
                      cases hin : isIn (sNames x.structs.l) d.type
                      · have hix : sIx (sNames x.structs.l) d.type < 0 := sIx_neg.2 hin
                        have HE : Hid (stGo x.structs.l = (d.pos, 8)) := Lib.hid (by rw [HSG.out, HST.out, HFN.out, hty, hin]; rfl)
                        generalize sIx (sNames x.structs.l) d.type = ix at CV hix
                        clear hin hty
                        go_wp2_with fail
                        refine wp_region_quiet_below (by kernel_rfl) (by kernel_rfl) ?_
                        repeat (go_big_quiet_step (with_reducible exact CV _ _))
                        refine wpQuiet_nil ?_
                        intro _ hw'
                        obtain ⟨⟨dq, osq⟩, hw''⟩ := hw'
                        subst hw''
                        have HBW3 : Hid (Below w.heap.size w (grow (redrawn wr dq) osq)) := Lib.hid (HBW.out.trans ((below_regrown wr dq osq).mono HBW.out.size))
                        have d2 : (grow (redrawn wr dq) osq).cell? ⟨b2, o2 + j * 3 + 2, none⟩ = some (.int .i64 d.pos) := cell_at (rangeAt_below HRG.out HBW3.out) 2 _ rfl
                        generalize grow (redrawn wr dq) osq = w3 at HBW3 d2 ⊢
                        clear rd0 rk0 rk1 rk2 CV d0
                        go_wp2_with fail
                        go_ret2
                        exact ⟨by rw [HE.out]; rfl, HBW3.out⟩
                      · have hix : ¬ sIx (sNames x.structs.l) d.type < 0 := fun h => by rw [sIx_neg.1 h] at hin; cases hin
                        have hix' : 0 ≤ sIx (sNames x.structs.l) d.type := by omega
                        have HE : Hid (fieldE (sNames x.structs.l) ((ahead x.structs.l m i j).map memb) i d = 0) := Lib.hid (by rw [HFN.out, hty, hin]; rfl)
                        generalize sIx (sNames x.structs.l) d.type = ix at CV hix'
                        clear hin hty hix
                        go_wp2_with fail
                        refine wp_region_quiet_below (by kernel_rfl) (by kernel_rfl) ?_
                        repeat (go_big_quiet_step (with_reducible exact CV _ _))
                        refine wpQuiet_nil ?_
                        intro _ hw'
                        obtain ⟨⟨dq, osq⟩, hw''⟩ := hw'
                        subst hw''
                        have HB3 : Hid (Below wA.heap.size wA (grow (redrawn wr dq) osq)) := Lib.hid (HB.out.trans ((below_regrown wr dq osq).mono HB.out.size))
                        generalize grow (redrawn wr dq) osq = w3 at HB3 ⊢
                        clear rd0 rk0 rk1 rk2 CV d0 d2
                        go_wp2_with fail
                        go_roundw
                        case rel => exact ⟨j + 1, by go_num, by omega, by rw [HLEN.out]; go_num, by rw [HLEN.out]; omega, Lib.hid (by rw [HST.out, if_pos HE.out]), HB3⟩
                        case measure => simp [intOf]; omega
                    · have hty' : d.type.toList = [] := by cases hh : d.type.toList <;> simp_all
                      have HE : Hid (stGo x.structs.l = (d.pos, 9)) := Lib.hid (by rw [HSG.out, HST.out, HFN.out, hty]; rfl)
                      clear hty
                      go_wp2_with fail
                      go_ret2
                      exact ⟨by rw [HE.out]; rfl, HBW.out⟩
            · have hkm : k = m.length := by omega
              subst hkm
              have HG2 : Hid (fieldsGo (sNames x.structs.l) [] (pairsFrom 0 x.structs.l) = fieldsGo (sNames x.structs.l) (pairsFrom 0 (x.structs.l.take (i + 1))) (pairsFrom (i + 1) (x.structs.l.drop (i + 1)))) := Lib.hid (by
                rw [HG.out, List.drop_length, List.map_nil, List.nil_append, HNX.out])
              rw [HNX.out] at hn8 ⊢
              go_wp2_with fail
              go_roundw
              case rel => exact ⟨i + 1, by go_num, by omega, rfl, hn8, HG2, HB⟩
              case measure => simp [intOf]; omega
        · have HE : Hid (stGo x.structs.l = (0, 0)) := Lib.hid (by rw [HSG.out, HG.out, List.drop_eq_nil_of_le (by omega)]; rfl)
          go_wp2_with fail
          go_ret2
          exact ⟨by rw [HE.out]; rfl, HBW.out⟩
end Go.Proofs.Ytjkgkigfmcegoaa
