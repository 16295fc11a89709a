/-
  DERIVED. The walk of the document's declarations.
-/
import Derived.Test.YtjkgkigfmcegoaaRf
namespace Go.Proofs.Ytjkgkigfmcegoaa
open Go.RowKit Go.Sort Go.Maps

theorem dNames_get {l : List Dc} {k : Nat} (h : k < l.length) : (dNames l)[k]? = some l[k].name := by
  simp [dNames, List.getElem?_eq_getElem h]
theorem dNames_take (l : List Dc) (k : Nat) : dNames (l.take k) = (dNames l).take k := by simp [dNames, List.map_take]
theorem dNames_len (l : List Dc) : (dNames l).length = l.length := by simp [dNames]

/-- A list's items lie in memory (a longer one). -/
def Lay2 {α : Type} (size : Nat) (cells : α → List Value) (R : World → α → Prop) (w : World) (p : Option Addr) (l : List α) : Prop :=
  l.length ≤ 4194304 ∧ (l = [] ∨ ∃ b o, p = some ⟨b, o, none⟩ ∧ ∀ k x, l[k]? = some x → w.rangeAt b (o + k * size) (cells x) ∧ R w x)
theorem Lay.two {α : Type} {size : Nat} {cells : α → List Value} {R : World → α → Prop} {w : World} {p : Option Addr} {l : List α} (h : Lay size cells R w p l) : Lay2 size cells R w p l := ⟨by have := h.1; omega, h.2⟩
theorem Lay2.at_ {α : Type} {size : Nat} {cells : α → List Value} {R : World → α → Prop} {w : World} {p : Option Addr} {l : List α} (h : Lay2 size cells R w p l) {k : Nat} (hk : k < l.length) :
    ∃ b o, p = some ⟨b, o, none⟩ ∧ w.rangeAt b (o + k * size) (cells l[k]) ∧ R w l[k] := by
  obtain ⟨_, h⟩ := h
  rcases h with h | ⟨b, o, hp, hx⟩
  · rw [h] at hk; simp at hk
  · exact ⟨b, o, hp, hx k _ (List.getElem?_eq_getElem hk)⟩
/-- What the document's declarations leave. -/
def RdsPost (sn : List ByteArray) (l : List Dc) (w : World) (en : Ending) (w' : World) : Prop :=
  en = .returned (.tuple #[.int .i64 (declsGo sn [] l).1, .int .i64 (declsGo sn [] l).2]) ∧ Below w.heap.size w w'
theorem declE_many {sn hv : List ByteArray} {d : Dc} (h : 16 ≤ hv.length) : declE sn hv d = 11 := by
  unfold declE addE; rw [if_pos h]; rfl
theorem addE_twice {κ : Type} [DecidableEq κ] {most : Nat} {l : List κ} {x : κ} (h : l.length < most) (hi : x ∈ l) : addE most l x = 7 := by
  unfold addE; rw [if_neg (by omega), if_pos (isIn_iff.2 hi)]
theorem addE_new {κ : Type} [DecidableEq κ] {most : Nat} {l : List κ} {x : κ} (h : l.length < most) (hi : x ∉ l) : addE most l x = 0 := by
  unfold addE; rw [if_neg (by omega), isIn_not.2 hi]; rfl
theorem addE_many {κ : Type} [DecidableEq κ] {most : Nat} {l : List κ} {x : κ} (h : most ≤ l.length) : addE most l x = 11 := by
  unfold addE; rw [if_pos h]
theorem declE_twice {sn hv : List ByteArray} {d : Dc} (h : hv.length < 16) (hi : d.name ∈ hv) : declE sn hv d = 7 := by
  unfold declE; rw [addE_twice h hi]; rfl
theorem declE_new {sn hv : List ByteArray} {d : Dc} (h : hv.length < 16) (hi : d.name ∉ hv) : declE sn hv d = if tyOk sn d.type = true then 0 else 8 := by
  unfold declE; rw [addE_new h hi, if_pos rfl]

set_option maxHeartbeats 3200000 in
set_option maxRecDepth 100000 in
theorem refDecls_any (x : Pg) (l : List Dc) (p : Option Addr) (c : Nat) (w : World) (hx : pgLies w x) (hL : Lay2 3 Dc.cells dcR w p l) :
    Calls Try.prog 24 #[.agg (pval x), .slice p l.length c] w (RdsPost (sNames x.structs.l) l w) := by
  have HL := Lib.hid hL
  have HX := Lib.hid hx
  have hlen : l.length ≤ 4194304 := hL.1
  have HA : Hid (Below w.heap.size w (w.alloc (.cells (pval x) 26))) := Lib.hid ((Below.refl _ _).alloc (Nat.le_refl _) _)
  have HK : Hid (Bk (w.alloc (.cells (pval x) 26)) w.heap.size 26 (pval x)) := Lib.hid (heap_alloc_new _ _)
  clear hL hx
  unfold pval at HA HK
  go_enter Try.func24, Try.ntmps24
  go_wp2_with fail
  generalize w.alloc (.cells #[.slice x.structs.p x.structs.l.length x.structs.cap, .slice x.globals.p x.globals.l.length x.globals.cap, .slice x.procs.p x.procs.l.length x.procs.cap] 26) = wA at HA HK ⊢
  have HW : Hid (w.heap.size < wA.heap.size) := Lib.hid HK.out.lt
  go_loopw [6] (fun i wr => ∃ k : Nat, i = .int .i64 k ∧ k ≤ l.length ∧ Hid (declsGo (sNames x.structs.l) [] l = declsGo (sNames x.structs.l) (dNames (l.take k)) (l.drop k)) ∧ Hid (Below wA.heap.size wA wr)) (fun i _ => l.length - (intOf i).toNat)
  case atStart => exact ⟨0, rfl, Nat.zero_le _, Lib.hid rfl, Lib.hid (Below.refl _ _)⟩
  case round =>
    obtain ⟨k, rfl, hk, HG, HB⟩ := hrel
    have HBW : Hid (Below w.heap.size w wr) := Lib.hid (HA.out.trans (HB.out.mono HA.out.size))
    by_cases hkl : k < l.length
    · obtain ⟨b, o, rfl, hrg, hdc⟩ := HL.out.at_ hkl
      have hst : declsGo (sNames x.structs.l) [] l = if declE (sNames x.structs.l) (dNames (l.take k)) l[k] = 0 then declsGo (sNames x.structs.l) (dNames (l.take k) ++ [l[k].name]) (l.drop (k + 1)) else (l[k].pos, declE (sNames x.structs.l) (dNames (l.take k)) l[k]) := by
        rw [HG.out, List.drop_eq_getElem_cons hkl, declsGo_cons]
      have hnx : dNames (l.take (k + 1)) = dNames (l.take k) ++ [l[k].name] := by rw [List.take_succ_eq_append_getElem hkl, dNames_snoc]
      have hhl : (dNames (l.take k)).length = k := by rw [dNames_len, List.length_take]; omega
      have HDN := Lib.hid (dNames_get hkl)
      have HAT : Hid (∀ j (hj : j < l.length), w.rangeAt b (o + j * 3) (Dc.cells l[j])) := Lib.hid (fun j hj => by
        obtain ⟨b', o', he, h1, _⟩ := HL.out.at_ hj
        injection he with he
        injection he with e1 e2
        subst e1; subst e2
        exact h1)
      generalize hd : l[k] = d at hrg hdc hst hnx HDN
      clear hd
      have HST := Lib.hid hst
      have HNX := Lib.hid hnx
      have HHL := Lib.hid hhl
      have HDC := Lib.hid hdc
      have HRG := Lib.hid hrg
      have hk0 : (0 : Int) ≤ (k : Int) := Int.natCast_nonneg _
      have hk1 : (k : Int) < (l.length : Int) := by omega
      clear hst hnx hhl hdc hrg
      by_cases hmany : 16 ≤ k
      · have HE : Hid (declE (sNames x.structs.l) (dNames (l.take k)) d = 11) := Lib.hid (declE_many (by rw [HHL.out]; exact hmany))
        have d2 := cell_at (rangeAt_below HRG.out HBW.out) 2 _ rfl
        have hm' : decide ((k : Int) < 16) = false := by simp; omega
        go_wp2_with fail
        go_ret2
        exact ⟨by rw [HST.out, HE.out, if_neg (by decide)]; rfl, HBW.out⟩
      · have hlt : k < 16 := by omega
        clear hmany
        go_wp2_with fail
        obtain ⟨wo, rfl⟩ : ∃ wo : World, wo = wr := ⟨_, rfl⟩
        go_loopw [7] (fun i wr => ∃ j : Nat, i = .int .i64 j ∧ j ≤ k ∧ Hid (d.name ∉ (dNames l).take j) ∧ Hid (Below wA.heap.size wA wr)) (fun i _ => k - (intOf i).toNat)
        case atStart => exact ⟨0, rfl, Nat.zero_le _, Lib.hid (by simp), HB⟩
        case round =>
          clear HB HBW
          obtain ⟨j, rfl, hj, HN, HB⟩ := hrel
          have HBW : Hid (Below w.heap.size w wr) := Lib.hid (HA.out.trans (HB.out.mono HA.out.size))
          by_cases hjk : j < k
          · have hjl : j < l.length := by omega
            have HJN := Lib.hid (dNames_get hjl)
            have e1 := cell_at (rangeAt_below (HAT.out j hjl) HBW.out) 1 _ rfl
            have d1 := cell_at (rangeAt_below HRG.out HBW.out) 1 _ rfl
            have d2 := cell_at (rangeAt_below HRG.out HBW.out) 2 _ rfl
            generalize l[j].name = a at e1 HJN
            have n0 : (0 : Int) ≤ (j : Int) := Int.natCast_nonneg _
            have n1 : (j : Int) < (k : Int) := by omega
            have n2 : (j : Int) < (l.length : Int) := by omega
            cases he : (a.toList == d.name.toList)
            · have HE := Lib.hid he
              go_wp2_with fail
              go_quiet (fail)
              go_wp2_with fail
              go_roundw
              case rel => exact ⟨j + 1, by go_num, by omega, Lib.hid (take_next HJN.out HN.out HE.out), Lib.hid (below_drewN_ HB.out _)⟩
              case measure => simp [intOf]; omega
            · have HE : Hid (declE (sNames x.structs.l) (dNames (l.take k)) d = 7) := Lib.hid (declE_twice (by rw [HHL.out]; exact hlt) (by
                rw [eqName] at he
                have e := of_decide_eq_true he
                subst e
                rw [dNames_take]
                refine List.mem_of_getElem? (i := j) ?_
                rw [List.getElem?_take]
                rw [if_pos hjk]; exact HJN.out))
              go_wp2_with fail
              go_quiet (fail)
              go_wp2_with fail
              go_ret2
              exact ⟨by rw [HST.out, HE.out, if_neg (by decide)]; rfl, below_drewN_ HBW.out _⟩
          · have hjk' : j = k := by omega
            subst hjk'
            have HNK : Hid (d.name ∉ dNames (l.take j)) := Lib.hid (by rw [dNames_take]; exact HN.out)
            have k0 := cell_regrown (w := wr) (a := ⟨w.heap.size, 0, none⟩) ((HB.out.cell (p := ⟨w.heap.size, 0, none⟩) HW.out).trans (HK.out.cell 0))
            have k1 := cell_regrown (w := wr) (a := ⟨w.heap.size, 1, none⟩) ((HB.out.cell (p := ⟨w.heap.size, 1, none⟩) HW.out).trans (HK.out.cell 1))
            have k2 := cell_regrown (w := wr) (a := ⟨w.heap.size, 2, none⟩) ((HB.out.cell (p := ⟨w.heap.size, 2, none⟩) HW.out).trans (HK.out.cell 2))
            have d0 := cell_at (rangeAt_below HRG.out HBW.out) 0 _ rfl
            rw [Nat.add_zero] at d0
            replace d0 := cell_regrown d0
            have CV : ∀ dd os, Calls Try.prog 26 #[.agg (pval x), .string d.type] (grow (redrawn wr dd) os) fun en w'' => en = .returned (.tuple #[.int .i64 (kindOf (sNames x.structs.l) d.type), .bool (tyOk (sNames x.structs.l) d.type)]) ∧ ∃ p : Regrown, w'' = grow (redrawn wr p.d) p.os :=
              fun dd os => Calls.regrown_of (refType_any x d.type _ (pgLies_below (pgLies_below HX.out HBW.out) (below_regrown _ _ _)))
            unfold pval at CV
            cases hty : tyOk (sNames x.structs.l) d.type
            · have HE : Hid (declE (sNames x.structs.l) (dNames (l.take j)) d = 8) := Lib.hid (by rw [declE_new (by rw [HHL.out]; exact hlt) HNK.out, hty]; rfl)
              rw [hty] at CV
              clear hty
              go_wp2_with fail
              refine wp_region_quiet_below (by kernel_rfl) (by kernel_rfl) ?_
              repeat (go_big_quiet_step (with_reducible exact CV _ _))
              refine wpQuiet_nil ?_
              intro _ hw'
              obtain ⟨⟨dq, osq⟩, hw''⟩ := hw'
              subst hw''
              have HB3 := Lib.hid (HBW.out.trans ((below_regrown wr dq osq).mono HBW.out.size))
              have d2 : (grow (redrawn wr dq) osq).cell? ⟨b, o + j * 3 + 2, none⟩ = some (.int .i64 d.pos) := cell_at (rangeAt_below HRG.out HB3.out) 2 _ rfl
              generalize grow (redrawn wr dq) osq = w3 at HB3 d2 ⊢
              clear k0 k1 k2 d0 CV
              go_wp2_with fail
              go_ret2
              exact ⟨by rw [HST.out, HE.out, if_neg (by decide)]; rfl, HB3.out⟩
            · have HE : Hid (declE (sNames x.structs.l) (dNames (l.take j)) d = 0) := Lib.hid (by rw [declE_new (by rw [HHL.out]; exact hlt) HNK.out, hty]; rfl)
              rw [hty] at CV
              clear hty
              go_wp2_with fail
              refine wp_region_quiet_below (by kernel_rfl) (by kernel_rfl) ?_
              repeat (go_big_quiet_step (with_reducible exact CV _ _))
              refine wpQuiet_nil ?_
              intro _ hw'
              obtain ⟨⟨dq, osq⟩, hw''⟩ := hw'
              subst hw''
              have HB3 := Lib.hid (HB.out.trans ((below_regrown wr dq osq).mono HB.out.size))
              generalize grow (redrawn wr dq) osq = w3 at HB3 ⊢
              clear k0 k1 k2 d0 CV
              go_wp2_with fail
              go_roundw
              case rel => exact ⟨j + 1, by go_num, by omega, Lib.hid (by rw [HST.out, if_pos HE.out, HNX.out]), HB3⟩
              case measure => simp [intOf]; omega
    · have HF : Hid (declsGo (sNames x.structs.l) [] l = (0, 0)) := Lib.hid (by rw [HG.out, List.drop_eq_nil_of_le (by omega)]; rfl)
      go_wp2_with fail
      go_ret2
      exact ⟨by rw [HF.out]; rfl, HBW.out⟩
end Go.Proofs.Ytjkgkigfmcegoaa
