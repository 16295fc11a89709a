/-
  Leaks, of a state that is right. The document's alike: numbers, cells, states; and the law's numbers. The document's at, value, Holds. The numbers of a list behind one's own, whatever the list's pointer (law). The document's Own, over cells that are handed in. The document's with, Own of a state, fa
-/
import Derived.Test.YtebmhadpkncgfaaDoorM05
import Derived.Deep.Cut
import Derived.Deep.AppendSrc
import Derived.Deep.Upon
set_option maxHeartbeats 40000000
set_option maxRecDepth 100000
namespace Go.Proofs.YtebmhadpkncgfaaDoor
open Go.RowKit Go.Maps Go.Sort
open Sr
def frOf (s : SV) (i : Nat) : Bool := ((s.rs[i]?).map (fun r => r.c.fr)).getD false
def leakL (fr m : Nat → Bool) (k : Nat) : List Int := ((List.range k).filter (fun i => !fr i && !m i)).map (fun i : Nat => ((i : Nat) : Int) + 1)
theorem leakL_succ (fr m : Nat → Bool) (k : Nat) : leakL fr m (k + 1) = if fr k = false ∧ m k = false then leakL fr m k ++ [(k : Int) + 1] else leakL fr m k := by
  unfold leakL
  rw [List.range_succ, List.filter_append, List.map_append]
  cases h1 : fr k <;> cases h2 : m k <;> simp [h1, h2]
theorem leakL_len (fr m : Nat → Bool) (k : Nat) : (leakL fr m k).length ≤ k := by
  unfold leakL
  rw [List.length_map]
  exact Nat.le_trans (List.length_filter_le _ _) (by simp)
theorem own_IR {w : World} {B : Nat} {v : Value} {xs : List Int} (h : w.ownsRow B 3 1 v xs.length (ints xs)) : ∃ p c, v = .slice p xs.length c ∧ IR w p xs := by
  rcases h.2 with ⟨e1, e2⟩ | ⟨g, cap, cur, rfl, h1, h2, h3, h4, h5, h6⟩
  · have : xs = [] := List.eq_nil_of_length_eq_zero e2
    subst this
    exact ⟨_, _, e1, .inl rfl⟩
  · refine ⟨_, _, rfl, .inr ⟨g, 0, rfl, fun j u hu => ?_⟩⟩
    have hb : Bk w g 3 cur := h2
    rw [Nat.zero_add, hb.cell]
    have hj : j < xs.length := by have := (List.getElem?_eq_some_iff.1 hu).1; simpa [ints] using this
    rw [← h6, List.getElem?_take, if_pos (by omega)] at hu
    simpa using hu
/-- What Leaks tells. -/
def LkP (w : World) (s : SV) (e : Ending) (w' : World) : Prop :=
  ∃ M p c, M.length = s.rs.length + 1 ∧ (∀ c, c ≠ 0 → (mk M c ↔ Rch s.vs (ttOf s) c)) ∧ e = .returned (.slice p (leakL (frOf s) (fun i => M.getD (i + 1) false) s.rs.length).length c) ∧ IR w' p (leakL (frOf s) (fun i => M.getD (i + 1) false) s.rs.length) ∧ RowKit.Below w.heap.size w w'
theorem leaks_any (g : GR) (s : SV) (w : World) (hg : Gok g) (hs : Rt g s) (hl : s.lies w) : Calls Tryd.prog 14 #[.agg g.cs, .agg s.A] w (LkP w s) := by
  obtain ⟨w2, hw2⟩ : ∃ w2, (w.alloc (.cells g.cs 30)).alloc (.cells s.A 33) = w2 := ⟨_, rfl⟩
  have HX : Hid (Bx w w2 g s) := hdn (by rw [← hw2]; exact Bx.start w g s)
  have HW := hdn hw2
  have HL : Hid (s.lies w2) := hdn (hl.below HX.out.below)
  have HR := hdn (right12_any g s w2 hg hs HL.out)
  have HLT := hdn (fun wz (hz : RowKit.Below w2.heap.size w2 wz) => ledTo_any g s wz hg hs (HL.out.below hz))
  have HG1 := hdn HX.out.gr
  have HS1 := hdn HX.out.st
  have hn := hs.n
  have hnI : (s.rs.length : Int) ≤ 2000000 := by omega
  obtain ⟨i3, hi3, hz3, hs3, hb3⟩ := i3
  have HI3 := hdn hi3
  have HZ3 := hdn hz3
  have HS3' := hdn hs3
  have HB3' := hdn hb3
  clear hw2 hl hs hg hi3 hz3 hs3 hb3
  go_enter Tryd.func14, Tryd.ntmps14
  go_upto_region 1 with fail
  rw [HW.out]
  go_upto_region 5 with (first
    | ((with_reducible show wpList _ _ _ (Oper.mk (some 9) _ _ _ _ _ :: _) _ _); refine wpList_load_bk rfl 30 _ rfl w.heap.size 30 g.cs rfl _ HG1.out Tryd.underlying30 rfl size30 ?_)
    | ((with_reducible show wpList _ _ _ (Oper.mk (some 10) _ _ _ _ _ :: _) _ _); refine wpList_load_bk rfl 33 _ rfl (w.heap.size + 1) 33 s.A rfl _ HS1.out Tryd.underlying33 rfl size33 ?_)
    | (go_at_call 12; refine HR.out.mono ?_; rintro e w3 ⟨rfl, hb3⟩; have HB3 : Hid (RowKit.Below w2.heap.size w2 w3) := hdn hb3; have HS3 : Hid (Bk w3 (w.heap.size + 1) 33 s.A) := hdn (HS1.out.below hb3 HS1.out.lt); clear hb3)
    | ((with_reducible show wpList _ _ _ (Oper.mk (some 13) _ _ _ _ _ :: _) _ _); refine wpList_load_bk rfl 33 _ rfl (w.heap.size + 1) 33 s.A rfl _ HS3.out Tryd.underlying33 rfl size33 ?_)
    | (go_at_call 42; refine (HLT.out _ HB3.out).mono ?_; rintro e w4 ⟨lr, M, rfl, m1, m2, m3, m4, m5⟩; have HB4 : Hid (RowKit.Below w2.heap.size w2 w4) := hdn (HB3.out.trans (m4.mono HB3.out.size)); have HM1 := hdn m1; have HM2 := hdn m2; have HM3 := hdn m3; clear m1 m2 m3 m4 m5))
  obtain ⟨_, ⟨_, _, _, s3⟩⟩ := HX.out.cells HB4.out
  go_wp2_with fail
  clear s3
  have HO0 : Hid (w4.ownsRow w4.heap.size 3 1 (.slice none 0 0) (leakL (frOf s) (fun i => M.getD (i + 1) false) 0).length (ints (leakL (frOf s) (fun i => M.getD (i + 1) false) 0))) := hdn (by
    have e0 : leakL (frOf s) (fun i => M.getD (i + 1) false) 0 = [] := by simp [leakL]
    rw [e0]; exact ⟨rfl, .inl ⟨rfl, rfl⟩⟩)
  have HB40 : Hid (RowKit.Below w4.heap.size w4 w4) := hdn (Below.refl _ _)
  go_loopw [6, 18] (fun v i wr => ∃ (k : Nat) (p : Option Addr) (c : Nat), i = .int .i64 k ∧ v = .slice p (leakL (frOf s) (fun i => M.getD (i + 1) false) k).length c ∧ k ≤ s.rs.length ∧ Hid (wr.ownsRow w4.heap.size 3 1 (.slice p (leakL (frOf s) (fun i => M.getD (i + 1) false) k).length c) (leakL (frOf s) (fun i => M.getD (i + 1) false) k).length (ints (leakL (frOf s) (fun i => M.getD (i + 1) false) k))) ∧ Hid (RowKit.Below w4.heap.size w4 wr)) (fun _ i _ => s.rs.length - (intOf i).toNat)
  case atStart => exact ⟨0, none, 0, rfl, by simp [leakL], Nat.zero_le _, HO0, HB40⟩
  case round =>
    obtain ⟨k, p, c, rfl, rfl, hk, HO, HB⟩ := hrel
    by_cases hkl : k < s.rs.length
    · obtain ⟨r, hr⟩ : ∃ r, s.rs[k]? = some r := ⟨_, List.getElem?_eq_getElem hkl⟩
      have HBw : Hid (RowKit.Below w2.heap.size w2 wr) := hdn (HB4.out.trans (HB.out.mono HB4.out.size))
      obtain ⟨cb, co, hcp, hit, _⟩ := (HL.out.c.below HBw.out (fun x h => RC.lies_below' h HBw.out)).at_ hr
      have d0 : wr.cell? ⟨cb, co + k * 3, none⟩ = some (.int .i64 r.c.ty) := hit 0 _ rfl
      have d1 : wr.cell? ⟨cb, co + k * 3 + 1, none⟩ = some (.bool r.c.fr) := hit 1 _ rfl
      have d2 : wr.cell? ⟨cb, co + k * 3 + 2, none⟩ = some (.slice r.q r.c.to.length r.k) := hit 2 _ rfl
      have hfr : frOf s k = r.c.fr := by unfold frOf; rw [hr]; rfl
      have HLS : Hid ((leakL (frOf s) (fun i => M.getD (i + 1) false) (k + 1)) = if r.c.fr = false ∧ M.getD (k + 1) false = false then (leakL (frOf s) (fun i => M.getD (i + 1) false) k) ++ [(k : Int) + 1] else (leakL (frOf s) (fun i => M.getD (i + 1) false) k)) := hdn (by rw [leakL_succ, hfr])
      have hll := leakL_len (frOf s) (fun i => M.getD (i + 1) false) k
      have HKB : Hid (Bk wr lr 4 (bools M).toArray) := hdn (HM1.out.below HB.out HM1.out.lt)
      have hMk : k + 1 < M.length := by rw [HM2.out]; omega
      have ck : (wr.alloc (.cells #[.int .i64 r.c.ty, .bool r.c.fr, .slice r.q r.c.to.length r.k] 85)).cell? ⟨lr, k + 1, none⟩ = some (.bool (M.getD (k + 1) false)) := by
        rw [(HKB.out.below (alloc_below wr (.cells #[.int .i64 r.c.ty, .bool r.c.fr, .slice r.q r.c.to.length r.k] 85)) HKB.out.lt).cell, List.getElem?_toArray]
        unfold bools
        rw [List.getElem?_map, List.getElem?_eq_getElem hMk, List.getD_eq_getElem?_getD, List.getElem?_eq_getElem hMk]; rfl
      have hk0 : (0 : Int) ≤ (k : Int) := Int.natCast_nonneg _
      have hk1 : (k : Int) < (s.rs.length : Int) := by omega
      have hk2 : (k : Int) + 1 < ((s.rs.length : Int) + 1) := by omega
      have hkt : ((k : Int) + 1).toNat = k + 1 := by omega
      generalize M.getD (k + 1) false = mb at ck HLS
      clear hit hr hfr
      rw [hcp]
      have hl3 : RowKit.Below w4.heap.size w4 (wr.alloc (.cells #[.int .i64 r.c.ty, .bool r.c.fr, .slice r.q r.c.to.length r.k] 85)) := HB.out.alloc HB.out.size _
      have HBA := hdn hl3
      have HOA : Hid ((wr.alloc (.cells #[.int .i64 r.c.ty, .bool r.c.fr, .slice r.q r.c.to.length r.k] 85)).ownsRow w4.heap.size 3 1 (.slice p (leakL (frOf s) (fun i => M.getD (i + 1) false) k).length c) (leakL (frOf s) (fun i => M.getD (i + 1) false) k).length (ints (leakL (frOf s) (fun i => M.getD (i + 1) false) k))) := hdn (ownsRow_keep HO.out (fun m hm => (alloc_below wr _).block m (own_lo HO.out hm).2))
      clear hl3
      generalize hLL : (leakL (frOf s) (fun i => M.getD (i + 1) false) k) = LL at *
      clear hLL
      have hLLn : LL.length + 1 ≤ 2000001 := by omega
      go_upto_region 8 with fail
      cases hf : r.c.fr with
      | true =>
        rw [hf] at ck HOA HBA d1
        have HT : Hid ((leakL (frOf s) (fun i => M.getD (i + 1) false) (k + 1)) = LL) := hdn (by rw [HLS.out, if_neg (by rw [hf]; simp)])
        clear HLS hf
        go_wp2_with fail
        go_roundw
        case rel => exact ⟨k + 1, p, c, by go_num, by rw [HT.out], by omega, hdn (by rw [HT.out]; exact HOA.out), HBA⟩
        case measure => simp [intOf]; omega
      | false =>
        rw [hf] at ck HOA HBA d1
        cases mb with
        | true =>
          have HT : Hid ((leakL (frOf s) (fun i => M.getD (i + 1) false) (k + 1)) = LL) := hdn (by rw [HLS.out, if_neg (by simp)])
          clear HLS hf
          go_wp2_with fail
          go_roundw
          case rel => exact ⟨k + 1, p, c, by go_num, by rw [HT.out], by omega, hdn (by rw [HT.out]; exact HOA.out), HBA⟩
          case measure => simp [intOf]; omega
        | false =>
          have HT : Hid ((leakL (frOf s) (fun i => M.getD (i + 1) false) (k + 1)) = LL ++ [(k : Int) + 1]) := hdn (by rw [HLS.out, if_pos ⟨hf, rfl⟩])
          clear HLS hf
          have z1 : (wr.alloc (.cells #[.int .i64 r.c.ty, .bool false, .slice r.q r.c.to.length r.k] 85)).cell? ⟨wr.heap.size, 1, none⟩ = some (.bool false) := (MapKept.heap_alloc wr _).1 |> fun (h : Bk _ _ 85 _) => h.cell 1
          generalize wr.alloc (.cells #[.int .i64 r.c.ty, .bool false, .slice r.q r.c.to.length r.k] 85) = wA at ck HOA HBA z1 ⊢
          have HOWN : Hid ((wA.alloc (.cells #[.int .i64 ((k : Int) + 1)] 3)).ownsRow w4.heap.size 3 1 (.slice p LL.length c) LL.length (ints LL)) := hdn (ownsRow_keep HOA.out (fun m hm => (alloc_below wA _).block m (own_lo HOA.out hm).2))
          have HNW : Hid (∀ j u, ([.int .i64 ((k : Int) + 1)] : List Value)[j]? = some u → (wA.alloc (.cells #[.int .i64 ((k : Int) + 1)] 3)).cell? ((⟨wA.heap.size, 0, none⟩ : Addr).add j) = some u) := hdn (fun j u hu => by
            have e : ((⟨wA.heap.size, 0, none⟩ : Addr).add j) = ⟨wA.heap.size, j, none⟩ := by rw [Addr.add_mid]; simp
            rw [e]
            exact (World.cell?_alloc_at _ _ _ _ rfl).trans (by simpa using hu))
          have H1 : Hid (∀ u ∈ ([.int .i64 ((k : Int) + 1)] : List Value), u.oneCell' = true) := hdn (by intro u hu; simp at hu; subst hu; rfl)
          have HBB : Hid (w4.heap.size ≤ (wA.alloc (.cells #[.int .i64 ((k : Int) + 1)] 3)).heap.size) := hdn (by have := HBA.out.size; simp; omega)
          have hm1 : LL.length + 1 ≤ maxLen := by unfold maxLen; omega
          have hm2 : (LL.length + 1) * 8 ≤ 140737488355328 := by omega
          go_wp2_with (first
            | (at_builtin; refine wpList_append_lies _ rfl (.tmp 34) (.tmp 37) 28 rfl w4.heap.size 3 i3 _ 1 8 Tryd.underlying28 HI3.out HZ3.out HS3'.out HB3'.out rfl (by decide) (.slice p LL.length c) LL.length (ints LL) rfl HOWN.out _ 1 1 [.int .i64 ((k : Int) + 1)] rfl rfl HNW.out H1.out (by decide) hm1 hm2 HBB.out _ rfl ?_; intro g7 cap7 w6 t1 t2 t3 t4; have HO6 := hdn t1; have HB6 : Hid (RowKit.Below w4.heap.size w4 w6) := hdn ((HBA.out.alloc HBA.out.size _).grown t2 (Nat.le_trans HBA.out.size (alloc_below wA _).size) (fun j hj => (own_lo HOWN.out hj).1)); clear t1 t2 t3 t4))
          go_roundw
          case rel => exact ⟨k + 1, some ⟨g7, 0, none⟩, cap7, by go_num, by rw [HT.out, List.length_append]; rfl, by omega, hdn (by rw [HT.out]; have := HO6.out; simpa [ints] using this), HB6⟩
          case measure => simp [intOf]; omega
    · have hke : k = s.rs.length := by omega
      obtain ⟨p', c', hv, hir⟩ := own_IR HO.out
      obtain ⟨rfl, rfl⟩ : p = p' ∧ c = c' := by injection hv with e1 e2 e3; exact ⟨e1, e3⟩
      have HF : Hid (LkP w s (.returned (.slice p (leakL (frOf s) (fun i => M.getD (i + 1) false) k).length c)) wr) := hdn ⟨M, p, c, HM2.out, HM3.out, by rw [hke], by rw [← hke]; exact hir, HX.out.below.trans ((HB4.out.trans (HB.out.mono HB4.out.size)).mono HX.out.below.size)⟩
      clear hke hv hir
      go_wp2_with fail
      go_ret
      exact HF.out
end Go.Proofs.YtebmhadpkncgfaaDoor
namespace Go.Proofs.YtebmhadpkncgfaaDoor
open Go.RowKit Go.Maps Go.Sort
open Aw.Ac (Acn Opd)
theorem ints19_any (p q : Option Addr) (l : List Int) (c d : Nat) (w : World) (h1 : IR w p l) (h2 : IR w q l) (hn : l.length ≤ 2000000) : Calls Tryd.prog 19 #[.slice p l.length c, .slice q l.length d] w (RetV w (.bool true)) := by
  have H1 := hdn h1
  have H2 := hdn h2
  have HB0 : Hid (RowKit.Below w.heap.size w w) := hdn (Below.refl _ _)
  clear h1 h2
  go_enter Tryd.func19, Tryd.ntmps19
  go_wp2_with fail
  go_loopw [5] (fun i wr => ∃ k : Nat, i = .int .i64 k ∧ k ≤ l.length ∧ Hid (RowKit.Below w.heap.size w wr)) (fun i _ => l.length - (intOf i).toNat)
  case atStart => exact ⟨0, rfl, Nat.zero_le _, HB0⟩
  case round =>
    obtain ⟨k, rfl, hk, HB⟩ := hrel
    by_cases hkl : k < l.length
    · obtain ⟨v, hv⟩ : ∃ v, l[k]? = some v := ⟨_, List.getElem?_eq_getElem hkl⟩
      obtain ⟨b, o, hp, hcv⟩ := (H1.out.below HB.out).at_ hv
      obtain ⟨b2, o2, hp2, hcv2⟩ := (H2.out.below HB.out).at_ hv
      have hk0 : (0 : Int) ≤ (k : Int) := Int.natCast_nonneg _
      have hk1 : (k : Int) < (l.length : Int) := by omega
      clear hv
      rw [hp, hp2]
      go_wp2_with fail
      go_quiet (fail)
      go_wp2_with fail
      go_roundw
      case rel => exact ⟨k + 1, by go_num, by omega, hdn (below_drewN_ HB.out _)⟩
      case measure => simp [intOf]; omega
    · go_wp2_with fail
      go_ret
      exact ⟨rfl, HB.out⟩
theorem ints13_any (p q : Option Addr) (l : List Int) (c d : Nat) (w : World) (h1 : IR w p l) (h2 : IR w q l) (hn : l.length ≤ 2000000) : Calls Tryd.prog 13 #[.slice p l.length c, .slice q l.length d] w (RetV w (.bool true)) := by
  have H1 := hdn h1
  have H2 := hdn h2
  have HB0 : Hid (RowKit.Below w.heap.size w w) := hdn (Below.refl _ _)
  clear h1 h2
  go_enter Tryd.func13, Tryd.ntmps13
  go_wp2_with fail
  go_loopw [5] (fun i wr => ∃ k : Nat, i = .int .i64 k ∧ k ≤ l.length ∧ Hid (RowKit.Below w.heap.size w wr)) (fun i _ => l.length - (intOf i).toNat)
  case atStart => exact ⟨0, rfl, Nat.zero_le _, HB0⟩
  case round =>
    obtain ⟨k, rfl, hk, HB⟩ := hrel
    by_cases hkl : k < l.length
    · obtain ⟨v, hv⟩ : ∃ v, l[k]? = some v := ⟨_, List.getElem?_eq_getElem hkl⟩
      obtain ⟨b, o, hp, hcv⟩ := (H1.out.below HB.out).at_ hv
      obtain ⟨b2, o2, hp2, hcv2⟩ := (H2.out.below HB.out).at_ hv
      have hk0 : (0 : Int) ≤ (k : Int) := Int.natCast_nonneg _
      have hk1 : (k : Int) < (l.length : Int) := by omega
      clear hv
      rw [hp, hp2]
      go_wp2_with fail
      go_quiet (fail)
      go_wp2_with fail
      go_roundw
      case rel => exact ⟨k + 1, by go_num, by omega, hdn (below_drewN_ HB.out _)⟩
      case measure => simp [intOf]; omega
    · go_wp2_with fail
      go_ret
      exact ⟨rfl, HB.out⟩
theorem rcell_at {w : World} {b o : Nat} {r : RC} {k : Nat} (h : w.rangeAt b (o + k * 3) r.cells) : w.cell? ⟨b, o + k * 3, none⟩ = some (.int .i64 r.c.ty) ∧ w.cell? ⟨b, o + k * 3 + 1, none⟩ = some (.bool r.c.fr) ∧ w.cell? ⟨b, o + k * 3 + 2, none⟩ = some (.slice r.q r.c.to.length r.k) := ⟨h 0 _ rfl, h 1 _ rfl, h 2 _ rfl⟩
theorem same20_any (p q : Option Addr) (l m : List RC) (c d : Nat) (w : World) (h : Cal w p q l m) (hn : l.length ≤ 2000000) (hF : ∀ r ∈ l, r.c.to.length ≤ 2000000) :
    Calls Tryd.prog 20 #[.slice p l.length c, .slice q l.length d] w (RetV w (.bool true)) := by
  have HC := hdn h
  have HFF := hdn hF
  have HB0 : Hid (RowKit.Below w.heap.size w w) := hdn (Below.refl _ _)
  clear h hF
  go_enter Tryd.func20, Tryd.ntmps20
  go_wp2_with fail
  go_loopw [5] (fun t wr => ∃ k : Nat, t = .int .i64 k ∧ k ≤ l.length ∧ Hid (RowKit.Below w.heap.size w wr)) (fun t _ => l.length - (intOf t).toNat)
  case atStart => exact ⟨0, rfl, Nat.zero_le _, HB0⟩
  case round =>
    obtain ⟨k, rfl, hk, HB⟩ := hrel
    by_cases hkl : k < l.length
    · obtain ⟨r, hr⟩ : ∃ r, l[k]? = some r := ⟨_, List.getElem?_eq_getElem hkl⟩
      obtain ⟨r2, hr2, he⟩ := HC.out.at_ hr
      obtain ⟨b, o, hp, hit, hl1⟩ := HC.out.one.at_ hr
      obtain ⟨b2, o2, hp2, hit2, hl2⟩ := HC.out.two.at_ hr2
      have hf := HFF.out r (List.mem_of_getElem? hr)
      have HA : Hid (∀ w', RowKit.Below w.heap.size w w' → (w'.cell? ⟨b, o + k * 3, none⟩ = some (.int .i64 r.c.ty) ∧ w'.cell? ⟨b, o + k * 3 + 1, none⟩ = some (.bool r.c.fr) ∧ w'.cell? ⟨b, o + k * 3 + 2, none⟩ = some (.slice r.q r.c.to.length r.k)) ∧
        (w'.cell? ⟨b2, o2 + k * 3, none⟩ = some (.int .i64 r.c.ty) ∧ w'.cell? ⟨b2, o2 + k * 3 + 1, none⟩ = some (.bool r.c.fr) ∧ w'.cell? ⟨b2, o2 + k * 3 + 2, none⟩ = some (.slice r2.q r.c.to.length r2.k))) := hdn (fun w' hb => ⟨rcell_at (rangeAt_below hit hb), by rw [he]; exact rcell_at (rangeAt_below hit2 hb)⟩)
      have HI1 : Hid (∀ w', RowKit.Below w.heap.size w w' → IR w' r.q r.c.to) := hdn (fun w' hb => (IR.of_lies hl1).below hb)
      have HI2 : Hid (∀ w', RowKit.Below w.heap.size w w' → IR w' r2.q r.c.to) := hdn (fun w' hb => by rw [he]; exact (IR.of_lies hl2).below hb)
      obtain ⟨⟨a0, a1, a2⟩, ⟨b0, b1, b2'⟩⟩ := HA.out wr HB.out
      have hk0 : (0 : Int) ≤ (k : Int) := Int.natCast_nonneg _
      have hk1 : (k : Int) < (l.length : Int) := by omega
      generalize r.c.to = tos at *
      generalize r.c.ty = ty at *
      generalize r.c.fr = fr at *
      clear hit hit2 hl1 hl2 hr hr2 he
      rw [hp, hp2]
      go_wp2_with fail
      go_quiet (fail)
      clear a0 a1 a2 b0 b1 b2'
      go_wp2_with fail
      rename_i nq _
      have HBQ : Hid (RowKit.Below w.heap.size w (wr.drewN nq)) := hdn (below_drewN_ HB.out _)
      generalize wr.drewN nq = wq at HBQ ⊢
      clear HB
      go_loopw [6] (fun t wr => ∃ j : Nat, t = .int .i64 j ∧ j ≤ tos.length ∧ Hid (RowKit.Below w.heap.size w wr)) (fun t _ => tos.length - (intOf t).toNat)
      case atStart => exact ⟨0, rfl, Nat.zero_le _, HBQ⟩
      case round =>
        obtain ⟨j, rfl, hj, HBJ⟩ := hrel
        obtain ⟨⟨_, _, a2⟩, ⟨_, _, b2'⟩⟩ := HA.out wr HBJ.out
        by_cases hjF : j < tos.length
        · obtain ⟨v, hv⟩ : ∃ v, tos[j]? = some v := ⟨_, List.getElem?_eq_getElem hjF⟩
          obtain ⟨q1, o1, hq1, s1⟩ := (HI1.out wr HBJ.out).at_ hv
          obtain ⟨q2, o2, hq2, s2⟩ := (HI2.out wr HBJ.out).at_ hv
          rw [hq1] at a2
          rw [hq2] at b2'
          have hj0 : (0 : Int) ≤ (j : Int) := Int.natCast_nonneg _
          have hj1 : (j : Int) < (tos.length : Int) := by omega
          clear hv hq1 hq2
          go_wp2_with fail
          go_quiet (fail)
          go_wp2_with fail
          go_roundw
          case rel => exact ⟨j + 1, by go_num, by omega, hdn (below_drewN_ HBJ.out _)⟩
          case measure => simp [intOf]; omega
        · go_wp2_with fail
          go_roundw
          case rel => exact ⟨k + 1, by go_num, by omega, HBJ⟩
          case measure => simp [intOf]; omega
    · go_wp2_with fail
      go_ret
      exact ⟨rfl, HB.out⟩
theorem same6_any (s t : SV) (h : Sal s t) (w : World) (hl : s.lies w) (ht : t.lies w) (hv : s.vs.length ≤ 2000000) (hi : s.is.length ≤ 2000000) (hn : s.rs.length ≤ 2000000) (hF : ∀ r ∈ s.rs, r.c.to.length ≤ 2000000) : Calls Tryd.prog 6 #[.agg s.A, .agg t.A] w (RetV w (.bool true)) := by
  obtain ⟨w2, hw2⟩ : ∃ w2, (w.alloc (.cells s.A 33)).alloc (.cells t.A 33) = w2 := ⟨_, rfl⟩
  have HW := hdn hw2
  have HB : Hid (RowKit.Below w.heap.size w w2) := hdn (by rw [← hw2]; exact alloc2_below _ _ _)
  obtain ⟨p0, p1, p2, p3⟩ : Z33 s w.heap.size w2 := Z33.of (by rw [← hw2]; exact alloc2_old _ _ _ _)
  obtain ⟨q0, q1, q2, q3⟩ : Z33 t (w.heap.size + 1) w2 := Z33.of (by rw [← hw2]; exact alloc2_new _ _ _ _)
  have l1 := hl.below HB.out
  have l2 := ht.below HB.out
  have E1 := hdn (fun wz (hz : RowKit.Below w2.heap.size w2 wz) => ints19_any s.vp t.vp s.vs s.vc t.vc wz (l1.v.below hz) (by rw [h.vs]; exact l2.v.below hz) hv)
  have E2 := hdn (fun wz (hz : RowKit.Below w2.heap.size w2 wz) => ints19_any s.ip t.ip s.is s.ic t.ic wz (l1.i.below hz) (by rw [h.is]; exact l2.i.below hz) hi)
  have E3 := hdn (fun wz (hz : RowKit.Below w2.heap.size w2 wz) => same20_any s.cp t.cp s.rs t.rs s.cc t.cc wz (Cal.below ⟨l1.c, l2.c, h.cs⟩ hz) hn hF)
  rw [← h.pt] at q0
  rw [← h.vs] at q1
  rw [← h.is] at q2
  rw [SV.len h.cs] at q3
  have HP : Hid (∀ wz, RowKit.Below w2.heap.size w2 wz → (wz.cell? ⟨w.heap.size, 2, none⟩ = some (.slice s.ip s.is.length s.ic) ∧ wz.cell? ⟨w.heap.size + 1, 2, none⟩ = some (.slice t.ip s.is.length t.ic)) ∧ wz.cell? ⟨w.heap.size, 3, none⟩ = some (.slice s.cp s.rs.length s.cc) ∧ wz.cell? ⟨w.heap.size + 1, 3, none⟩ = some (.slice t.cp s.rs.length t.cc)) :=
    hdn (fun wz hz => ⟨⟨at_below hz p2, at_below hz q2⟩, at_below hz p3, at_below hz q3⟩)
  clear hw2 hl ht l1 l2 h hv hi hn hF p2 q2 p3 q3
  go_enter Tryd.func6, Tryd.ntmps6
  go_upto_region 1 with fail
  rw [HW.out]
  go_wp2_with fail
  refine (E1.out _ (Below.refl _ _)).mono ?_; rintro e w3 ⟨rfl, hb3⟩
  have HB3 : Hid (RowKit.Below w2.heap.size w2 w3) := hdn hb3
  obtain ⟨⟨p2, q2⟩, _⟩ := HP.out w3 HB3.out
  clear hb3 p0 q0 p1 q1
  go_wp2_with fail
  clear p2 q2
  refine (E2.out _ HB3.out).mono ?_; rintro e w4 ⟨rfl, hb4⟩
  have HB4 : Hid (RowKit.Below w2.heap.size w2 w4) := hdn (HB3.out.trans (hb4.mono HB3.out.size))
  obtain ⟨_, p3, q3⟩ := HP.out w4 HB4.out
  clear hb4
  go_wp2_with fail
  clear p3 q3
  refine (E3.out _ HB4.out).mono ?_; rintro e w5 ⟨rfl, hb5⟩
  have HB5 : Hid (RowKit.Below w.heap.size w w5) := hdn (HB.out.trans ((HB4.out.trans (hb5.mono HB4.out.size)).mono HB.out.size))
  clear hb5
  go_wp2_with fail
  go_ret
  exact ⟨rfl, HB5.out⟩
end Go.Proofs.YtebmhadpkncgfaaDoor
namespace Go.Proofs.YtebmhadpkncgfaaDoor
open Go.RowKit Go.Maps Go.Sort
open Aw.Ac (Acn Opd)
theorem at25_any (p : Option Addr) (l : List Int) (c : Nat) (x : Int) (w : World) (h : IR w p l) : Calls Tryd.prog 25 #[.slice p l.length c, .int .i64 x] w fun e w' => e = .returned (.int .i64 (atL l x)) ∧ w = w' := by
  by_cases h0 : x < 0
  · have HR : Hid (atL l x = 0) := hdn (by unfold atL inB; rw [if_neg]; simp; omega)
    have hd : decide (x < 0) = true := decide_eq_true h0
    clear h h0
    go_enter Tryd.func25, Tryd.ntmps25
    go_wp2_with fail
    go_ret
    exact ⟨ret_int HR.out.symm, rfl⟩
  have hd : decide (x < 0) = false := decide_eq_false h0
  by_cases hb : x < l.length
  · obtain ⟨k, rfl⟩ : ∃ k : Nat, x = (k : Int) := ⟨x.toNat, by omega⟩
    have hk : k < l.length := by omega
    obtain ⟨b, o, rfl, hc⟩ := h.at_ (List.getElem?_eq_getElem hk)
    have HR : Hid (atL l (k : Int) = l[k]) := hdn (by unfold atL inB; rw [if_pos (by simp; omega)]; simp [hk])
    have hk0 : (0 : Int) ≤ (k : Int) := Int.natCast_nonneg _
    have hk1 : (k : Int) < (l.length : Int) := by omega
    have hd2 : decide ((l.length : Int) ≤ (k : Int)) = false := decide_eq_false (by omega)
    generalize l[k] = y at hc HR
    clear h h0 hb
    go_enter Tryd.func25, Tryd.ntmps25
    go_wp2_with fail
    go_ret
    exact ⟨ret_int HR.out.symm, rfl⟩
  · have HR : Hid (atL l x = 0) := hdn (by unfold atL inB; rw [if_neg]; simp; omega)
    have hd2 : decide ((l.length : Int) ≤ x) = true := decide_eq_true (by omega)
    clear h h0 hb
    go_enter Tryd.func25, Tryd.ntmps25
    go_wp2_with fail
    go_ret
    exact ⟨ret_int HR.out.symm, rfl⟩
theorem value32_any (s : SV) (o : Opd) (w : World) (hl : s.lies w) : Calls Tryd.prog 32 #[.agg s.A, .agg #[.int .i64 o.v, .int .i64 o.n]] w (RetV w (.int .i64 (numL s.is o))) := by
  obtain ⟨v, n⟩ := o
  obtain ⟨w2, hw2⟩ : ∃ w2, (w.alloc (.cells s.A 33)).alloc (.cells #[.int .i64 v, .int .i64 n] 41) = w2 := ⟨_, rfl⟩
  have HW := hdn hw2
  have HB : Hid (RowKit.Below w.heap.size w w2) := hdn (by rw [← hw2]; exact alloc2_below _ _ _)
  obtain ⟨p0, p1, p2, p3⟩ : Z33 s w.heap.size w2 := Z33.of (by rw [← hw2]; exact alloc2_old _ _ _ _)
  have hq : Bk w2 (w.heap.size + 1) 41 #[.int .i64 v, .int .i64 n] := by rw [← hw2]; exact alloc2_new _ _ _ _
  have q0 : w2.cell? ⟨w.heap.size + 1, 0, none⟩ = some (.int .i64 v) := hq.cell 0
  have q1 : w2.cell? ⟨w.heap.size + 1, 1, none⟩ = some (.int .i64 n) := hq.cell 1
  have HV := hdn (at25_any s.ip s.is s.ic v w2 (hl.i.below HB.out))
  have HN : Hid (numL s.is ⟨v, n⟩ = if v < 0 then n else atL s.is v) := hdn rfl
  clear hl hw2 hq p0 p1 p3
  by_cases hv : v < 0
  · have hd : decide (v < 0) = true := decide_eq_true hv
    rw [if_pos hv] at HN
    clear hv HV
    go_enter Tryd.func32, Tryd.ntmps32
    go_upto_region 1 with fail
    rw [HW.out]
    go_wp2_with fail
    go_ret
    exact ⟨ret_int HN.out.symm, HB.out⟩
  · have hd : decide (v < 0) = false := decide_eq_false hv
    rw [if_neg hv] at HN
    clear hv
    go_enter Tryd.func32, Tryd.ntmps32
    go_upto_region 1 with fail
    rw [HW.out]
    go_wp2_with (go_at_call 25; refine HV.out.mono ?_; rintro e w' ⟨rfl, rfl⟩)
    go_ret
    exact ⟨ret_int HN.out.symm, HB.out⟩
theorem holds11_any (s : SV) (a : Acn) (inp : Int) (w : World) (hl : s.lies w) : Calls Tryd.prog 11 #[.agg s.A, .agg a.cs, .int .i64 inp] w (RetV w (.bool (holdsB s a inp))) := by
  obtain ⟨w2, hw2⟩ : ∃ w2, (w.alloc (.cells s.A 33)).alloc (.cells a.cs 43) = w2 := ⟨_, rfl⟩
  have HW := hdn hw2
  have HB : Hid (RowKit.Below w.heap.size w w2) := hdn (by rw [← hw2]; exact alloc2_below _ _ _)
  have HS : Hid (Bk w2 w.heap.size 33 s.A) := hdn (by rw [← hw2]; exact alloc2_old _ _ _ _)
  have HA : Hid (Bk w2 (w.heap.size + 1) 43 a.cs) := hdn (by rw [← hw2]; exact alloc2_new _ _ _ _)
  have HL : Hid (s.lies w2) := hdn (hl.below HB.out)
  have CV := fun x => qb_call (wB := w2) (F := 25) (ar := #[.slice s.vp s.vs.length s.vc, .int .i64 x]) (v := .int .i64 (atL s.vs x)) (fun wr hb' => (at25_any s.vp s.vs s.vc x wr (HL.out.v.below hb')).mono (fun e w' he => ⟨he.1, same_below he.2⟩))
  have CN := fun (o : Opd) (wz : World) (hz : RowKit.Below w2.heap.size w2 wz) => qb_call (wB := wz) (F := 32) (ar := #[.agg s.A, .agg #[.int .i64 o.v, .int .i64 o.n]]) (v := .int .i64 (numL s.is o)) (fun wr hb' => value32_any s o wr ((HL.out.below hz).below hb'))
  have HX := hdn (CV a.x)
  have HY := hdn (CV a.y)
  have HLL := hdn (CN a.l)
  have HRR := hdn (CN a.r)
  have HR : Hid (holdsB s a inp = if a.kind = 8 then ((atL s.vs a.x == atL s.vs a.y) == a.sense) else if a.kind = 9 then ((inp != 0) == a.sense) else if a.kind = 12 then (cmpB a.op (numL s.is a.l) (numL s.is a.r) == a.sense) else true) := hdn rfl
  have q0 : w2.cell? ⟨w.heap.size + 1, 0, none⟩ = some (.int .i64 a.kind) := HA.out.cell 0
  have q1 : w2.cell? ⟨w.heap.size + 1, 1, none⟩ = some (.int .i64 a.x) := HA.out.cell 1
  have q2 : w2.cell? ⟨w.heap.size + 1, 2, none⟩ = some (.int .i64 a.y) := HA.out.cell 2
  have q6 : w2.cell? ⟨w.heap.size + 1, 6, none⟩ = some (.int .i64 a.op) := HA.out.cell 6
  have q7 : w2.cell? ⟨w.heap.size + 1, 7, none⟩ = some (.int .i64 a.l.v) := HA.out.cell 7
  have q8 : w2.cell? ⟨w.heap.size + 1, 8, none⟩ = some (.int .i64 a.l.n) := HA.out.cell 8
  have q9 : w2.cell? ⟨w.heap.size + 1, 9, none⟩ = some (.int .i64 a.r.v) := HA.out.cell 9
  have q10 : w2.cell? ⟨w.heap.size + 1, 10, none⟩ = some (.int .i64 a.r.n) := HA.out.cell 10
  have HQ11 : Hid (∀ wz, RowKit.Below w2.heap.size w2 wz → wz.cell? ⟨w.heap.size + 1, 11, none⟩ = some (.bool a.sense)) := hdn (fun wz hz => at_below hz (HA.out.cell 11))
  have s0 : w2.cell? ⟨w.heap.size, 0, none⟩ = some (.int .i64 s.pt) := HS.out.cell 0
  have s1 : w2.cell? ⟨w.heap.size, 1, none⟩ = some (.slice s.vp s.vs.length s.vc) := HS.out.cell 1
  have s2 : w2.cell? ⟨w.heap.size, 2, none⟩ = some (.slice s.ip s.is.length s.ic) := HS.out.cell 2
  have s3 : w2.cell? ⟨w.heap.size, 3, none⟩ = some (.slice s.cp s.rs.length s.cc) := HS.out.cell 3
  have HSA : Hid (s.A = #[.int .i64 s.pt, .slice s.vp s.vs.length s.vc, .slice s.ip s.is.length s.ic, .slice s.cp s.rs.length s.cc]) := hdn rfl
  rw [HSA.out] at HLL HRR
  generalize holdsB s a inp = RR at *
  have HCM : Hid (cmpB a.op (numL s.is a.l) (numL s.is a.r) = if a.op = 0 then (numL s.is a.l == numL s.is a.r) else decide (numL s.is a.l < numL s.is a.r)) := hdn rfl
  generalize cmpB a.op (numL s.is a.l) (numL s.is a.r) = cm at *
  generalize numL s.is a.l = nl at *
  generalize numL s.is a.r = nr at *
  generalize atL s.vs a.x = vx at *
  generalize atL s.vs a.y = vy at *
  clear CV CN hl hw2 HS HA
  by_cases h8 : a.kind = 8
  · have HV0 : Hid (RR = ((vx == vy) == a.sense)) := hdn (by rw [HR.out, if_pos h8])
    have e8 : (a.kind == 8) = true := by simpa using h8
    clear h8
    go_enter Tryd.func11, Tryd.ntmps11
    go_upto_region 1 with fail
    rw [HW.out]
    go_wp2_with fail
    have cX := HX.out
    have cY := HY.out
    have p1 := cell_regrown q1; have p2 := cell_regrown q2; have p12 := cell_regrown s1
    refine wp_region_quiet_below (by kernel_rfl) (by kernel_rfl) ?_
    repeat (go_big_quiet_step (first | (with_reducible exact cX _ _) | (with_reducible exact cY _ _)))
    refine wpQuiet_nil ?_
    intro _ hw'
    obtain ⟨⟨dz, osz⟩, hw''⟩ := hw'
    subst hw''
    have HB4 : Hid (RowKit.Below w2.heap.size w2 (grow (redrawn w2 dz) osz)) := hdn (below_regrown w2 dz osz)
    generalize grow (redrawn w2 dz) osz = w5 at HB4 ⊢
    have p11 := HQ11.out w5 HB4.out
    clear cX cY p1 p2 p12
    go_wp2_with fail
    go_ret
    exact ⟨ret_bool HV0.out.symm, HB.out.trans (HB4.out.mono HB.out.size)⟩
  have e8 : (a.kind == 8) = false := by simpa using h8
  by_cases h9 : a.kind = 9
  · have HV0 : Hid (RR = ((inp != 0) == a.sense)) := hdn (by rw [HR.out, if_neg h8, if_pos h9])
    have e9 : (a.kind == 9) = true := by simpa using h9
    have p11 := HQ11.out w2 (RowKit.Below.refl _ _)
    clear h8 h9
    go_enter Tryd.func11, Tryd.ntmps11
    go_upto_region 1 with fail
    rw [HW.out]
    go_wp2_with fail
    go_ret
    exact ⟨ret_bool HV0.out.symm, HB.out⟩
  have e9 : (a.kind == 9) = false := by simpa using h9
  by_cases h12 : a.kind = 12
  · have HV0 : Hid (RR = (cm == a.sense)) := hdn (by rw [HR.out, if_neg h8, if_neg h9, if_pos h12])
    have e12 : (a.kind == 12) = true := by simpa using h12
    clear h8 h9 h12
    by_cases ho : a.op = 0
    · have HV1 : Hid (RR = ((nl == nr) == a.sense)) := hdn (by rw [HV0.out, HCM.out, if_pos ho])
      have eo : (a.op == 0) = true := by simpa using ho
      clear HCM HV0 ho
      have HP6 : Hid (∀ wz, RowKit.Below w2.heap.size w2 wz → wz.cell? ⟨w.heap.size + 1, 6, none⟩ = some (.int .i64 a.op)) := hdn (fun wz hz => at_below hz q6)
      go_enter Tryd.func11, Tryd.ntmps11
      go_upto_region 1 with fail
      rw [HW.out]
      go_wp2_with fail
      have cX := HLL.out w2 (RowKit.Below.refl _ _)
      have cY := HRR.out w2 (RowKit.Below.refl _ _)
      have p2 := cell_regrown q7; have p3 := cell_regrown q8; have p4 := cell_regrown q9; have p5 := cell_regrown q10
      have r0 := cell_regrown s0; have r1 := cell_regrown s1; have r2 := cell_regrown s2; have r3 := cell_regrown s3
      refine wp_region_quiet_below (by kernel_rfl) (by kernel_rfl) ?_
      repeat (go_big_quiet_step (first | (with_reducible exact cX _ _) | (with_reducible exact cY _ _)))
      refine wpQuiet_nil ?_
      intro _ hw'
      obtain ⟨⟨dz, osz⟩, hw''⟩ := hw'
      subst hw''
      have HB4 : Hid (RowKit.Below w2.heap.size w2 (grow (redrawn w2 dz) osz)) := hdn (below_regrown w2 dz osz)
      generalize grow (redrawn w2 dz) osz = w5 at HB4 ⊢
      have p11 := HQ11.out w5 HB4.out
      have p6 := HP6.out w5 HB4.out
      clear cX cY p2 p3 p4 p5 r0 r1 r2 r3
      go_wp2_with fail
      go_ret
      exact ⟨ret_bool HV1.out.symm, HB.out.trans (HB4.out.mono HB.out.size)⟩
    · have HV1 : Hid (RR = (decide (nl < nr) == a.sense)) := hdn (by rw [HV0.out, HCM.out, if_neg ho])
      have eo : (a.op == 0) = false := by simpa using ho
      clear HCM HV0 ho
      have HP6 : Hid (∀ wz, RowKit.Below w2.heap.size w2 wz → wz.cell? ⟨w.heap.size + 1, 6, none⟩ = some (.int .i64 a.op)) := hdn (fun wz hz => at_below hz q6)
      go_enter Tryd.func11, Tryd.ntmps11
      go_upto_region 1 with fail
      rw [HW.out]
      go_wp2_with fail
      have HF : Hid (∀ wz, RowKit.Below w2.heap.size w2 wz → (wz.cell? ⟨w.heap.size + 1, 7, none⟩ = some (.int .i64 a.l.v) ∧ wz.cell? ⟨w.heap.size + 1, 8, none⟩ = some (.int .i64 a.l.n) ∧ wz.cell? ⟨w.heap.size + 1, 9, none⟩ = some (.int .i64 a.r.v) ∧ wz.cell? ⟨w.heap.size + 1, 10, none⟩ = some (.int .i64 a.r.n)) ∧
          wz.cell? ⟨w.heap.size, 0, none⟩ = some (.int .i64 s.pt) ∧ wz.cell? ⟨w.heap.size, 1, none⟩ = some (.slice s.vp s.vs.length s.vc) ∧ wz.cell? ⟨w.heap.size, 2, none⟩ = some (.slice s.ip s.is.length s.ic) ∧ wz.cell? ⟨w.heap.size, 3, none⟩ = some (.slice s.cp s.rs.length s.cc)) := hdn (fun wz hz => ⟨⟨at_below hz q7, at_below hz q8, at_below hz q9, at_below hz q10⟩, at_below hz s0, at_below hz s1, at_below hz s2, at_below hz s3⟩)
      have cX := HLL.out w2 (RowKit.Below.refl _ _)
      have cY := HRR.out w2 (RowKit.Below.refl _ _)
      have p2 := cell_regrown q7; have p3 := cell_regrown q8; have p4 := cell_regrown q9; have p5 := cell_regrown q10
      have r0 := cell_regrown s0; have r1 := cell_regrown s1; have r2 := cell_regrown s2; have r3 := cell_regrown s3
      refine wp_region_quiet_below (by kernel_rfl) (by kernel_rfl) ?_
      repeat (go_big_quiet_step (first | (with_reducible exact cX _ _) | (with_reducible exact cY _ _)))
      refine wpQuiet_nil ?_
      intro _ hw'
      obtain ⟨⟨dz, osz⟩, hw''⟩ := hw'
      subst hw''
      have HB4 : Hid (RowKit.Below w2.heap.size w2 (grow (redrawn w2 dz) osz)) := hdn (below_regrown w2 dz osz)
      generalize grow (redrawn w2 dz) osz = w5 at HB4 ⊢
      have p6 := HP6.out w5 HB4.out
      clear cX cY p2 p3 p4 p5 r0 r1 r2 r3
      go_wp2_with fail
      obtain ⟨⟨q7, q8, q9, q10⟩, s0, s1, s2, s3⟩ := HF.out w5 HB4.out
      have cX := HLL.out w5 HB4.out
      have cY := HRR.out w5 HB4.out
      have p2 := cell_regrown q7; have p3 := cell_regrown q8; have p4 := cell_regrown q9; have p5 := cell_regrown q10
      have r0 := cell_regrown s0; have r1 := cell_regrown s1; have r2 := cell_regrown s2; have r3 := cell_regrown s3
      refine wp_region_quiet_below (by kernel_rfl) (by kernel_rfl) ?_
      repeat (go_big_quiet_step (first | (with_reducible exact cX _ _) | (with_reducible exact cY _ _)))
      refine wpQuiet_nil ?_
      intro _ hw'
      obtain ⟨⟨dz2, osz2⟩, hw''⟩ := hw'
      subst hw''
      have HB5 : Hid (RowKit.Below w2.heap.size w2 (grow (redrawn w5 dz2) osz2)) := hdn (HB4.out.trans ((below_regrown w5 dz2 osz2).mono HB4.out.size))
      generalize grow (redrawn w5 dz2) osz2 = w6 at HB5 ⊢
      have p11 := HQ11.out w6 HB5.out
      clear cX cY p2 p3 p4 p5 r0 r1 r2 r3
      go_wp2_with fail
      go_ret
      exact ⟨ret_bool HV1.out.symm, HB.out.trans (HB5.out.mono HB.out.size)⟩
  · have HV0 : Hid (RR = true) := hdn (by rw [HR.out, if_neg h8, if_neg h9, if_neg h12])
    have e12 : (a.kind == 12) = false := by simpa using h12
    clear h8 h9 h12
    go_enter Tryd.func11, Tryd.ntmps11
    go_upto_region 1 with fail
    rw [HW.out]
    go_wp2_with fail
    go_ret
    exact ⟨ret_bool HV0.out.symm, HB.out⟩
end Go.Proofs.YtebmhadpkncgfaaDoor
namespace Go.Proofs.YtebmhadpkncgfaaDoor
open Go.RowKit Go.Maps Go.Sort
open Aw.Ac (Acn Opd)
theorem run_app_none {P : Program} {w : World} (base : Nat) (t ty e : TypeId) (i : TypeInfo) (size : Nat) (ht : P.underlying t = some (.slice e)) (hi : P.info? e = some i)
    (v : Value) (n : Nat) (xs : List Value) (hown : w.ownsRow base e size v n xs) (c : Nat) :
    (Builtin.append_ #[t, t] ty #[v, .slice none 0 c]).run P w = .ok v w := by
  rcases hown.2 with ⟨rfl, rfl⟩ | ⟨g, cap, cur, rfl, _, _, hnc, _⟩
  · simp [Builtin.append_, run_underlying ht, sizeOf, typeInfo, hi, Builtin.lenOf, Builtin.firstCells]
  · simp [Builtin.append_, run_underlying ht, sizeOf, typeInfo, hi, Builtin.lenOf, Builtin.firstCells, hnc, storeCells]
theorem wpList_app_ir {w : World} {ops : Array Oper} {rest : List Oper} {o : Oper} {a : Act} {Q : Exit → Act → World → Prop} (hgd : o.guard = none) (s x : Operand)
    (ho : o.op = .call { callee := .builtin .append, args := #[s, x], argTypes := #[28, 28] })
    (v : Value) (n : Nat) (xs : List Value) (hs : a.eval s = v) (hown : w.ownsRow 0 3 1 v n xs) (p : Option Addr) (l : List Int) (c m : Nat) (hm : l.length = m) (hx : a.eval x = .slice p m c) (hl : IR w p l)
    (hn : n + m ≤ 4000000)
    (h : ∀ v' w', Hid (w'.ownsRow 0 3 1 v' (n + m) (xs ++ Go.Proofs.YtebmhadpkncgfaaDoor.ints l)) → Hid (w.grownBy w' v.ownBlock) → Hid (v' = .slice none 0 0 ↔ v = .slice none 0 0 ∧ m = 0) → Hid (v'.ownBlock = v.ownBlock ∨ v'.ownBlock = some w.heap.size) → wpList Tryd.prog ops Q rest (a.put o.dst v') w') :
    wpList Tryd.prog ops Q (o :: rest) a w := by
  subst hm
  obtain ⟨i, hi, hz, hsz, hb⟩ := i3
  have h1 : ∀ u ∈ Go.Proofs.YtebmhadpkncgfaaDoor.ints l, u.oneCell' = true := by intro v hv; obtain ⟨x, _, rfl⟩ := List.mem_map.1 hv; rfl
  cases p with
  | some ad =>
    have hnews : ∀ j u, (Go.Proofs.YtebmhadpkncgfaaDoor.ints l)[j]? = some u → w.cell? (ad.add j) = some u := fun j u hu => by
      rcases hl with rfl | ⟨b, o, hp, hr⟩
      · simp [Go.Proofs.YtebmhadpkncgfaaDoor.ints] at hu
      · injection hp with hp; subst hp
        rw [Addr.add_mid]; exact hr j u hu
    exact wpList_append_own_at _ hgd s x 28 ho 0 3 i _ 1 8 Tryd.underlying28 hi hz hsz hb rfl (by decide) v n xs hs hown ad l.length c (Go.Proofs.YtebmhadpkncgfaaDoor.ints l) hx (by simp [Go.Proofs.YtebmhadpkncgfaaDoor.ints]) hnews h1 (by unfold maxLen; omega) (by omega) (Nat.zero_le _)
      (fun v' w' a1 a2 a3 a4 => h v' w' (hdn a1) (hdn a2) (hdn a3) (hdn a4))
  | none =>
    have hle : l = [] := by
      rcases hl with h | ⟨_, _, h, _⟩
      · exact h
      · cases h
    subst hle
    refine wpList_plain hgd fun K hK => ?_
    have hr := run_app_none (P := Tryd.prog) (w := w) 0 28 o.type 3 i 1 Tryd.underlying28 hi v n xs hown c
    unfold Oper.wp execOp
    simp only [ho, resolve, invoke, builtin, Sem.run_bind, Sem.run_pure, Result.andThen_ok, List.map_toArray, List.map_cons, List.map_nil, hs, hx, List.length_nil, hr]
    exact hK _ _ (h v w (hdn (by simpa [Go.Proofs.YtebmhadpkncgfaaDoor.ints] using hown)) (hdn ⟨rfl, rfl, rfl, Nat.le_refl _, fun _ _ _ => rfl⟩) (hdn (by simp)) (hdn (.inl rfl)))
end Go.Proofs.YtebmhadpkncgfaaDoor
namespace Go.Proofs.YtebmhadpkncgfaaDoor
open Go.RowKit Go.Maps
/-- Cells as they were made lie as what is handed in does. -/
theorem OutR.rcs {F : Nat} {w : World} {N : Nat → Prop} {v : Value} {cs : List PC} (h : OutR F w N v cs) (hok : ∀ c ∈ cs, c.ok) : ∃ (p : Option Addr) (cap : Nat) (rs : List RC), v = .slice p rs.length cap ∧ rs.map RC.c = cs ∧ LayR 3 RC.cells RC.lies w p rs := by
  obtain ⟨p, cap, hv, hN, hx⟩ := h
  obtain ⟨f, hf⟩ := choose_lt (n := cs.length) (p := fun i (r : RC) => ∃ x, cs[i]? = some x ∧ r.c = x ∧ ∃ g, p = some ⟨g, 0, none⟩ ∧ w.rangeAt g (i * 3) r.cells ∧ r.lies w) ⟨⟨0, false, []⟩, none, 0⟩ (fun i hi => by
    have hi' : cs[i]? = some cs[i] := List.getElem?_eq_getElem hi
    obtain ⟨g, q, o, cq, h1, _, _, h4, h5, h6⟩ := hx i _ hi'
    exact ⟨⟨cs[i], some ⟨q, o, none⟩, cq⟩, cs[i], hi', rfl, g, h1, by unfold RC.cells; rw [h6]; exact h4, .inr ⟨q, o, rfl, h5⟩, hok _ (List.getElem_mem hi)⟩)
  refine ⟨p, cap, (List.range cs.length).map f, by simpa using hv, ?_, ?_⟩
  · refine List.ext_getElem? fun i => ?_
    by_cases hi : i < cs.length
    · obtain ⟨x, hx, he, _⟩ := hf i hi
      simp [List.getElem?_range hi, he, hx]
    · rw [List.getElem?_eq_none (by simpa using hi), List.getElem?_eq_none (by omega)]
  · by_cases h0 : cs.length = 0
    · left; simp [h0]
    · obtain ⟨_, _, _, g, hp, _⟩ := hf 0 (by omega)
      refine .inr ⟨g, 0, hp, fun k r hk => ?_⟩
      have hk2 : k < cs.length := by
        have := (List.getElem?_eq_some_iff.1 hk).1; simpa using this
      rw [List.getElem?_map, List.getElem?_range hk2] at hk
      injection hk with hk; subst hk
      obtain ⟨x, hx, he, g', hp', hr, hl⟩ := hf k hk2
      obtain rfl : g' = g := by rw [hp'] at hp; injection hp with e; injection e
      exact ⟨by rw [Nat.zero_add]; exact hr, hl⟩
namespace O2
/-- A heap of the document as Own's own argument. -/
abbrev RefA (_ : Nat) (v : Value) : Array Value := #[.int .i64 0, v, .bool false]
/-- A copy under way. -/
structure OwnI (F : Nat) (w wr : World) (v vo : Value) (Ro : Nat → Prop) (xs : List PC) : Prop where
  box : Bk wr w.heap.size 59 (RefA F v)
  res : Bk wr (w.heap.size + 1) 59 #[.int .i64 0, .slice none 0 0, .bool false]
  out : Bk wr (w.heap.size + 1 + 1) 59 (RefA F vo)
  lie : (CellK F).Lie wr Ro vo xs
  new : ∀ b, Ro b → w.heap.size + 3 ≤ b
  below : Below w.heap.size w wr
/-- The item's block, while a copy is made of it. -/
structure OwnC (F : Nat) (w wr w4 : World) (v vo : Value) (Ro : Nat → Prop) (xs : List PC) (x : PC) (q' : Value) : Prop where
  own : OwnI F w w4 v vo Ro xs
  item : Bk w4 wr.heap.size 85 #[.int .i64 x.ty, .bool x.fr, q']
  sub : (CellK F).sub w4 x q'
  far : ∀ m, q'.ownBlock = some m → wr.heap.size < m
  old : ∀ k, Ro k → k < wr.heap.size
  base : w.heap.size + 3 ≤ wr.heap.size
theorem own_copy {F : Nat} {w wr w3 : World} {v vo : Value} {Ro : Nat → Prop} {xs : List PC} {x : PC} {q q' : Value} (h : OwnI F w wr v vo Ro xs) (hl : x.to.length = F)
    (hown : w3.ownsRow 0 3 1 q' (0 + F) ([] ++ ints x.to)) (hg : ((wr.alloc (.cells #[.int .i64 x.ty, .bool x.fr, q] 85)).alloc (.cells #[] 3)).grownBy w3 (some (wr.heap.size + 1))) (hn : q' ≠ .slice none 0 0) (hat : q'.ownBlock = some (wr.heap.size + 1) ∨ q'.ownBlock = some (wr.heap.size + 1 + 1)) :
    Bk w3 wr.heap.size 85 #[.int .i64 x.ty, .bool x.fr, q] ∧ OwnC F w wr (w3.setCell ⟨wr.heap.size, 2, none⟩ q') v vo Ro xs x q' := by
  have b1 : Bk (wr.alloc (.cells #[.int .i64 x.ty, .bool x.fr, q] 85)) wr.heap.size 85 #[.int .i64 x.ty, .bool x.fr, q] := (MapKept.heap_alloc wr _).1
  have b2 := b1.below (alloc_below _ (.cells #[] 3)) b1.lt
  have b3 : Bk w3 wr.heap.size 85 #[.int .i64 x.ty, .bool x.fr, q] := (hg.block _ b2.lt (by intro e; injection e with e; omega)).trans b2
  have hb3 : Below wr.heap.size wr w3 := ((((Below.refl _ _).alloc (Nat.le_refl _) _).alloc (by simp) _).grown hg (by simp; omega) (fun j hj => by injection hj with hj; omega))
  have hb4 : Below wr.heap.size wr (w3.setCell ⟨wr.heap.size, 2, none⟩ q') := hb3.setCell (Nat.le_refl _) _
  have hmlt : ∀ m, q'.ownBlock = some m → wr.heap.size < m := fun m hm => by
    rcases hat with e | e <;> rw [e] at hm <;> injection hm with hm <;> omega
  have hs : w3.heap.size = w3.heap.size := rfl
  refine ⟨b3, ⟨⟨h.box.below hb4 h.box.lt, h.res.below hb4 h.res.lt, h.out.below hb4 h.out.lt, h.lie.below hb4, h.new, h.below.trans (hb4.mono h.below.size)⟩, b3.set_ 2 q', ⟨hl, ?_, hn⟩, hmlt, h.lie.1, by have := h.out.lt; omega⟩⟩
  have := ownsRow_keep hown (w' := w3.setCell ⟨wr.heap.size, 2, none⟩ q') (fun m hm => Below.heap_setCell w3 _ _ m (by have := hmlt m hm; show m ≠ wr.heap.size; omega))
  simpa using this
theorem own_push {F : Nat} {w wr w4 w6 : World} {v vo q' : Value} {Ro : Nat → Prop} {xs : List PC} {x : PC} {g cap : Nat} {ys : List Value} (h : OwnC F w wr w4 v vo Ro xs x q')
    (hys : (vo = .slice none 0 0 ∧ xs = []) ∨ ∃ g cap cur fm, vo = .slice (some ⟨g, 0, none⟩) xs.length cap ∧ (CellK F).At (w4.alloc (.cells #[.int .i64 x.ty, .bool x.fr, q'] 85)) Ro g cap cur fm xs ∧ ∀ j, j < xs.length * 3 → ys[j]? = cur[j]?) (hyl : ys.length = xs.length * 3)
    (hown : w6.ownsRow 0 85 3 (.slice (some ⟨g, 0, none⟩) (xs.length + 1) cap) (xs.length + 1) (ys ++ [.int .i64 x.ty, .bool x.fr, q'])) (hg : (w4.alloc (.cells #[.int .i64 x.ty, .bool x.fr, q'] 85)).grownBy w6 vo.ownBlock) (hat : vo.ownBlock = some g ∨ g = (w4.alloc (.cells #[.int .i64 x.ty, .bool x.fr, q'] 85)).heap.size) (hlt : g < w6.heap.size) :
    Bk w6 (w.heap.size + 1 + 1) 59 (RefA F vo) ∧ ∃ Ro', OwnI F w (w6.setCell ⟨w.heap.size + 1 + 1, 1, none⟩ (.slice (some ⟨g, 0, none⟩) (xs.length + 1) cap)) v (.slice (some ⟨g, 0, none⟩) (xs.length + 1) cap) Ro' (xs ++ [x]) := by
  have hvo : ∀ k, some k = vo.ownBlock → Ro k := fun k hk => by
    rcases h.own.lie.2 with ⟨e, _⟩ | ⟨g0, c0, r0, f0, e, ha0⟩
    · rw [e] at hk; cases hk
    · rw [e] at hk; simp only [Value.ownBlock] at hk; injection hk with hk; subst hk; exact ha0.mine
  have hw4 : wr.heap.size < w4.heap.size := h.item.lt
  have hb5 := alloc_below w4 (.cells #[.int .i64 x.ty, .bool x.fr, q'] 85)
  have hkeep : ∀ k t cs, k < w.heap.size + 3 → Bk w4 k t cs → Bk w6 k t cs := fun k t cs hk hb => by
    have h5 := hb.below hb5 hb.lt
    exact (hg.block k h5.lt (fun e => by have := h.own.new k (hvo k e); omega)).trans h5
  have hout := hkeep _ _ _ (by omega) h.own.out
  have hgn : w.heap.size + 3 ≤ g := by
    rcases hat with e | e
    · exact h.own.new g (hvo g e.symm)
    · rw [e]; have := h.base; simp; omega
  have hlie5 := h.own.lie.below hb5
  have hsub6 : (CellK F).sub w6 x q' := (CellK F).keep _ w6 x q' ((CellK F).keep w4 _ x q' h.sub hb5.size (fun m hm => hb5.block m ((CellK F).has w4 x q' m h.sub hm))) hg.size (fun m hm => hg.block m (by have := (CellK F).has w4 x q' m h.sub hm; simp; omega) (fun e => by have h1 := h.old m (hvo m e); have h2 := h.far m hm; omega))
  have hl6 := Kin.Lie.push (K := CellK F) (R' := fun k => Ro k ∨ k = g ∨ q'.ownBlock = some k) (x' := x) (b' := q') hlie5 hys hyl hown hg hat (Nat.le_refl _) hsub6
    (fun m hm => ⟨fun hR => by have h1 := h.old m hR; have h2 := h.far m hm; omega, fun e => by
      rcases hat with h1 | h1
      · have h3 := h.old g (hvo g h1.symm); have h2 := h.far m hm; omega
      · have h3 := (CellK F).has w4 x q' m h.sub hm; simp at h1; omega, .inr (.inr hm)⟩) (fun _ h => .inl h) (.inr (.inl rfl))
    (fun k hk => by
      rcases hk with hk | hk | hk
      · exact Nat.lt_of_lt_of_le (hlie5.1 k hk) hg.size
      · subst hk; exact hlt
      · exact (CellK F).has w6 x q' k hsub6 hk)
  have hgs : w6.grownBy (w6.setCell ⟨w.heap.size + 1 + 1, 1, none⟩ (.slice (some ⟨g, 0, none⟩) (xs.length + 1) cap)) (some (w.heap.size + 1 + 1)) := grownBy_setC w6 _ _
  have hnew : ∀ k, (Ro k ∨ k = g ∨ q'.ownBlock = some k) → w.heap.size + 3 ≤ k := fun k hk => by
    rcases hk with hk | hk | hk
    · exact h.own.new k hk
    · omega
    · have := h.far k hk; have := h.base; omega
  refine ⟨hout, fun k => Ro k ∨ k = g ∨ q'.ownBlock = some k, ⟨(hkeep _ _ _ (by omega) h.own.box).far (by show w.heap.size ≠ w.heap.size + 1 + 1; omega) _, (hkeep _ _ _ (by omega) h.own.res).far (by show w.heap.size + 1 ≠ w.heap.size + 1 + 1; omega) _, hout.set_ 1 _, hl6.gr (Gr.of_grown hgs) (fun k hk e => by injection e with e; have := hnew k hk; omega), hnew, ?_⟩⟩
  exact ((h.own.below.trans (hb5.mono h.own.below.size)).grown hg (h.own.below.trans (hb5.mono h.own.below.size)).size (fun j hj => by have := h.own.new j (hvo j hj.symm); omega)).setCell (by show w.heap.size ≤ w.heap.size + 1 + 1; omega) _
theorem own_res {cur : Array Value} {F : Nat} {v : Value} (h2 : cur.size = (#[.int .i64 0, .slice none 0 0, .bool false] : Array Value).size) (h3 : ∀ j, j < (RefA F v).size → cur[0 + j]? = (RefA F v)[j]?) : cur = RefA F v := by
  refine Array.ext_getElem? fun j => ?_
  by_cases hj : j < 3
  · have := h3 j hj
    rwa [Nat.zero_add] at this
  · rw [Array.getElem?_eq_none (by rw [h2]; simp; omega), Array.getElem?_eq_none (by simp; omega)]
theorem oneA {α β : Type} {K : Kin α β} {w : World} {R : Nat → Prop} {v : Value} {xs : List α} {F : Nat} (h : K.Lie w R v xs) : (RefA F v).all (·.oneCell') = true := by
  obtain ⟨p, c, rfl⟩ := h.form
  simp [Value.oneCell']
/-- What Own hands back. -/
def OwnP (F : Nat) (w : World) (cs : List PC) (e : Ending) (w' : World) : Prop :=
  ∃ v N, e = .returned (.agg (RefA F v)) ∧ Out F w' N v cs ∧ (∀ b, N b → w.heap.size ≤ b) ∧ Below w.heap.size w w'
theorem own_any (F : Nat) (pv : Option Addr) (cap : Nat) (rs : List RC) (w : World) (h : LayR 3 RC.cells RC.lies w pv rs) (hlen : ∀ r ∈ rs, r.c.to.length = F) (hF : F ≤ 2000000) (hn : rs.length ≤ 2000000) :
    Calls Tryd.prog 47 #[.agg (RefA F (.slice pv rs.length cap))] w (OwnP F w (rs.map RC.c)) := by
  have hcl : (rs.map RC.c).length = rs.length := List.length_map ..
  have HLN := hdn hlen
  clear hlen
  have hH := hdn h
  have hst : OwnI F w (((w.alloc (.cells (RefA F (.slice pv rs.length cap)) 59)).alloc (.cells #[.int .i64 0, .slice none 0 0, .bool false] 59)).alloc (.cells (RefA F (.slice none 0 0)) 59)) (.slice pv rs.length cap) (.slice none 0 0) (fun _ => False) [] := by
    have e1 : (w.alloc (.cells (RefA F (.slice pv rs.length cap)) 59)).heap.size = w.heap.size + 1 := by simp
    have e2 : ((w.alloc (.cells (RefA F (.slice pv rs.length cap)) 59)).alloc (.cells #[.int .i64 0, .slice none 0 0, .bool false] 59)).heap.size = w.heap.size + 2 := by simp
    have b1 : Bk (w.alloc (.cells (RefA F (.slice pv rs.length cap)) 59)) w.heap.size 59 (RefA F (.slice pv rs.length cap)) := (MapKept.heap_alloc w _).1
    have b2 : Bk ((w.alloc (.cells (RefA F (.slice pv rs.length cap)) 59)).alloc (.cells #[.int .i64 0, .slice none 0 0, .bool false] 59)) (w.heap.size + 1) 59 #[.int .i64 0, .slice none 0 0, .bool false] := by rw [← e1]; exact (MapKept.heap_alloc _ _).1
    refine ⟨(b1.below (alloc_below _ _) b1.lt).below (alloc_below _ _) (b1.below (alloc_below _ _) b1.lt).lt, b2.below (alloc_below _ _) b2.lt, ?_, Kin.Lie.nil _ _ (fun _ h => h.elim), fun _ h => h.elim, (((Below.refl _ _).alloc (Nat.le_refl _) _).alloc (by simp) _).alloc (by simp; omega) _⟩
    have e3 : w.heap.size + 1 + 1 = w.heap.size + 2 := rfl
    rw [e3, ← e2]; exact (MapKept.heap_alloc _ _).1
  have HST := hdn hst
  clear hst h
  go_enter Tryd.func47, Tryd.ntmps47
  go_wp2_with ((with_reducible show wpList _ _ _ (Oper.mk none (Op.store _ _ _) _ _ _ _ :: _) _ _); refine wpList_store_new rfl 59 (.tmp 3) (.tmp 10) rfl _ (RefA F (.slice none 0 0)) rfl rfl size29 rfl (by simp [Value.oneCell']) ?_)
  generalize ((w.alloc (.cells (RefA F (.slice pv rs.length cap)) 59)).alloc (.cells #[.int .i64 0, .slice none 0 0, .bool false] 59)).alloc (.cells (RefA F (.slice none 0 0)) 59) = wS at HST ⊢
  go_loopw [4] (fun t wr => ∃ (k : Nat) (vo : Value) (Ro : Nat → Prop), t = .int .i64 k ∧ k ≤ rs.length ∧ Hid (OwnI F w wr (.slice pv rs.length cap) vo Ro ((rs.map RC.c).take k))) (fun t _ => rs.length - (intOf t).toNat)
  case atStart => exact ⟨0, _, _, rfl, Nat.zero_le _, HST⟩
  case round =>
    obtain ⟨k, vo, Ro, rfl, hk, HI⟩ := hrel
    have b1 : wr.cell? ⟨w.heap.size, 1, none⟩ = some (.slice pv rs.length cap) := HI.out.box.cell 1
    by_cases hkl : k < rs.length
    · obtain ⟨r, hr⟩ : ∃ r, rs[k]? = some r := ⟨_, List.getElem?_eq_getElem hkl⟩
      obtain ⟨g, og, ev, hit, hli⟩ := LayR.at_ hH.out hr
      have hxl := HLN.out r (List.mem_of_getElem? hr)
      have hx : (rs.map RC.c)[k]? = some r.c := by rw [List.getElem?_map, hr]; rfl
      subst ev
      have hit' := rangeAt_below' hit HI.out.below (Nat.le_refl _)
      have hlr : r.lies wr := RC.lies_below' hli HI.out.below
      unfold RC.cells at hit'
      rw [hxl] at hit'
      have HLR : IR wr r.q r.c.to := IR.of_lies hlr
      generalize r.q = q at hit' HLR
      generalize r.k = cq at hit'
      generalize r.c = x at hit' HLR hx hxl
      clear hr hli hlr
      have HIT : Hid (wr.rangeAt g (og + k * 3) (#[.int .i64 x.ty, .bool x.fr, .slice q F cq] : Array Value).toList) := hdn hit'
      have hb2 : Below wr.heap.size wr ((wr.alloc (.cells #[.int .i64 x.ty, .bool x.fr, .slice q F cq] 85)).alloc (.cells #[] 3)) := ((Below.refl _ _).alloc (Nat.le_refl _) _).alloc (by simp) _
      have HN1 : Hid (IR ((wr.alloc (.cells #[.int .i64 x.ty, .bool x.fr, .slice q F cq] 85)).alloc (.cells #[] 3)) q x.to) := hdn (HLR.below hb2)
      have hown0 : ((wr.alloc (.cells #[.int .i64 x.ty, .bool x.fr, .slice q F cq] 85)).alloc (.cells #[] 3)).ownsRow 0 3 1 (.slice (some ⟨wr.heap.size + 1, 0, none⟩) 0 0) 0 [] := by
        refine ⟨rfl, .inr ⟨_, 0, #[], rfl, Nat.zero_le _, ?_, Nat.le_refl _, Nat.zero_le _, rfl, rfl⟩⟩
        have e1 : (wr.alloc (.cells #[.int .i64 x.ty, .bool x.fr, .slice q F cq] 85)).heap.size = wr.heap.size + 1 := by simp
        rw [← e1]; exact (MapKept.heap_alloc _ _).1
      have HO0 := hdn hown0
      have c2 : (((wr.alloc (.cells #[.int .i64 x.ty, .bool x.fr, .slice q F cq] 85)).alloc (.cells #[] 3))).cell? ⟨wr.heap.size, 2, none⟩ = some (.slice q F cq) := by
        have b1 : Bk (wr.alloc (.cells #[.int .i64 x.ty, .bool x.fr, .slice q F cq] 85)) wr.heap.size 85 #[.int .i64 x.ty, .bool x.fr, .slice q F cq] := (MapKept.heap_alloc wr _).1
        exact (b1.below (alloc_below _ (.cells #[] 3)) b1.lt).cell 2
      have HXL := hdn hxl
      have HX := hdn hx
      have hk0 : (0 : Int) ≤ (k : Int) := Int.natCast_nonneg _
      have hk1 : (k : Int) < (rs.length : Int) := by omega
      have hFm : 0 + F ≤ maxLen := by unfold maxLen; omega
      have hFb : (0 + F) * 8 ≤ 140737488355328 := by omega
      have hFn : 0 + F ≤ 4000000 := by omega
      clear hit hit' hb2 hown0 HLR hx hxl
      go_upto_region 7 with (first
        | ((with_reducible show wpList _ _ _ (Oper.mk (some 22) _ _ _ _ _ :: _) _ _); refine wpList_load_arr rfl 85 (.tmp 21) rfl g (og + k * 3) rfl #[.int .i64 x.ty, .bool x.fr, .slice q F cq] _ HIT.out Tryd.underlying85 rfl size46 ?_)
        | ((with_reducible show wpList _ _ _ (Oper.mk none (Op.store 85 _ _) _ _ _ _ :: _) _ _); refine wpList_store_new rfl 85 (.tmp 5) (.tmp 22) rfl _ #[.int .i64 x.ty, .bool x.fr, .slice q F cq] rfl rfl size46 rfl (by simp [Value.oneCell']) ?_)
        | (at_builtin; refine wpList_app_ir rfl (.tmp 23) (.tmp 25) rfl (.slice (some ⟨wr.heap.size + 1, 0, none⟩) 0 0) 0 [] rfl HO0.out q x.to cq F HXL.out rfl HN1.out hFn ?_; intro q' w3 s1 s2 s3 s4; have r1 := s1.out; have r2 := s2.out; have r3 := s3.out; have r4 := s4.out; clear s1 s2 s3 s4; obtain ⟨gq, cp, rfl⟩ := own_form r1 (fun e => by have := (r3.1 e).1; cases this); obtain ⟨r5, r6⟩ := own_copy HI.out HXL.out r1 r2 (fun e => by have := (r3.1 e).1; cases this) (r4.imp (fun h => h) (fun h => h.trans (by simp))); have f5 := r5.frozen 2; have g5 := r5.cell 2; have HC := hdn r6; clear r1 r2 r3 r4 r5 r6))
      generalize w3.setCell ⟨wr.heap.size, 2, none⟩ (.slice (some ⟨gq, 0, none⟩) F cp) = w4 at HC ⊢
      have o1 : w4.cell? ⟨w.heap.size + 1 + 1, 1, none⟩ = some vo := HC.out.own.out.cell 1
      have hlk : ((rs.map RC.c).take k).length = k := by rw [List.length_take]; omega
      obtain ⟨ys, hys0, hyl, hys⟩ := (HC.out.own.lie.below (alloc_below w4 (.cells #[.int .i64 x.ty, .bool x.fr, .slice (some ⟨gq, 0, none⟩) F cp] 85))).owns (base := 0) (fun _ _ => Nat.zero_le _)
      have HP := hdn (fun g cap w6 => own_push HC.out (g := g) (cap := cap) (w6 := w6) hys hyl)
      have HYS := hdn hys0
      have HN2 : Hid (∀ j u, ([.int .i64 x.ty, .bool x.fr, .slice (some ⟨gq, 0, none⟩) F cp] : List Value)[j]? = some u → (w4.alloc (.cells #[.int .i64 x.ty, .bool x.fr, .slice (some ⟨gq, 0, none⟩) F cp] 85)).cell? ((⟨w4.heap.size, 0, none⟩ : Addr).add j) = some u) := hdn (fun j u hu => by
        have e : ((⟨w4.heap.size, 0, none⟩ : Addr).add j) = ⟨w4.heap.size, j, none⟩ := by rw [Addr.add_mid]; simp
        rw [e]
        exact (World.cell?_alloc_at _ _ _ _ rfl).trans (by simpa using hu))
      obtain ⟨i46, hi4, hz4, hs4, hb4⟩ := z46
      have HI4 := hdn hi4
      have HZ4 := hdn hz4
      have HS4 := hdn hs4
      have HY4 := hdn hb4
      rw [hlk] at HP HYS
      have hm1 : k + 1 ≤ maxLen := by unfold maxLen; omega
      have hm2 : (k + 1) * 40 ≤ 140737488355328 := by omega
      have H2 : Hid (∀ u ∈ ([.int .i64 x.ty, .bool x.fr, .slice (some ⟨gq, 0, none⟩) F cp] : List Value), u.oneCell' = true) := hdn (by intro u hu; simp at hu; rcases hu with rfl | rfl | rfl <;> rfl)
      have htk : (rs.map RC.c).take k ++ [x] = (rs.map RC.c).take (k + 1) := by rw [List.take_add_one, HX.out]; rfl
      rw [htk] at HP
      clear hys hyl hys0 hi4 hz4 hs4 hb4 hlk htk HN1 HO0 f5 g5 c2
      go_wp2_with (first
        | ((with_reducible show wpList _ _ _ (Oper.mk (some 30) _ _ _ _ _ :: _) _ _); refine wpList_load_bk rfl 85 (.tmp 5) rfl wr.heap.size 85 #[.int .i64 x.ty, .bool x.fr, .slice (some ⟨gq, 0, none⟩) F cp] rfl _ HC.out.item Tryd.underlying85 rfl size46 ?_)
        | (at_builtin; refine wpList_append_lies _ rfl (.tmp 29) (.tmp 31) 31 rfl 0 85 i46 _ 3 40 Tryd.underlying31 HI4.out HZ4.out HS4.out HY4.out rfl (by decide) vo k ys rfl HYS.out _ 1 1 [.int .i64 x.ty, .bool x.fr, .slice (some ⟨gq, 0, none⟩) F cp] rfl rfl HN2.out H2.out (by decide) hm1 hm2 (Nat.zero_le _) _ rfl ?_; intro g7 cap7 w6 s1 s2 s3 s4; obtain ⟨t1, t2⟩ := HP.out g7 cap7 w6 s1 s2 s3 s4; have f6 := t1.frozen 1; have g6 := t1.cell 1; have HZ := hdn t2; clear s1 s2 s3 s4 t1 t2))
      go_roundw
      case rel =>
        obtain ⟨Ro', hz⟩ := HZ.out
        exact ⟨k + 1, _, Ro', by go_num, by omega, hdn hz⟩
      case measure => simp [intOf]; omega
    · have hke : k = rs.length := by omega
      have HE : Hid (OwnI F w wr (.slice pv rs.length cap) vo Ro (rs.map RC.c)) := hdn (by have := HI.out; rw [hke, List.take_of_length_le (by rw [hcl]; exact Nat.le_refl _)] at this; exact this)
      have r0 : Bk wr (w.heap.size + 1) 59 #[.int .i64 0, .slice none 0 0, .bool false] := HE.out.res
      have o0 := HE.out.out
      have HO := hdn o0
      have HR := hdn r0
      clear hke o0 r0
      go_wp2_with (first
        | ((with_reducible show wpList _ _ _ (Oper.mk (some 34) _ _ _ _ _ :: _) _ _); refine wpList_load_bk rfl 59 (.tmp 3) rfl (w.heap.size + 1 + 1) 59 (RefA F vo) rfl _ HO.out Tryd.underlying59 rfl size29 ?_)
        | ((with_reducible show wpList _ _ _ (Oper.mk none (Op.store 59 _ _) _ _ _ _ :: _) _ _); refine wpList_store_part rfl 59 (.tmp 2) (.tmp 34) rfl (w.heap.size + 1) 0 59 _ (RefA F vo) rfl rfl HR.out size29 (by simp) (oneA HE.out.lie) ?_; intro w7 cur7 q1 q2 q3 q4 q5; have HQ := hdn q1; have HQ2 := hdn q2; have HQ3 := hdn q3; have HQ5 := hdn q5; clear q1 q2 q3 q4 q5))
      have hcur : cur7 = RefA F vo := own_res HQ2.out HQ3.out
      have hB : Bk w7 (w.heap.size + 1) 59 (RefA F vo) := hcur ▸ HQ.out
      refine bodyPost_ret (results_cell_row Tryd.results47 _ w7 (w.heap.size + 1) 59 (RefA F vo) (0, 0) _ rfl hB Tryd.underlying59 rfl size29) rfl ?_
      exact ⟨vo, Ro, rfl, HE.out.lie.gr (Gr.of_grown HQ5.out) (fun k hk e => by injection e with e; have := HE.out.new k hk; omega), fun b hb => by have := HE.out.new b hb; omega, HE.out.below.grown HQ5.out HE.out.below.size (fun j hj => by injection hj with hj; omega)⟩
end O2
end Go.Proofs.YtebmhadpkncgfaaDoor
namespace Go.Proofs.YtebmhadpkncgfaaDoor
open Go.RowKit Go.Maps
open Aw.Ac (Acn Opd)
/-- A list of numbers made behind a world. -/
structure Nw (w w3 : World) (g : Nat) (l : List Int) : Prop where
  below : RowKit.Below w.heap.size w w3
  lo : w.heap.size ≤ g
  row : ∃ cr, Bk w3 g 3 cr ∧ ∀ (k : Nat) u, (ints l)[k]? = some u → cr[k]? = some u
theorem Nw.gr {w w3 w4 : World} {g : Nat} {l : List Int} {S : Nat → Prop} (h : Nw w w3 g l) (hg : Gr w3 w4 S) (hS : ¬ S g) : IR w4 (some ⟨g, 0, none⟩) l := by
  obtain ⟨cr, h1, h2⟩ := h.row
  have h3 : Bk w4 g 3 cr := hg.bk h1 hS
  exact .inr ⟨g, 0, rfl, fun j v hv => by rw [Nat.zero_add, h3.cell]; exact h2 j v hv⟩
theorem app_new {w2 w3 : World} {l : List Int} {q' : Value} (r1 : w3.ownsRow 0 3 1 q' (0 + l.length) ([] ++ ints l)) (r2 : (w2.alloc (.cells #[] 3)).grownBy w3 (some w2.heap.size)) (r3 : q' ≠ .slice none 0 0)
    (r4 : q'.ownBlock = some w2.heap.size ∨ q'.ownBlock = some (w2.alloc (.cells #[] 3)).heap.size) : ∃ g c, q' = .slice (some ⟨g, 0, none⟩) l.length c ∧ Nw w2 w3 g l := by
  rcases r1.2 with ⟨e, _⟩ | ⟨g, cap, cur, e, _, hb, hc, _, hs, ht⟩
  · exact absurd e r3
  · refine ⟨g, cap, by rw [e, Nat.zero_add], ((RowKit.Below.refl _ _).alloc (Nat.le_refl _) _).grown r2 (by simp) (fun j hj => by injection hj with hj; omega), ?_, cur, hb, fun k u hu => ?_⟩
    · rw [e] at r4
      rcases r4 with h | h <;> simp [Value.ownBlock] at h <;> omega
    · have hk : k < (0 + l.length) * 1 := by
        have := (List.getElem?_eq_some_iff.1 hu).1
        simpa [ints] using this
      have h1 : (cur.toList.take ((0 + l.length) * 1))[k]? = some u := by rw [ht]; simpa using hu
      rw [List.getElem?_take, if_pos hk] at h1
      simpa using h1
theorem own_empty (w : World) : (w.alloc (.cells #[] 3)).ownsRow 0 3 1 (.slice (some ⟨w.heap.size, 0, none⟩) 0 0) 0 [] :=
  ⟨rfl, .inr ⟨_, 0, #[], rfl, Nat.zero_le _, (MapKept.heap_alloc w _).1, Nat.le_refl _, Nat.zero_le _, rfl, rfl⟩⟩
/-- A list, one of its numbers another one. -/
def withL (l : List Int) (x v : Int) : List Int := if inB l.length x = true then l.set x.toNat v else l
theorem withL_len (l : List Int) (x v : Int) : (withL l x v).length = l.length := by unfold withL; split <;> simp
theorem Nw.set {w w3 : World} {g : Nat} {l : List Int} (h : Nw w w3 g l) (k : Nat) (v : Int) : Nw w (w3.setCell ⟨g, k, none⟩ (.int .i64 v)) g (l.set k v) := by
  obtain ⟨cr, h1, h2⟩ := h.row
  refine ⟨h.below.setCell h.lo _, h.lo, _, h1.set_ k (.int .i64 v), fun j u hu => ?_⟩
  have e : ints (l.set k v) = (ints l).set k (.int .i64 v) := by simp [ints, List.map_set]
  rw [e] at hu
  by_cases hj : j = k
  · subst hj
    have hlt : j < (ints l).length := by have := (List.getElem?_eq_some_iff.1 hu).1; simpa using this
    rw [List.getElem?_set_self hlt] at hu
    have h3 := h2 j _ (List.getElem?_eq_getElem hlt)
    have h4 : j < cr.size := (Array.getElem?_eq_some_iff.1 h3).1
    rw [Array.getElem?_setIfInBounds_self_of_lt h4]; exact hu
  · rw [List.getElem?_set_ne (by omega)] at hu
    rw [Array.getElem?_setIfInBounds_ne (by omega)]
    exact h2 j u hu
def WithP (w : World) (l : List Int) (e : Ending) (w' : World) : Prop := ∃ g c, e = .returned (.slice (some ⟨g, 0, none⟩) l.length c) ∧ Nw w w' g l
theorem with_any (p : Option Addr) (l : List Int) (c : Nat) (x v : Int) (w : World) (h : IR w p l) (hn : l.length ≤ 2000000) : Calls Tryd.prog 26 #[.slice p l.length c, .int .i64 x, .int .i64 v] w (WithP w (withL l x v)) := by
  have HO0 := hdn (own_empty w)
  have HN1 : Hid (IR (w.alloc (.cells #[] 3)) p l) := hdn (h.below (alloc_below _ _))
  have hFn : 0 + l.length ≤ 4000000 := by omega
  have HAP := hdn (fun (w3 : World) (q' : Value) => app_new (w2 := w) (w3 := w3) (l := l) (q' := q'))
  clear h
  by_cases h0 : 0 ≤ x
  · have hd : decide (0 ≤ x) = true := decide_eq_true h0
    by_cases h1 : x < l.length
    · obtain ⟨k, rfl⟩ : ∃ k : Nat, x = (k : Int) := ⟨x.toNat, by omega⟩
      have HW : Hid (withL l (k : Int) v = l.set k v) := hdn (by unfold withL inB; rw [if_pos (by simp; omega)]; simp)
      have hk0 : (0 : Int) ≤ (k : Int) := Int.natCast_nonneg _
      have HKL : Hid (k < l.length) := hdn (by omega)
      clear h0
      go_enter Tryd.func26, Tryd.ntmps26
      go_wp2_with (at_builtin; refine wpList_app_ir rfl (.tmp 8) (.tmp 9) rfl (.slice (some ⟨w.heap.size, 0, none⟩) 0 0) 0 [] rfl HO0.out p l c l.length rfl rfl HN1.out hFn ?_; intro q' w3 s1 s2 s3 s4; obtain ⟨g, cp, rfl, hnw⟩ := HAP.out w3 q' s1.out s2.out (fun e => by have := (s3.out.1 e).1; cases this) s4.out; have HNW := hdn hnw; have cg : w3.frozen? ⟨g, k, none⟩ = false := by { obtain ⟨cr, b1, _⟩ := HNW.out.row; exact b1.frozen k }; have cc : ∃ u, w3.cell? ⟨g, k, none⟩ = some u := by { obtain ⟨cr, b1, b2⟩ := HNW.out.row; exact ⟨_, (b1.cell k).trans (b2 k _ (List.getElem?_eq_getElem (by have := HKL.out; simpa [ints] using this)))⟩ }; obtain ⟨u, cu⟩ := cc; clear s1 s2 s3 s4 hnw)
      go_ret
      exact ⟨g, cp, by rw [withL_len]; rfl, by rw [HW.out]; exact HNW.out.set k v⟩
    · have HW : Hid (withL l x v = l) := hdn (by unfold withL inB; rw [if_neg (by simp; omega)])
      have hd2 : decide (x < (l.length : Int)) = false := decide_eq_false h1
      clear h0 h1
      go_enter Tryd.func26, Tryd.ntmps26
      go_wp2_with (at_builtin; refine wpList_app_ir rfl (.tmp 8) (.tmp 9) rfl (.slice (some ⟨w.heap.size, 0, none⟩) 0 0) 0 [] rfl HO0.out p l c l.length rfl rfl HN1.out hFn ?_; intro q' w3 s1 s2 s3 s4; obtain ⟨g, cp, rfl, hnw⟩ := HAP.out w3 q' s1.out s2.out (fun e => by have := (s3.out.1 e).1; cases this) s4.out; have HNW := hdn hnw; clear s1 s2 s3 s4 hnw)
      go_ret
      exact ⟨g, cp, by rw [withL_len]; rfl, by rw [HW.out]; exact HNW.out⟩
  · have HW : Hid (withL l x v = l) := hdn (by unfold withL inB; rw [if_neg (by simp; omega)])
    have hd : decide (0 ≤ x) = false := decide_eq_false h0
    clear h0
    go_enter Tryd.func26, Tryd.ntmps26
    go_wp2_with (at_builtin; refine wpList_app_ir rfl (.tmp 8) (.tmp 9) rfl (.slice (some ⟨w.heap.size, 0, none⟩) 0 0) 0 [] rfl HO0.out p l c l.length rfl rfl HN1.out hFn ?_; intro q' w3 s1 s2 s3 s4; obtain ⟨g, cp, rfl, hnw⟩ := HAP.out w3 q' s1.out s2.out (fun e => by have := (s3.out.1 e).1; cases this) s4.out; have HNW := hdn hnw; clear s1 s2 s3 s4 hnw)
    go_ret
    exact ⟨g, cp, by rw [withL_len]; rfl, by rw [HW.out]; exact HNW.out⟩
end Go.Proofs.YtebmhadpkncgfaaDoor
namespace Go.Proofs.YtebmhadpkncgfaaDoor
open Go.RowKit Go.Maps Go.Sort
theorem i3' : ∃ i : TypeInfo, Tryd.prog.info? 3 = some i ∧ i.zero = some (.int .i64 0) ∧ i.size = 1 ∧ i.bytes = 8 := i3
/-- A row of numbers somewhere in a block of one's own. -/
def OT (w : World) (B : Nat) (v : Value) (xs : List Int) : Prop :=
  (v = .slice none 0 0 ∧ xs = []) ∨ ∃ g off cap, ∃ cur : List Value, v = .slice (some ⟨g, off, none⟩) xs.length cap ∧ B ≤ g ∧ Bk w g 3 cur.toArray ∧ xs.length ≤ cap ∧ cap ≤ maxLen ∧ off + cap ≤ cur.length ∧ (cur.drop off).take xs.length = ints xs
theorem OT.of_own {w : World} {B : Nat} {v : Value} {xs : List Int} (h : w.ownsRow 0 3 1 v xs.length (ints xs)) (hB : ∀ q, v.ownBlock = some q → B ≤ q) : OT w B v xs := by
  rcases h.2 with ⟨rfl, h0⟩ | ⟨g, cap, cur, rfl, hb, hg, hn, hc, hs, ht⟩
  · exact .inl ⟨rfl, List.length_eq_zero_iff.1 h0⟩
  · refine .inr ⟨g, 0, cap, cur.toList, rfl, hB g rfl, by rw [Array.toArray_toList]; exact hg, hn, hc, by rw [Array.length_toList, hs]; omega, ?_⟩
    rw [List.drop_zero, ← ht, Nat.mul_one]
theorem OT.shape {w : World} {B : Nat} {v : Value} {xs : List Int} (h : OT w B v xs) : ∃ a c, v = .slice a xs.length c := by
  rcases h with ⟨rfl, rfl⟩ | ⟨g, off, cap, cur, rfl, _⟩
  · exact ⟨_, _, rfl⟩
  · exact ⟨_, _, rfl⟩
theorem OT.lt {w : World} {B : Nat} {v : Value} {xs : List Int} (h : OT w B v xs) (q : Nat) (hq : v.ownBlock = some q) : B ≤ q ∧ q < w.heap.size := by
  rcases h with ⟨rfl, _⟩ | ⟨g, off, cap, cur, rfl, hb, hg, _⟩
  · cases hq
  · injection hq with hq; subst hq; exact ⟨hb, hg.lt⟩
theorem OT.same {w w' : World} {B : Nat} {v : Value} {xs : List Int} (h : OT w B v xs) (hh : ∀ q, v.ownBlock = some q → w'.heap[q]? = w.heap[q]?) : OT w' B v xs := by
  rcases h with h | ⟨g, off, cap, cur, rfl, hb, hg, hr⟩
  · exact .inl h
  · exact .inr ⟨g, off, cap, cur, rfl, hb, (hh g rfl).trans hg, hr⟩
theorem OT.below {w w' : World} {B : Nat} {v : Value} {xs : List Int} (h : OT w B v xs) (hb : RowKit.Below w.heap.size w w') : OT w' B v xs := h.same fun q hq => hb.block q (h.lt q hq).2
theorem OT.put {w : World} {B : Nat} {v : Value} {xs : List Int} (h : OT w B v xs) {a : Addr} {u : Value} (ha : a.block < B) : OT (w.setCell a u) B v xs := h.same fun q hq => Below.heap_setCell w a u q (by have := (h.lt q hq).1; omega)
/-- The head of a row that is not empty, and what is behind it. -/
theorem OT.head {w : World} {B : Nat} {v : Value} {x : Int} {xs : List Int} (h : OT w B v (x :: xs)) : ∃ g off c, v = .slice (some ⟨g, off, none⟩) (xs.length + 1) (c + 1) ∧ xs.length ≤ c ∧ w.cell? ⟨g, off, none⟩ = some (.int .i64 x) ∧ ∃ off2, OT w B (.slice (some ⟨g, off2, none⟩) xs.length c) xs ∧
    (∀ w, (Instr.slice 28 (.slice (some ⟨g, off, none⟩) (xs.length + 1) (c + 1)) (some (.int .i64 1)) none none).run Tryd.prog w = .ok (.slice (some ⟨g, off2, none⟩) xs.length c) w) := by
  rcases h with ⟨_, h⟩ | ⟨g, off, cap, cur, rfl, hb, hg, hn, hc, hs, ht⟩
  · cases h
  · rw [List.length_cons] at hn ht
    have hlt : off < cur.length := by omega
    rw [List.drop_eq_getElem_cons hlt, List.take_succ_cons] at ht
    injection ht with ht1 ht2
    obtain ⟨c, rfl⟩ : ∃ c, cap = c + 1 := ⟨cap - 1, by omega⟩
    refine ⟨g, off, c, by rw [List.length_cons], by omega, ?_, if c = 0 then off else off + 1, ?_, fun w => ?_⟩
    · rw [hg.cell]
      simp only [List.getElem?_toArray, List.getElem?_eq_getElem hlt, ht1]
    · by_cases h0 : c = 0
      · rw [if_pos h0]
        subst h0
        have hx : xs = [] := List.length_eq_zero_iff.1 (by omega)
        subst hx
        exact .inr ⟨g, off, 0, cur, rfl, hb, hg, Nat.le_refl _, Nat.zero_le _, by omega, by simp [ints]⟩
      · rw [if_neg h0]
        exact .inr ⟨g, off + 1, c, cur, rfl, hb, hg, by omega, by omega, by omega, ht2⟩
    · have h := run_slice_l (P := Tryd.prog) (w := w) 28 (some ⟨g, off, none⟩) (xs.length + 1) (c + 1) und44 .i64 (1 : Int) (by omega) (by omega)
      rw [h]
      simp [go_sem, Result.andThen, Addr.add]
      split <;> simp
theorem IR.src {w : World} {p : Option Addr} {ys : List Int} {c : Nat} (h : IR w p ys) : Src Tryd.prog 1 28 (.slice p ys.length c) ys.length (ints ys) w := by
  have h1 : ∀ u ∈ ints ys, u.oneCell' = true := by
    intro u hu
    obtain ⟨_, _, rfl⟩ := List.mem_map.1 hu
    rfl
  cases p with
  | none =>
    have : ys = [] := by
      rcases h with h | ⟨_, _, h, _⟩
      · exact h
      · cases h
    subst this
    exact Src.ofNil w Tryd.underlying28 c
  | some ad =>
    refine Src.ofSlice w Tryd.underlying28 ad ys.length c (ints ys) (by simp [ints]) ?_ h1
    intro j u hu
    rcases h with rfl | ⟨b, o, hp, hr⟩
    · simp [ints] at hu
    · injection hp with hp; subst hp
      rw [Addr.add_mid]; exact hr j u hu
theorem grown_ot (w : World) (xs ys : List Int) (c B : Nat) (hB : B ≤ w.heap.size) (hl : xs.length + ys.length ≤ 100000000) (z : Value) (hz : z.cells = #[z]) :
    OT (w.drew.alloc (.cells ((ints xs ++ ints ys).toArray ++ Builtin.zeroCells z.cells (grownCap w (xs.length + ys.length) c 3 - (xs.length + ys.length))) 3)) B (.slice (some ⟨w.heap.size, 0, none⟩) (xs.length + ys.length) (grownCap w (xs.length + ys.length) c 3)) (xs ++ ys) := by
  have hge := grownCap_ge w (xs.length + ys.length) c 3
  have hcm : grownCap w (xs.length + ys.length) c 3 ≤ maxLen := grownCap_le_maxLen w _ c 3 (by unfold maxLen; omega)
  refine .inr ⟨w.heap.size, 0, _, ((ints xs ++ ints ys).toArray ++ Builtin.zeroCells z.cells (grownCap w (xs.length + ys.length) c 3 - (xs.length + ys.length))).toList, by rw [List.length_append], hB, ?_, by rw [List.length_append]; exact hge, hcm, ?_, ?_⟩
  · rw [Array.toArray_toList]
    exact (MapKept.heap_alloc w.drew _).1
  · generalize grownCap w (xs.length + ys.length) c 3 = G at hge ⊢
    obtain ⟨D, hD⟩ : ∃ D, D = G - (xs.length + ys.length) := ⟨_, rfl⟩
    rw [← hD, Array.length_toList, Array.size_append, size_zeroCells, hz]
    simp only [List.size_toArray, List.length_append, ints_len, List.length_cons, List.length_nil]
    omega
  · rw [List.drop_zero, Array.toList_append, List.length_append]
    have e : ints (xs ++ ys) = ints xs ++ ints ys := by simp [ints]
    rw [e]
    apply List.take_left'
    simp [ints]
theorem OT.app {w : World} {B : Nat} {v : Value} {p : Option Addr} {c : Nat} {xs ys : List Int} (ty : TypeId) (h : OT w B v xs) (hB : B ≤ w.heap.size) (hy : IR w p ys) (hl : xs.length + ys.length ≤ 100000000) :
    ∃ v' w', (Builtin.append_ #[28, 28] ty #[v, .slice p ys.length c]).run Tryd.prog w = .ok v' w' ∧ OT w' B v' (xs ++ ys) ∧ w.grownBy w' v.ownBlock := by
  obtain ⟨i0, hi0, hz0, hz1, hz2⟩ := i3
  have hsrc := hy.src (c := c)
  rcases h with ⟨rfl, rfl⟩ | ⟨g, off, cap, cur, rfl, hb, hg, hn, hc, hs, ht⟩
  · by_cases h0 : ys.length = 0
    · have : ys = [] := List.length_eq_zero_iff.1 h0
      subst this
      refine ⟨_, _, run_append_nothing w 28 28 ty 3 i0 Tryd.underlying28 hi0 none 0 0 (Nat.le_refl _) _ (by rw [hz1]; exact hsrc), .inl ⟨rfl, rfl⟩, ⟨rfl, rfl, rfl, Nat.le_refl _, fun _ _ _ => rfl⟩⟩
    · have hr := run_append_grow_src w 28 28 ty 3 i0 (.int .i64 0) Tryd.underlying28 hi0 hz0 none 0 0 [] (run_firstCells_none _ _ _ _ _) _ ys.length (ints ys) (by rw [hz1]; exact hsrc) (by omega) (by omega) (growslice_fits (by omega) (by rw [hz2]; omega))
      have hg := grown_ot w [] ys 0 B hB hl (.int .i64 0) rfl
      simp only [ints, List.map_nil, List.length_nil] at hg
      exact ⟨_, _, hr, hg, ⟨rfl, rfl, rfl, by simp, fun k hk _ => Below.heap_alloc w.drew _ k hk⟩⟩
  · have hcell : ∀ j, j < cur.length → w.cell? ⟨g, j, none⟩ = cur[j]? := by
      intro j _
      rw [hg.cell]; simp
    by_cases hroom : xs.length + ys.length ≤ cap
    · have hr := run_append_room_src w 28 28 ty 3 i0 Tryd.underlying28 hi0 g off xs.length cap (.slice p ys.length c) ys.length (ints ys) (by rw [hz1]; exact hsrc) hroom
        (by
          intro j hj
          rw [ints_len] at hj
          rw [hz1, Nat.mul_one, hcell _ (by omega), List.getElem?_eq_getElem (by omega)]; rfl)
        (by intro j _; exact hg.frozen _)
      rw [hz1, Nat.mul_one] at hr
      have hset := Bk.setCells (ints ys) (off + xs.length) w cur hg
      refine ⟨_, _, hr, .inr ⟨g, off, cap, _, by rw [List.length_append], hb, hset.1, by rw [List.length_append]; exact hroom, hc, by rw [setFrom_len]; exact hs, ?_⟩, hset.2⟩
      have e : ints (xs ++ ys) = ints xs ++ ints ys := by simp [ints]
      rw [e]
      refine List.ext_getElem? fun j => ?_
      rw [List.length_append]
      by_cases hj : j < xs.length + ys.length
      · rw [List.getElem?_take, if_pos hj, List.getElem?_drop]
        by_cases hjx : j < xs.length
        · rw [setFrom_out _ _ _ _ (by omega), List.getElem?_append_left (by rw [ints_len]; exact hjx), ← ht, List.getElem?_take, if_pos hjx, List.getElem?_drop]
        · have h1 := setFrom_in (ints ys) (off + xs.length) cur (j - xs.length) (by rw [ints_len]; omega) (by rw [ints_len]; omega)
          rw [show off + xs.length + (j - xs.length) = off + j by omega] at h1
          rw [h1, List.getElem?_append_right (by rw [ints_len]; omega), ints_len]
      · rw [List.getElem?_eq_none (by simp; omega), List.getElem?_eq_none (by simp [ints_len]; omega)]
    · have hr := run_append_grow_src w 28 28 ty 3 i0 (.int .i64 0) Tryd.underlying28 hi0 hz0 (some ⟨g, off, none⟩) xs.length cap (ints xs)
        (run_firstCells_some w.drew i0.size xs.length ⟨g, off, none⟩ xs.length cap (ints xs) (by rw [hz1, ints_len]; simp) (by
          intro j u hu
          have hj : j < xs.length := by
            have := (List.getElem?_eq_some_iff.1 hu).1
            simpa [ints] using this
          have h1 : ((cur.drop off).take xs.length)[j]? = some u := by rw [ht]; exact hu
          rw [List.getElem?_take, if_pos hj, List.getElem?_drop] at h1
          have h2 := hcell (off + j) (by omega)
          rw [h1] at h2
          rw [Addr.add_mid]
          exact h2)) (.slice p ys.length c) ys.length (ints ys) (by rw [hz1]; exact hsrc) (by omega) (by omega) (growslice_fits (by omega) (by rw [hz2]; omega))
      have hg2 := grown_ot w xs ys cap B hB hl (.int .i64 0) rfl
      exact ⟨_, _, hr, hg2, ⟨rfl, rfl, rfl, by simp, fun k hk _ => Below.heap_alloc w.drew _ k hk⟩⟩
theorem wpList_app_ot {ops : Array Oper} {rest : List Oper} {o : Oper} {a : Act} {w : World} {Q : Exit → Act → World → Prop} (hgd : o.guard = none) (s x : Operand)
    (hop : o.op = .call { callee := .builtin .append, args := #[s, x], argTypes := #[28, 28] }) (B : Nat) (xs ys : List Int) (v : Value) (p : Option Addr) (c : Nat) (hs : a.eval s = v) (hG : OT w B v xs) (hB : B ≤ w.heap.size) (hx : a.eval x = .slice p ys.length c) (hy : IR w p ys) (hl : xs.length + ys.length ≤ 100000000)
    (h : ∀ v' w', OT w' B v' (xs ++ ys) → w.grownBy w' v.ownBlock → (∃ a c, v' = .slice a (xs.length + ys.length) c) → wpList Tryd.prog ops Q rest (a.put o.dst v') w') : wpList Tryd.prog ops Q (o :: rest) a w := by
  obtain ⟨v', w', hrun, h1, h2⟩ := OT.app (c := c) o.type hG hB hy hl
  refine wpList_plain hgd fun K' hK' => ?_
  unfold Oper.wp
  simp [execOp, hop, resolve, invoke, builtin, hs, hx, hrun, Result.andThen]
  exact hK' _ _ (h v' w' h1 h2 (by have := h1.shape; rwa [List.length_append] at this))
def slen : Value → Nat
  | .slice _ n _ => n
  | _ => 0
/-- How many are not marked yet, as it lies. -/
def lz (sb : Nat) (w : World) : Nat := match w.heap[sb]? with | some (.cells cs _ _) => (cs.toList.filter isF).length | _ => 0
theorem lz_bk {w : World} {sb : Nat} {S : List Bool} (h : Bk w sb 4 (bools S).toArray) : lz sb w = Sr.unm S := by
  have h1 : w.heap[sb]? = some (.cells (bools S).toArray 4 (0, 0)) := h
  unfold lz
  rw [h1]
  exact filter_bools S
end Go.Proofs.YtebmhadpkncgfaaDoor
namespace Go.Proofs.YtebmhadpkncgfaaDoor
open Go.RowKit Go.Maps Go.Sort
open Sr
theorem app_ot {w2 w3 : World} {l : List Int} {q' : Value} (r1 : w3.ownsRow 0 3 1 q' (0 + l.length) ([] ++ ints l)) (r2 : (w2.alloc (.cells #[] 3)).grownBy w3 (some w2.heap.size)) (r3 : q' ≠ .slice none 0 0)
    (r4 : q'.ownBlock = some w2.heap.size ∨ q'.ownBlock = some (w2.alloc (.cells #[] 3)).heap.size) : ∃ p c, q' = .slice p l.length c ∧ OT w3 w2.heap.size (.slice p l.length c) l ∧ RowKit.Below w2.heap.size w2 w3 := by
  obtain ⟨g, c, h1, h2⟩ := app_new r1 r2 r3 r4
  subst h1
  refine ⟨_, _, rfl, OT.of_own (by simpa using r1) (fun q hq => ?_), h2.below⟩
  simp [Value.ownBlock] at hq; subst hq; exact h2.lo
/-- The search as it lies. -/
structure LeI (F : Nat) (s : SV) (w1 : World) (sb : Nat) (wr : World) (S : List Bool) (v : Value) (os : List Int) : Prop where
  row : Bk wr sb 4 (bools S).toArray
  que : OT wr (sb + 1) v os
  inv : Jnv s.rs.length F s.vs (ttOf s) S os
  rng : ∀ x ∈ os, 0 ≤ x ∧ x ≤ (s.rs.length : Int)
  few : jmeas F S os ≤ 2000000
  low : RowKit.Below sb w1 wr
theorem mk_get {S : List Bool} {c : Nat} {b : Bool} (h : S[c]? = some b) : mk S c ↔ b = true := by
  unfold mk; rw [h]; simp
/-- An item that is passed over. -/
theorem LeI.skip {F : Nat} {s : SV} {w1 wr : World} {sb : Nat} {S : List Bool} {v v' : Value} {x : Int} {os : List Int} (h : LeI F s w1 sb wr S v (x :: os)) (hq : OT wr (sb + 1) v' os) (hx : x < 1 ∨ (s.rs.length : Int) < x ∨ Sr.mk S (x.toNat - 1)) : LeI F s w1 sb wr S v' os := by
  have h2 := jskip h.inv hx
  exact ⟨h.row, hq, h2.1, fun y hy => h.rng y (List.mem_cons_of_mem _ hy), by have := h.few; omega, h.low⟩
/-- An item that is new. -/
theorem LeI.turn {F : Nat} {s : SV} {w1 wr w5 : World} {sb : Nat} {S : List Bool} {v v' v5 : Value} {x : Int} {os : List Int} (h : LeI F s w1 sb wr S v (x :: os)) (h1 : 1 ≤ x) (hx : ¬ Sr.mk S (x.toNat - 1)) (hF : (ttOf s x.toNat).length = F) (ht : ∀ d ∈ ttOf s x.toNat, 0 ≤ d ∧ d ≤ (s.rs.length : Int))
    (hg : (wr.setCell ⟨sb, x.toNat - 1, none⟩ (.bool true)).grownBy w5 v'.ownBlock) (hq : OT (wr.setCell ⟨sb, x.toNat - 1, none⟩ (.bool true)) (sb + 1) v' os) (h5 : OT w5 (sb + 1) v5 (os ++ ttOf s x.toNat)) :
    LeI F s w1 sb w5 (S.set (x.toNat - 1) true) v5 (os ++ ttOf s x.toNat) ∧ jmeas F (S.set (x.toNat - 1) true) (os ++ ttOf s x.toNat) < jmeas F S (x :: os) := by
  have h2 := jturn h.inv h1 (h.rng x (by simp)).2 hx hF
  have hr := h.row.set_ (x.toNat - 1) (.bool true)
  rw [List.setIfInBounds_toArray] at hr
  have e : bools (S.set (x.toNat - 1) true) = (bools S).set (x.toNat - 1) (.bool true) := by simp [bools, List.map_set]
  have hne : ∀ q, v'.ownBlock = some q → q ≠ sb := fun q hq' => by have := (hq.lt q hq').1; omega
  refine ⟨⟨?_, h5, h2.1, fun y hy => ?_, by have := h.few; omega, ?_⟩, h2.2⟩
  · rw [e]; exact (Gr.of_grown hg).bk hr (fun h => hne sb (by first | exact h | exact h.symm) rfl)
  · rcases List.mem_append.1 hy with q | q
    · exact h.rng y (List.mem_cons_of_mem _ q)
    · exact ht y q
  · exact (h.low.setCell (p := ⟨sb, x.toNat - 1, none⟩) (Nat.le_refl _) _).grown hg (by have := h.row.lt; show sb ≤ (wr.setCell _ _).heap.size; have := (grownBy_setC wr ⟨sb, x.toNat - 1, none⟩ (.bool true)).size; omega) (fun q hq' => by have := (hq.lt q hq').1; omega)
def LedQ (w : World) (s : SV) (e : Ending) (w' : World) : Prop :=
  ∃ (sb : Nat) (S : List Bool), e = .returned (.slice (some ⟨sb, 0, none⟩) s.rs.length s.rs.length) ∧ Bk w' sb 4 (bools S).toArray ∧ S.length = s.rs.length ∧ (∀ c, mk S c ↔ Rch s.vs (ttOf s) (c + 1)) ∧ RowKit.Below w.heap.size w w'
theorem led_any (g : GR) (s : SV) (w : World) (hs : Rt g s) (hg : Gok g) (hl : s.lies w) (hF : g.F ≤ 1000) (hn : s.rs.length ≤ 1000) : Calls Tryd.prog 43 #[.agg s.A, .slice s.vp s.vs.length s.vc] w (LedQ w s) := by
  obtain ⟨w1, hw1⟩ : ∃ w1, w.alloc (.cells s.A 33) = w1 := ⟨_, rfl⟩
  have hb1 : RowKit.Below w.heap.size w w1 := by rw [← hw1]; exact alloc_below w _
  have hk1 : Bk w1 w.heap.size 33 s.A := by rw [← hw1]; exact (MapKept.heap_alloc w _).1
  have hz1 : w1.heap.size = w.heap.size + 1 := by rw [← hw1]; simp
  have HW := hdn hw1
  have HB1 := hdn hb1
  have HK1 := hdn hk1
  have HZ1 := hdn hz1
  obtain ⟨w2, hw2⟩ : ∃ w2, w1.alloc (.cells (bools (List.replicate s.rs.length false)).toArray 4) = w2 := ⟨_, rfl⟩
  have hb2 : RowKit.Below w1.heap.size w1 w2 := by rw [← hw2]; exact alloc_below w1 _
  have hz2 : w2.heap.size = w1.heap.size + 1 := by rw [← hw2]; simp
  have hk2 : Bk w2 w1.heap.size 4 (bools (List.replicate s.rs.length false)).toArray := by rw [← hw2]; exact (MapKept.heap_alloc w1 _).1
  have hmk : ∀ wz, (Instr.makeSlice 82 (.int .i64 s.rs.length) (.int .i64 s.rs.length)).run Tryd.prog wz = .ok (.slice (some ⟨wz.heap.size, 0, none⟩) s.rs.length s.rs.length) (wz.alloc (.cells (bools (List.replicate s.rs.length false)).toArray 4)) := fun wz => make84 s.rs.length wz (by omega)
  have HW2 := hdn hw2
  have HK2 := hdn hk2
  have HB2 := hdn hb2
  have HZ2 := hdn hz2
  have HL1 := hdn (hl.below hb1)
  have HRt := hdn hs
  have HO2 := hdn (own_empty w2)
  have HN2 : Hid (IR (w2.alloc (.cells #[] 3)) s.vp s.vs) := hdn ((HL1.out.v.below hb2).below (alloc_below _ _))
  have hvl : s.vs.length ≤ 24 := by have := hs.vl; have := hg.V; omega
  have hvn : 0 + s.vs.length ≤ 4000000 := by omega
  have s1 : w1.cell? ⟨w.heap.size, 1, none⟩ = some (.slice s.vp s.vs.length s.vc) := hk1.cell 1
  have s3 : w1.cell? ⟨w.heap.size, 3, none⟩ = some (.slice s.cp s.rs.length s.cc) := hk1.cell 3
  have hnn : (s.rs.length : Int) ≤ 1000 := by omega
  have hn0 : (0 : Int) ≤ (s.rs.length : Int) := Int.natCast_nonneg _
  have HFF := hdn hF
  have HNN := hdn hn
  clear hw1 hw2 hb1 hk1 hz1 hb2 hk2 hz2 hl hs hg hF hn
  go_enter Tryd.func43, Tryd.ntmps43
  go_upto_region 1 with fail
  rw [HW.out]
  go_upto_region 2 with fail
  rw [HW2.out]
  clear s1 s3 hmk
  go_upto_region 3 with (at_builtin; refine wpList_app_ir rfl (.tmp 12) (.tmp 13) rfl (.slice (some ⟨w2.heap.size, 0, none⟩) 0 0) 0 [] rfl HO2.out s.vp s.vs s.vc s.vs.length rfl rfl HN2.out hvn ?_; intro q' w3 r1 r2 r3 r4; obtain ⟨p3, c3, rfl, hot, hb3⟩ := app_ot r1.out r2.out (fun e => by have := (r3.out.1 e).1; cases this) r4.out; have HOT := hdn hot; have HB3 := hdn hb3; clear r1 r2 r3 r4 hot hb3)
  have HI0 : Hid (LeI g.F s w1 w1.heap.size w3 (List.replicate s.rs.length false) (.slice p3 s.vs.length c3) s.vs) := hdn (by
    refine ⟨HK2.out.below HB3.out HK2.out.lt, by have := HOT.out; rwa [HZ2.out] at this, jstart _ _ _ _, HRt.out.vs, ?_, HB2.out.trans (HB3.out.mono (by have := HZ2.out; omega))⟩
    unfold jmeas
    have h1 : unm (List.replicate s.rs.length false) ≤ 1000 := by
      unfold unm; have := List.count_le_length (a := false) (l := List.replicate s.rs.length false); rw [List.length_replicate] at this; have := HNN.out; omega
    have h2 : (g.F + 1) * unm (List.replicate s.rs.length false) ≤ 1001 * 1000 := Nat.mul_le_mul (by have := HFF.out; omega) h1
    omega)
  obtain ⟨sb, hsb⟩ : ∃ sb, sb = w1.heap.size := ⟨_, rfl⟩
  have HSB := hdn hsb
  rw [← hsb] at HI0 ⊢
  have HBW : Hid (RowKit.Below w.heap.size w w1) := HB1
  clear hsb HK2 HB2 HW2 HO2 HN2 HOT HB3
  go_loopw [6, 7] (fun so _ wr => ∃ (S : List Bool) (os : List Int) (p : Option Addr) (c : Nat), so = .slice p os.length c ∧ Hid (LeI g.F s w1 sb wr S (.slice p os.length c) os)) (fun so _ wr => (g.F + 1) * lz sb wr + slen so)
  case atStart => exact ⟨_, s.vs, _, _, rfl, HI0⟩
  case round =>
    clear HI0
    obtain ⟨S, os, p, c, rfl, HI⟩ := hrel
    have hbx : Bk wr w.heap.size 33 s.A := HK1.out.below (HI.out.low.mono (by rw [HSB.out]; exact Nat.le_refl _)) HK1.out.lt
    have HBX := hdn hbx
    cases os with
    | nil =>
      have HF : Hid (LedQ w s (.returned (.slice (some ⟨sb, 0, none⟩) s.rs.length s.rs.length)) wr) := hdn ⟨sb, S, rfl, HI.out.row, HI.out.inv.len, jend HI.out.inv (fun v hv => (HRt.out.vs v hv).2) (fun c d hd => (HRt.out.tt c d hd).2), HBW.out.trans (HI.out.low.mono (by rw [HSB.out]; exact HBW.out.size))⟩
      clear hbx
      go_wp2_with fail
      go_ret
      exact HF.out
    | cons x os =>
      obtain ⟨gq, off, cq, hsh, hcq, hcx, off2, hot, hsl⟩ := HI.out.que.head
      injection hsh with e1 e2 e3
      subst e1; subst e3
      have HOT := hdn hot
      obtain ⟨hx0, hxn⟩ := HI.out.rng x (by simp)
      have hl0 : (0 : Int) ≤ (os.length : Int) := Int.natCast_nonneg _
      have hlI : (os.length : Int) ≤ (cq : Int) := by omega
      have hxs : wr.cell? ⟨w.heap.size, 3, none⟩ = some (.slice s.cp s.rs.length s.cc) := hbx.cell 3
      have HLZ := hdn (lz_bk HI.out.row)
      clear hot hbx e2
      by_cases h1 : x < 1
      · have d1 : decide (x < 1) = true := decide_eq_true h1
        have HN := hdn (HI.out.skip HOT.out (.inl h1))
        clear h1
        go_wp2_with fail
        go_roundw
        case rel => exact ⟨S, os, _, _, rfl, HN⟩
        case measure => simp only [slen, List.length_cons]; omega
      · have d1 : decide (x < 1) = false := decide_eq_false h1
        have d2 : decide ((s.rs.length : Int) < x) = false := decide_eq_false (by omega)
        obtain ⟨y, rfl⟩ : ∃ y : Nat, x = (y : Int) + 1 := ⟨(x - 1).toNat, by omega⟩
        have hyt : ((y : Int) + 1).toNat - 1 = y := by omega
        have hy1 : (y : Int) + 1 - 1 = (y : Int) := by omega
        have hyl : y < s.rs.length := by omega
        have hyS : y < S.length := by rw [HI.out.inv.len]; exact hyl
        obtain ⟨b, hb⟩ : ∃ b, S[y]? = some b := ⟨_, List.getElem?_eq_getElem hyS⟩
        have hcs : wr.cell? ⟨sb, y, none⟩ = some (.bool b) := by
          rw [HI.out.row.cell, List.getElem?_toArray]; unfold bools; rw [List.getElem?_map, hb]; rfl
        have hfs := HI.out.row.frozen y
        have hy0 : (0 : Int) ≤ (y : Int) := Int.natCast_nonneg _
        have hyI : (y : Int) < (s.rs.length : Int) := by omega
        cases b with
        | true =>
          have HN := hdn (HI.out.skip HOT.out (.inr (.inr (by rw [hyt]; exact (mk_get hb).2 rfl))))
          clear h1 hb hyS
          go_wp2_with fail
          go_roundw
          case rel => exact ⟨S, os, _, _, rfl, HN⟩
          case measure => simp only [slen, List.length_cons]; omega
        | false =>
          obtain ⟨r, hr⟩ : ∃ r, s.rs[y]? = some r := ⟨_, List.getElem?_eq_getElem hyl⟩
          have hmem := List.mem_of_getElem? hr
          have htt : ttOf s ((y : Int) + 1).toNat = r.c.to := by rw [show ((y : Int) + 1).toNat = y + 1 by omega]; exact tt_at hr
          have hrl : r.c.to.length = g.F := HRt.out.len hmem
          have hnm : ¬ mk S (((y : Int) + 1).toNat - 1) := by rw [hyt]; intro h; have := (mk_get hb).1 h; cases this
          have HTN := hdn (fun w5 v5 (a1 : (wr.setCell ⟨sb, ((y : Int) + 1).toNat - 1, none⟩ (.bool true)).grownBy w5 _) (a2 : OT w5 (sb + 1) v5 (os ++ ttOf s ((y : Int) + 1).toNat)) => HI.out.turn (w5 := w5) (v5 := v5) (by omega) hnm (by rw [htt]; exact hrl) (fun d hd => HRt.out.tt _ d hd) a1 (HOT.out.put (Nat.lt_succ_self _)) a2)
          rw [hyt, htt] at HTN
          have hO3 := HOT.out.put (a := ⟨sb, y, none⟩) (u := .bool true) (Nat.lt_succ_self _)
          have HO3 := hdn hO3
          have hb3 : RowKit.Below sb w1 (wr.setCell ⟨sb, y, none⟩ (.bool true)) := HI.out.low.setCell (p := ⟨sb, y, none⟩) (Nat.le_refl _) _
          have hb3' : RowKit.Below w1.heap.size w1 (wr.setCell ⟨sb, y, none⟩ (.bool true)) := by rw [← HSB.out]; exact hb3
          obtain ⟨cb, co, hcp, hit, hrli⟩ := (HL1.out.c.below hb3' (fun x h => RC.lies_below' h hb3')).at_ hr
          have HIR : Hid (IR (wr.setCell ⟨sb, y, none⟩ (.bool true)) r.q r.c.to) := hdn hrli.1
          have hit2 : (wr.setCell ⟨sb, y, none⟩ (.bool true)).cell? ⟨cb, co + y * 3 + 2, none⟩ = some (.slice r.q r.c.to.length r.k) := hit 2 _ rfl
          have hx3 : (wr.setCell ⟨sb, y, none⟩ (.bool true)).cell? ⟨w.heap.size, 3, none⟩ = some (.slice (some ⟨cb, co, none⟩) s.rs.length s.cc) := by
            rw [← hcp]
            exact (HK1.out.below hb3' HK1.out.lt).cell 3
          have HSZ : Hid (sb + 1 ≤ (wr.setCell ⟨sb, y, none⟩ (.bool true)).heap.size) := hdn (by have := HI.out.row.lt; have := (grownBy_setC wr ⟨sb, y, none⟩ (.bool true)).size; omega)
          have HLN : Hid (os.length + r.c.to.length ≤ 100000000) := hdn (by
            have h := HI.out.few
            unfold jmeas at h
            rw [List.length_cons] at h
            have := HFF.out
            rw [hrl]
            generalize (g.F + 1) * unm S = z at h
            omega)
          clear h1 hb hyS hr hmem htt hrl hnm hO3 hb3 hb3' hit hrli hyt
          rw [hcp] at hxs
          clear hcp
          go_wp2_with ((with_reducible show wpList _ _ _ (Oper.mk (some 51) _ _ _ _ _ :: _) _ _); refine wpList_app_ot rfl (.tmp 43) (.tmp 50) rfl (sb + 1) os r.c.to _ r.q r.k rfl HO3.out HSZ.out rfl HIR.out HLN.out ?_; intro v5 w5 hot5 hg5 hsh5; have HT5 := hdn (HTN.out w5 v5 hg5 hot5); obtain ⟨a5, c5, rfl⟩ := hsh5; clear hot5 hg5)
          have HLZ5 := hdn (lz_bk HT5.out.1.row)
          go_roundw
          case rel =>
            exact ⟨S.set y true, os ++ r.c.to, a5, c5, by rw [List.length_append], hdn (by rw [List.length_append]; exact HT5.out.1)⟩
          case measure =>
            rw [HLZ5.out, HLZ.out]
            have h := HT5.out.2
            unfold jmeas at h
            rw [List.length_append] at h
            exact h
end Go.Proofs.YtebmhadpkncgfaaDoor
namespace Go.Proofs.YtebmhadpkncgfaaDoor
open Go.RowKit Go.Maps Go.Sort
open Sr
/-- What both sides tell of what is left behind. -/
theorem leak_same {s : SV} {M S : List Bool} (hM : ∀ c, c ≠ 0 → (mk M c ↔ Rch s.vs (ttOf s) c)) (hS : ∀ c, mk S c ↔ Rch s.vs (ttOf s) (c + 1)) (k : Nat) :
    leakL (frOf s) (fun i => M.getD (i + 1) false) k = leakL (frOf s) (fun i => S.getD i false) k := by
  unfold leakL
  congr 1
  refine List.filter_congr fun i _ => ?_
  have h1 := hM (i + 1) (by omega)
  have h2 := hS i
  have e : M.getD (i + 1) false = S.getD i false := by
    rw [Bool.eq_iff_iff, getD_mk, getD_mk, h1, h2]
  show (!frOf s i && !M.getD (i + 1) false) = _
  rw [e]
def LkQ (w : World) (s : SV) (e : Ending) (w' : World) : Prop :=
  ∃ S p c, (∀ c, mk S c ↔ Rch s.vs (ttOf s) (c + 1)) ∧ e = .returned (.slice p (leakL (frOf s) (fun i => S.getD i false) s.rs.length).length c) ∧ IR w' p (leakL (frOf s) (fun i => S.getD i false) s.rs.length) ∧ RowKit.Below w.heap.size w w'
theorem leaks15_any (g : GR) (s : SV) (w : World) (hs : Rt g s) (hg : Gok g) (hl : s.lies w) (hF : g.F ≤ 1000) (hn : s.rs.length ≤ 1000) : Calls Tryd.prog 15 #[.agg s.A] w (LkQ w s) := by
  obtain ⟨w2, hw2⟩ : ∃ w2, w.alloc (.cells s.A 33) = w2 := ⟨_, rfl⟩
  have hb2 : RowKit.Below w.heap.size w w2 := by rw [← hw2]; exact alloc_below w _
  have HK := hdn (show Bk w2 w.heap.size 33 s.A by rw [← hw2]; exact (MapKept.heap_alloc w _).1)
  have HW := hdn hw2
  have HB2 := hdn hb2
  have HL : Hid (s.lies w2) := hdn (hl.below hb2)
  have HLD := hdn (led_any g s w2 hs hg HL.out hF hn)
  have hnI : (s.rs.length : Int) ≤ 1000 := by omega
  have s1 : w2.cell? ⟨w.heap.size, 1, none⟩ = some (.slice s.vp s.vs.length s.vc) := HK.out.cell 1
  obtain ⟨i3, hi3, hz3, hs3, hb3⟩ := i3
  have HI3 := hdn hi3
  have HZ3 := hdn hz3
  have HS3' := hdn hs3
  have HB3' := hdn hb3
  clear hw2 hb2 hl hs hg hF hi3 hz3 hs3 hb3
  go_enter Tryd.func15, Tryd.ntmps15
  go_upto_region 1 with fail
  rw [HW.out]
  go_upto_region 2 with (first
    | ((with_reducible show wpList _ _ _ (Oper.mk (some 6) _ _ _ _ _ :: _) _ _); refine wpList_load_bk rfl 33 _ rfl w.heap.size 33 s.A rfl _ HK.out Tryd.underlying33 rfl size33 ?_)
    | (go_at_call 43; refine HLD.out.mono ?_; rintro e w4 ⟨lr, S, rfl, m1, m2, m3, m4⟩; have HB4 : Hid (RowKit.Below w2.heap.size w2 w4) := hdn m4; have HM1 := hdn m1; have HM2 := hdn m2; have HM3 := hdn m3; clear m1 m2 m3 m4))
  clear s1
  go_wp2_with fail
  have HO0 : Hid (w4.ownsRow w4.heap.size 3 1 (.slice none 0 0) (leakL (frOf s) (fun i => S.getD i false) 0).length (ints (leakL (frOf s) (fun i => S.getD i false) 0))) := hdn (by
    have e0 : leakL (frOf s) (fun i => S.getD i false) 0 = [] := by simp [leakL]
    rw [e0]; exact ⟨rfl, .inl ⟨rfl, rfl⟩⟩)
  have HB40 : Hid (RowKit.Below w4.heap.size w4 w4) := hdn (Below.refl _ _)
  go_loopw [4, 5] (fun v i wr => ∃ (k : Nat) (p : Option Addr) (c : Nat), i = .int .i64 k ∧ v = .slice p (leakL (frOf s) (fun i => S.getD i false) k).length c ∧ k ≤ s.rs.length ∧ Hid (wr.ownsRow w4.heap.size 3 1 (.slice p (leakL (frOf s) (fun i => S.getD i false) k).length c) (leakL (frOf s) (fun i => S.getD i false) k).length (ints (leakL (frOf s) (fun i => S.getD i false) k))) ∧ Hid (RowKit.Below w4.heap.size w4 wr)) (fun _ i _ => s.rs.length - (intOf i).toNat)
  case atStart => exact ⟨0, none, 0, rfl, by simp [leakL], Nat.zero_le _, HO0, HB40⟩
  case round =>
    obtain ⟨k, p, c, rfl, rfl, hk, HO, HB⟩ := hrel
    have HBw : Hid (RowKit.Below w2.heap.size w2 wr) := hdn (HB4.out.trans (HB.out.mono HB4.out.size))
    have s3 : wr.cell? ⟨w.heap.size, 3, none⟩ = some (.slice s.cp s.rs.length s.cc) := (HK.out.below HBw.out HK.out.lt).cell 3
    by_cases hkl : k < s.rs.length
    · obtain ⟨r, hr⟩ : ∃ r, s.rs[k]? = some r := ⟨_, List.getElem?_eq_getElem hkl⟩
      obtain ⟨cb, co, hcp, hit, _⟩ := (HL.out.c.below HBw.out (fun x h => RC.lies_below' h HBw.out)).at_ hr
      have d1 : wr.cell? ⟨cb, co + k * 3 + 1, none⟩ = some (.bool r.c.fr) := hit 1 _ rfl
      have hfr : frOf s k = r.c.fr := by unfold frOf; rw [hr]; rfl
      have HLS : Hid ((leakL (frOf s) (fun i => S.getD i false) (k + 1)) = if r.c.fr = false ∧ S.getD k false = false then (leakL (frOf s) (fun i => S.getD i false) k) ++ [(k : Int) + 1] else (leakL (frOf s) (fun i => S.getD i false) k)) := hdn (by rw [leakL_succ, hfr])
      have hll := leakL_len (frOf s) (fun i => S.getD i false) k
      have HKB : Hid (Bk wr lr 4 (bools S).toArray) := hdn (HM1.out.below HB.out HM1.out.lt)
      have hMk : k < S.length := by rw [HM2.out]; omega
      have ck : wr.cell? ⟨lr, k, none⟩ = some (.bool (S.getD k false)) := by
        rw [HKB.out.cell, List.getElem?_toArray]
        unfold bools
        rw [List.getElem?_map, List.getElem?_eq_getElem hMk, List.getD_eq_getElem?_getD, List.getElem?_eq_getElem hMk]; rfl
      have hk0 : (0 : Int) ≤ (k : Int) := Int.natCast_nonneg _
      have hk1 : (k : Int) < (s.rs.length : Int) := by omega
      generalize S.getD k false = mb at ck HLS
      generalize hff : r.c.fr = ff at *
      rw [hcp] at s3
      clear hit hr hfr hcp hff
      generalize hLL : (leakL (frOf s) (fun i => S.getD i false) k) = LL at *
      clear hLL
      have hLLn : LL.length + 1 ≤ 2000001 := by omega
      cases mb with
      | true =>
        have HT : Hid ((leakL (frOf s) (fun i => S.getD i false) (k + 1)) = LL) := hdn (by rw [HLS.out, if_neg (by simp)])
        clear HLS
        go_wp2_with fail
        go_roundw
        case rel => exact ⟨k + 1, p, c, by go_num, by rw [HT.out], by omega, hdn (by rw [HT.out]; exact HO.out), HB⟩
        case measure => simp [intOf]; omega
      | false =>
        cases ff with
        | true =>
          have HT : Hid ((leakL (frOf s) (fun i => S.getD i false) (k + 1)) = LL) := hdn (by rw [HLS.out, if_neg (by simp)])
          clear HLS
          go_wp2_with fail
          go_roundw
          case rel => exact ⟨k + 1, p, c, by go_num, by rw [HT.out], by omega, hdn (by rw [HT.out]; exact HO.out), HB⟩
          case measure => simp [intOf]; omega
        | false =>
          have HT : Hid ((leakL (frOf s) (fun i => S.getD i false) (k + 1)) = LL ++ [(k : Int) + 1]) := hdn (by rw [HLS.out, if_pos ⟨rfl, rfl⟩])
          clear HLS
          have HOWN : Hid ((wr.alloc (.cells #[.int .i64 ((k : Int) + 1)] 3)).ownsRow w4.heap.size 3 1 (.slice p LL.length c) LL.length (ints LL)) := hdn (ownsRow_keep HO.out (fun m hm => (alloc_below wr _).block m (own_lo HO.out hm).2))
          have HNW : Hid (∀ j u, ([.int .i64 ((k : Int) + 1)] : List Value)[j]? = some u → (wr.alloc (.cells #[.int .i64 ((k : Int) + 1)] 3)).cell? ((⟨wr.heap.size, 0, none⟩ : Addr).add j) = some u) := hdn (fun j u hu => by
            have e : ((⟨wr.heap.size, 0, none⟩ : Addr).add j) = ⟨wr.heap.size, j, none⟩ := by rw [Addr.add_mid]; simp
            rw [e]
            exact (World.cell?_alloc_at _ _ _ _ rfl).trans (by simpa using hu))
          have H1 : Hid (∀ u ∈ ([.int .i64 ((k : Int) + 1)] : List Value), u.oneCell' = true) := hdn (by intro u hu; simp at hu; subst hu; rfl)
          have HBB : Hid (w4.heap.size ≤ (wr.alloc (.cells #[.int .i64 ((k : Int) + 1)] 3)).heap.size) := hdn (by have := HB.out.size; simp; omega)
          have hm1 : LL.length + 1 ≤ maxLen := by unfold maxLen; omega
          have hm2 : (LL.length + 1) * 8 ≤ 140737488355328 := by omega
          go_wp2_with (first
            | (at_builtin; refine wpList_append_lies _ rfl (.tmp 31) (.tmp 34) 28 rfl w4.heap.size 3 i3 _ 1 8 Tryd.underlying28 HI3.out HZ3.out HS3'.out HB3'.out rfl (by decide) (.slice p LL.length c) LL.length (ints LL) rfl HOWN.out _ 1 1 [.int .i64 ((k : Int) + 1)] rfl rfl HNW.out H1.out (by decide) hm1 hm2 HBB.out _ rfl ?_; intro g7 cap7 w6 t1 t2 t3 t4; have HO6 := hdn t1; have HB6 : Hid (RowKit.Below w4.heap.size w4 w6) := hdn ((HB.out.alloc HB.out.size _).grown t2 (Nat.le_trans HB.out.size (alloc_below wr _).size) (fun j hj => (own_lo HOWN.out hj).1)); clear t1 t2 t3 t4))
          go_roundw
          case rel => exact ⟨k + 1, some ⟨g7, 0, none⟩, cap7, by go_num, by rw [HT.out, List.length_append]; rfl, by omega, hdn (by rw [HT.out]; have := HO6.out; simpa [ints] using this), HB6⟩
          case measure => simp [intOf]; omega
    · have hke : k = s.rs.length := by omega
      obtain ⟨p', c', hv, hir⟩ := own_IR HO.out
      obtain ⟨rfl, rfl⟩ : p = p' ∧ c = c' := by injection hv with e1 e2 e3; exact ⟨e1, e3⟩
      have HF : Hid (LkQ w s (.returned (.slice p (leakL (frOf s) (fun i => S.getD i false) k).length c)) wr) := hdn ⟨S, p, c, HM3.out, by rw [hke], by rw [← hke]; exact hir, HB2.out.trans ((HB4.out.trans (HB.out.mono HB4.out.size)).mono HB2.out.size)⟩
      clear hke hv hir
      go_wp2_with fail
      go_ret
      exact HF.out
end Go.Proofs.YtebmhadpkncgfaaDoor
namespace Go.Proofs.YtebmhadpkncgfaaDoor
open Go.RowKit Go.Maps
open Aw.Ac (Acn Opd)
/-- What may change when a state is its own: neither older blocks nor those of its making. -/
def Lv (w w' : World) (t : SV) : Prop := ∀ w'', Gr w' w'' (fun k => k < w.heap.size) → t.lies w''
theorem Lv.now {w w' : World} {t : SV} (h : Lv w w' t) : t.lies w' := h w' (Gr.refl _ _)
/-- A copy of a state under way: the copy in its box, the result still empty. -/
structure OwS (w wr : World) (t : SV) : Prop where
  box : Bk wr w.heap.size 33 t.A
  res : Bk wr (w.heap.size + 1) 33 (stA 0 none 0 0 none 0 0 none 0 0)
  low : RowKit.Below w.heap.size w wr
  sz : w.heap.size + 2 ≤ wr.heap.size
theorem OwS.start (w : World) (s : SV) : OwS w ((w.alloc (.cells s.A 33)).alloc (.cells (stA 0 none 0 0 none 0 0 none 0 0) 33)) s :=
  ⟨alloc2_old _ _ _ _, alloc2_new _ _ _ _, alloc2_below _ _ _, by simp⟩
theorem OwS.far {w wr w' : World} {t : SV} (h : OwS w wr t) (hb : RowKit.Below wr.heap.size wr w') : OwS w w' t :=
  ⟨h.box.below hb h.box.lt, h.res.below hb h.res.lt, h.low.trans (hb.mono h.low.size), Nat.le_trans h.sz hb.size⟩
theorem OwS.put {w wr : World} {t t' : SV} (h : OwS w wr t) (i : Nat) (v : Value) (he : t.A.setIfInBounds i v = t'.A) : OwS w (wr.setCell ⟨w.heap.size, i, none⟩ v) t' := by
  have hb := h.box.set_ i v
  rw [he] at hb
  exact ⟨hb, h.res.far (by show w.heap.size + 1 ≠ w.heap.size; omega) _, h.low.setCell (Nat.le_refl _) _, by have := (grownBy_setC wr ⟨w.heap.size, i, none⟩ v).size; have := h.sz; omega⟩
def OwnSP (w : World) (s : SV) (e : Ending) (w' : World) : Prop := ∃ t : SV, e = .returned (.agg t.A) ∧ Sal s t ∧ Lv w w' t ∧ RowKit.Below w.heap.size w w'
/-- The row lies on. -/
theorem Nw.on {w w3 w4 w5 : World} {g N : Nat} {l : List Int} (h : Nw w w3 g l) (hN : N + 2 ≤ w.heap.size) (hg : Gr w3 w4 (fun k => k = N ∨ k = N + 1)) (h2 : Gr w4 w5 (fun k => k < N)) : IR w5 (some ⟨g, 0, none⟩) l := by
  have hlo := h.lo
  refine h.gr (S := fun k => k < N + 2) ((hg.mono (fun k _ h => by omega)).trans (h2.mono (fun k _ h => by omega))) (by omega)
theorem grN {wr : World} {N i : Nat} {v : Value} : Gr wr (wr.setCell ⟨N, i, none⟩ v) (fun k => k = N ∨ k = N + 1) := (Gr.refl _ _).setCell (fun _ => .inl rfl) v
theorem SV.A_vs (s : SV) (p : Option Addr) (c : Nat) : s.A.setIfInBounds 1 (.slice p s.vs.length c) = ({ s with vp := p, vc := c } : SV).A := by simp [SV.A]
theorem SV.A_is (s : SV) (p : Option Addr) (c : Nat) : s.A.setIfInBounds 2 (.slice p s.is.length c) = ({ s with ip := p, ic := c } : SV).A := by simp [SV.A]
theorem SV.A_cs (s : SV) (p : Option Addr) (c : Nat) (rs : List RC) : s.A.setIfInBounds 3 (.slice p rs.length c) = ({ s with cp := p, rs := rs, cc := c } : SV).A := by simp [SV.A]
theorem SV.A_one (s : SV) : s.A.all (·.oneCell') = true := by simp [SV.A, Value.oneCell']
theorem Out.lay {F : Nat} {w : World} {N : Nat → Prop} {v : Value} {cs : List PC} (h : Out F w N v cs) (hok : ∀ c ∈ cs, c.ok) : ∃ (p : Option Addr) (cap : Nat) (rs : List RC), v = .slice p rs.length cap ∧ rs.map RC.c = cs ∧ ∀ w', Gr w w' (fun k => ¬ N k) → LayR 3 RC.cells RC.lies w' p rs := by
  have h1 := Out.read h
  obtain ⟨p, cap, hv, hN, hx⟩ := h1
  obtain ⟨f, hf⟩ := choose_lt (n := cs.length) (p := fun i (r : RC) => ∃ x, cs[i]? = some x ∧ r.c = x ∧ ∃ g, p = some ⟨g, 0, none⟩ ∧ ∀ w', Gr w w' (fun k => ¬ N k) → w'.rangeAt g (i * 3) r.cells ∧ r.lies w') ⟨⟨0, false, []⟩, none, 0⟩ (fun i hi => by
    have hi' : cs[i]? = some cs[i] := List.getElem?_eq_getElem hi
    obtain ⟨g, q, o, cq, h1, h2, h3, h4, h5, h6⟩ := hx i _ hi'
    exact ⟨⟨cs[i], some ⟨q, o, none⟩, cq⟩, cs[i], hi', rfl, g, h1, fun w' hg => ⟨hg.range (by unfold RC.cells; rw [h6]; exact h4) (fun h => h h2), .inr ⟨q, o, rfl, hg.range h5 (fun h => h h3)⟩, hok _ (List.getElem_mem hi)⟩⟩)
  refine ⟨p, cap, (List.range cs.length).map f, by simpa using hv, ?_, fun w' hg => ?_⟩
  · refine List.ext_getElem? fun i => ?_
    by_cases hi : i < cs.length
    · obtain ⟨x, hx, he, _⟩ := hf i hi
      simp [List.getElem?_range hi, he, hx]
    · rw [List.getElem?_eq_none (by simpa using hi), List.getElem?_eq_none (by omega)]
  · by_cases h0 : cs.length = 0
    · left; simp [h0]
    · obtain ⟨_, _, _, g, hp, _⟩ := hf 0 (by omega)
      refine .inr ⟨g, 0, hp, fun k r hk => ?_⟩
      have hk2 : k < cs.length := by
        have := (List.getElem?_eq_some_iff.1 hk).1; simpa using this
      rw [List.getElem?_map, List.getElem?_range hk2] at hk
      injection hk with hk; subst hk
      obtain ⟨x, hx, he, g', hp', hr⟩ := hf k hk2
      obtain ⟨hr, hl⟩ := hr w' hg
      obtain rfl : g' = g := by rw [hp'] at hp; injection hp with e; injection e
      exact ⟨by rw [Nat.zero_add]; exact hr, hl⟩
theorem SV.oks {w : World} {s : SV} (h : s.lies w) : ∀ c ∈ s.rs.map RC.c, c.ok := fun c hc => by
  obtain ⟨r, hr, rfl⟩ := List.mem_map.1 hc
  obtain ⟨k, hk⟩ := List.getElem?_of_mem hr
  obtain ⟨_, _, _, _, h2⟩ := h.c.at_ hk
  exact h2.2
theorem field59_1 (a c : Value) (p : Option Addr) (n k : Nat) (w : World) : (Instr.field 59 (.agg #[a, .slice p n k, c]) 1).run Tryd.prog w = .ok (.slice p n k) w := by kernel_rfl
theorem own21_any (F : Nat) (s : SV) (w : World) (hl : s.lies w) (hv : s.vs.length ≤ 2000000) (hi : s.is.length ≤ 2000000) (hn : s.rs.length ≤ 2000000) (hlen : ∀ r ∈ s.rs, r.c.to.length = F) (hF : F ≤ 2000000) : Calls Tryd.prog 21 #[.agg s.A] w (OwnSP w s) := by
  obtain ⟨w2, hw2⟩ : ∃ w2, (w.alloc (.cells s.A 33)).alloc (.cells (stA 0 none 0 0 none 0 0 none 0 0) 33) = w2 := ⟨_, rfl⟩
  have HW : Hid ((w.alloc (.cells s.A 33)).alloc (.cells #[.int .i64 0, .slice none 0 0, .slice none 0 0, .slice none 0 0] 33) = w2) := hdn hw2
  have HS : Hid (OwS w w2 s) := hdn (by rw [← hw2]; exact OwS.start w s)
  have HL := hdn hl
  have p1 : w2.cell? ⟨w.heap.size, 1, none⟩ = some (.slice s.vp s.vs.length s.vc) := HS.out.box.cell 1
  have q1 : (w2.alloc (.cells #[] 3)).cell? ⟨w.heap.size, 1, none⟩ = some (.slice s.vp s.vs.length s.vc) := at_below (alloc_below w2 _) p1
  have HO0 := hdn (own_empty w2)
  have HN1 : Hid (IR (w2.alloc (.cells #[] 3)) s.vp s.vs) := hdn ((hl.v.below HS.out.low).below (alloc_below _ _))
  have hFn : 0 + s.vs.length ≤ 4000000 := by omega
  have hFi : 0 + s.is.length ≤ 4000000 := by omega
  have hfd := field59_1 (.int .i64 0) (.bool false)
  clear hw2 hl p1
  go_enter Tryd.func21, Tryd.ntmps21
  go_upto_region 1 with fail
  rw [HW.out]
  go_upto_region 2 with (at_builtin; refine wpList_app_ir rfl (.tmp 3) (.tmp 5) rfl (.slice (some ⟨w2.heap.size, 0, none⟩) 0 0) 0 [] rfl HO0.out s.vp s.vs s.vc s.vs.length rfl rfl HN1.out hFn ?_; intro q' w3 s1 s2 s3 s4; obtain ⟨g1, cp1, rfl, hnw⟩ := app_new s1.out s2.out (fun e => by have := (s3.out.1 e).1; cases this) s4.out; have HNW := hdn hnw; have HS3 := hdn (HS.out.far hnw.below); have f3 := HS3.out.box.frozen 1; have g3 : w3.cell? ⟨w.heap.size, 1, none⟩ = some (.slice s.vp s.vs.length s.vc) := HS3.out.box.cell 1; clear s1 s2 s3 s4 hnw)
  clear f3 g3 q1
  have HS4 := hdn (HS3.out.put (t' := { s with vp := some ⟨g1, 0, none⟩, vc := cp1 }) 1 (.slice (some ⟨g1, 0, none⟩) s.vs.length cp1) (SV.A_vs s _ _))
  have HG4 := hdn (grN (wr := w3) (N := w.heap.size) (i := 1) (v := .slice (some ⟨g1, 0, none⟩) s.vs.length cp1))
  generalize w3.setCell ⟨w.heap.size, 1, none⟩ (.slice (some ⟨g1, 0, none⟩) s.vs.length cp1) = w4 at HS4 HG4 ⊢
  have p2 : w4.cell? ⟨w.heap.size, 2, none⟩ = some (.slice s.ip s.is.length s.ic) := HS4.out.box.cell 2
  have q2 : (w4.alloc (.cells #[] 3)).cell? ⟨w.heap.size, 2, none⟩ = some (.slice s.ip s.is.length s.ic) := at_below (alloc_below w4 _) p2
  have HO4 := hdn (own_empty w4)
  have HN4 : Hid (IR (w4.alloc (.cells #[] 3)) s.ip s.is) := hdn ((HL.out.i.below HS4.out.low).below (alloc_below _ _))
  clear p2
  go_upto_region 3 with (at_builtin; refine wpList_app_ir rfl (.tmp 8) (.tmp 10) rfl (.slice (some ⟨w4.heap.size, 0, none⟩) 0 0) 0 [] rfl HO4.out s.ip s.is s.ic s.is.length rfl rfl HN4.out hFi ?_; intro q' w5 s1 s2 s3 s4; obtain ⟨g2, cp2, rfl, hnw⟩ := app_new s1.out s2.out (fun e => by have := (s3.out.1 e).1; cases this) s4.out; have HNW5 := hdn hnw; have HS5 := hdn (HS4.out.far hnw.below); have f5 := HS5.out.box.frozen 2; have g5 : w5.cell? ⟨w.heap.size, 2, none⟩ = some (.slice s.ip s.is.length s.ic) := HS5.out.box.cell 2; clear s1 s2 s3 s4 hnw)
  clear f5 g5 q2
  have HS6 := hdn (HS5.out.put (t' := { s with vp := some ⟨g1, 0, none⟩, vc := cp1, ip := some ⟨g2, 0, none⟩, ic := cp2 }) 2 (.slice (some ⟨g2, 0, none⟩) s.is.length cp2) (SV.A_is _ _ _))
  have HG6 := hdn (grN (wr := w5) (N := w.heap.size) (i := 2) (v := .slice (some ⟨g2, 0, none⟩) s.is.length cp2))
  generalize w5.setCell ⟨w.heap.size, 2, none⟩ (.slice (some ⟨g2, 0, none⟩) s.is.length cp2) = w6 at HS6 HG6 ⊢
  have p3 : w6.cell? ⟨w.heap.size, 3, none⟩ = some (.slice s.cp s.rs.length s.cc) := HS6.out.box.cell 3
  have HC : Hid (Calls Tryd.prog 47 #[.agg #[.int .i64 0, .slice s.cp s.rs.length s.cc, .bool false]] w6 fun e w' => ∃ v N, e = .returned (.agg #[.int .i64 0, v, .bool false]) ∧ Out F w' N v (s.rs.map RC.c) ∧ (∀ b, N b → w6.heap.size ≤ b) ∧ RowKit.Below w6.heap.size w6 w') := hdn (O2.own_any F s.cp s.cc s.rs w6 (HL.out.c.below HS6.out.low fun _ h => RC.lies_below' h HS6.out.low) hlen hF hn)
  have HOK := hdn (SV.oks HL.out)
  clear hlen
  go_upto_region 4 with (go_at_call 47; refine HC.out.mono ?_; rintro e w7 ⟨v, N, rfl, hout, hN, hb⟩; obtain ⟨cp, cc, rs, rfl, hrs, hlay⟩ := Out.lay hout HOK.out; have HLY := hdn hlay; have HRS := hdn hrs; have HNN := hdn hN; have HB7 := hdn hb; have HS7 := hdn (HS6.out.far hb); have f7 := HS7.out.box.frozen 3; have g7 : w7.cell? ⟨w.heap.size, 3, none⟩ = some (.slice s.cp s.rs.length s.cc) := HS7.out.box.cell 3; clear hout hN hb hrs hlay)
  clear f7 g7 p3
  have HS8 := hdn (HS7.out.put (t' := { s with vp := some ⟨g1, 0, none⟩, vc := cp1, ip := some ⟨g2, 0, none⟩, ic := cp2, cp := cp, rs := rs, cc := cc }) 3 (.slice cp rs.length cc) (SV.A_cs _ _ _ _))
  have HG8 := hdn (grN (wr := w7) (N := w.heap.size) (i := 3) (v := .slice cp rs.length cc))
  generalize w7.setCell ⟨w.heap.size, 3, none⟩ (.slice cp rs.length cc) = w8 at HS8 HG8 ⊢
  have HT : Hid (Sal s ({ s with vp := some ⟨g1, 0, none⟩, vc := cp1, ip := some ⟨g2, 0, none⟩, ic := cp2, cp := cp, rs := rs, cc := cc } : SV)) := hdn ⟨rfl, rfl, rfl, by unfold SV.cs; exact HRS.out.symm⟩
  have HLV : Hid (∀ w9, Gr w8 w9 (fun k => k = w.heap.size + 1) → Lv w w9 ({ s with vp := some ⟨g1, 0, none⟩, vc := cp1, ip := some ⟨g2, 0, none⟩, ic := cp2, cp := cp, rs := rs, cc := cc } : SV)) := hdn (fun w9 h9 w10 h10 => by
    have z1 := HS.out.sz; have z4 := HS4.out.sz; have z6 := HS6.out.sz
    have b5 : Gr w5 w9 (fun k => k = w.heap.size ∨ k = w.heap.size + 1) := (HG6.out.trans (((Gr.of_below HB7.out).trans HG8.out))).trans (h9.mono (fun k _ h => .inr h))
    have b3 : Gr w3 w9 (fun k => k = w.heap.size ∨ k = w.heap.size + 1) := HG4.out.trans ((Gr.of_below HNW5.out.below).trans b5)
    refine ⟨HNW.out.on z1 b3 h10, HNW5.out.on z4 b5 h10, HLY.out w10 ?_⟩
    refine ((HG8.out.mono (fun k _ h => ?_)).trans (h9.mono (fun k _ h => ?_))).trans (h10.mono (fun k _ h => ?_))
    · intro hk; have := HNN.out k hk; omega
    · intro hk; have := HNN.out k hk; omega
    · intro hk; have := HNN.out k hk; omega)
  generalize ({ s with vp := some ⟨g1, 0, none⟩, vc := cp1, ip := some ⟨g2, 0, none⟩, ic := cp2, cp := cp, rs := rs, cc := cc } : SV) = t at HS8 HT HLV
  go_wp2_with (first
    | ((with_reducible show wpList _ _ _ (Oper.mk _ (Op.load 33 _) _ _ _ _ :: _) _ _); refine wpList_load_bk rfl 33 _ rfl w.heap.size 33 t.A rfl _ HS8.out.box Tryd.underlying33 rfl size33 ?_)
    | ((with_reducible show wpList _ _ _ (Oper.mk none (Op.store 33 _ _) _ _ _ _ :: _) _ _); refine wpList_store_all rfl 33 _ _ rfl (w.heap.size + 1) 33 _ t.A rfl rfl HS8.out.res size33 rfl (SV.A_one t) ?_; intro w9 h9 g9))
  exact bodyPost_ret (results_cell_row Tryd.results21 _ w9 (w.heap.size + 1) 33 t.A (0, 0) _ rfl h9.out Tryd.underlying33 rfl size33) rfl ⟨t, rfl, HT.out, HLV.out w9 ((Gr.of_grown g9.out).mono (fun k _ h => by injection h)), HS8.out.low.grown g9.out HS8.out.low.size (fun j hj => by injection hj with hj; omega)⟩
end Go.Proofs.YtebmhadpkncgfaaDoor
