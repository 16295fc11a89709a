/-
  DERIVED. The walks of the document's Reach and of the law's ints; what Reach answers is one list.
-/
import Derived.Test.YtmhpaacjioeknaaGreatTu
import Derived.Test.YtmhpaacjioeknaaGreatP14
namespace Go.Proofs.YtmhpaacjioeknaaGreat
open Go.RowKit Go.Maps Go.Sort Go.WideMaps
open Tj (RchPost)

/-- The places of true, up to the k-th. -/
def pick (bs : List Bool) (k : Nat) : List Int := ((List.range k).filter fun i => bs[i]? == some true).map fun (i : Nat) => (i : Int)
theorem pick_succ (bs : List Bool) (k : Nat) : pick bs (k + 1) = pick bs k ++ (if bs[k]? = some true then [(k : Int)] else []) := by
  unfold pick
  rw [List.range_succ, List.filter_append, List.map_append]
  by_cases h : bs[k]? = some true
  · rw [if_pos h, List.filter_cons, List.filter_nil, h]; rfl
  · rw [if_neg h, List.filter_cons, List.filter_nil, if_neg (by simpa using h)]; rfl
theorem pick_mem {bs : List Bool} {k c : Nat} : (c : Int) ∈ pick bs k ↔ c < k ∧ bs[c]? = some true := by
  unfold pick
  rw [List.mem_map]
  constructor
  · rintro ⟨i, h1, h2⟩
    have : i = c := by omega
    subst this
    rw [List.mem_filter, List.mem_range] at h1
    exact ⟨h1.1, by simpa using h1.2⟩
  · rintro ⟨h1, h2⟩
    exact ⟨c, by rw [List.mem_filter, List.mem_range]; exact ⟨h1, by simp [h2]⟩, rfl⟩
theorem pick_len (bs : List Bool) (k : Nat) : (pick bs k).length ≤ k := by
  unfold pick
  rw [List.length_map]
  have := List.length_filter_le (fun i => bs[i]? == some true) (List.range k)
  rwa [List.length_range] at this
theorem pick_lt (bs : List Bool) (k : Nat) : (pick bs k).Pairwise (fun x y => x < y) := by
  unfold pick
  rw [List.pairwise_map]
  refine List.Pairwise.imp ?_ ((List.pairwise_lt_range (n := k)).filter _)
  intro a b h; omega
theorem pick_of {bs : List Bool} {k : Nat} : ∀ x ∈ pick bs k, ∃ c : Nat, x = (c : Int) ∧ c < k := by
  intro x hx
  unfold pick at hx
  rw [List.mem_map] at hx
  obtain ⟨i, h1, rfl⟩ := hx
  rw [List.mem_filter, List.mem_range] at h1
  exact ⟨i, rfl, h1.1⟩
/-- Sorted, each once, with the same members: the same. -/
theorem sorted_one : ∀ {fs gs : List Int}, fs.Pairwise (fun x y => x ≤ y) → fs.Nodup → gs.Pairwise (fun x y => x ≤ y) → gs.Nodup → (∀ x, x ∈ fs ↔ x ∈ gs) → fs = gs
  | [], [], _, _, _, _, _ => rfl
  | [], y :: gs, _, _, _, _, h => by have := (h y).2 List.mem_cons_self; cases this
  | x :: fs, [], _, _, _, _, h => by have := (h x).1 List.mem_cons_self; cases this
  | x :: fs, y :: gs, h1, h2, h3, h4, h => by
    have e : x = y := by
      have a := (h x).1 List.mem_cons_self
      have b := (h y).2 List.mem_cons_self
      rcases List.mem_cons.1 a with a | a
      · exact a
      · rcases List.mem_cons.1 b with b | b
        · exact b.symm
        · have := (List.pairwise_cons.1 h1).1 y b
          have := (List.pairwise_cons.1 h3).1 x a
          omega
    subst e
    congr 1
    refine sorted_one (List.pairwise_cons.1 h1).2 (List.nodup_cons.1 h2).2 (List.pairwise_cons.1 h3).2 (List.nodup_cons.1 h4).2 fun z => ?_
    constructor
    · intro hz
      rcases List.mem_cons.1 ((h z).1 (List.mem_cons_of_mem _ hz)) with q | q
      · subst q; exact absurd hz (List.nodup_cons.1 h2).1
      · exact q
    · intro hz
      rcases List.mem_cons.1 ((h z).2 (List.mem_cons_of_mem _ hz)) with q | q
      · subst q; exact absurd hz (List.nodup_cons.1 h4).1
      · exact q
theorem rch_one {l : List Pc} {nm : ByteArray} {fs gs : List Int} (hf : RchPost l nm fs) (hg : RchPost l nm gs) : fs = gs := by
  rcases hf with ⟨h1, rfl⟩ | ⟨h1, _, h2, h3, h4, h5⟩
  · rcases hg with ⟨_, rfl⟩ | ⟨k1, _⟩
    · rfl
    · exact absurd k1 h1
  · rcases hg with ⟨k1, _⟩ | ⟨_, _, k2, k3, k4, k5⟩
    · exact absurd h1 k1
    · refine sorted_one h2 h3 k2 k3 fun x => ?_
      constructor
      · intro hx
        obtain ⟨c, rfl, _⟩ := h5 x hx
        exact (k4 c).2 ((h4 c).1 hx)
      · intro hx
        obtain ⟨c, rfl, _⟩ := k5 x hx
        exact (h4 c).2 ((k4 c).1 hx)
theorem rch_len {l : List Pc} {nm : ByteArray} {fs : List Int} (h : RchPost l nm fs) : fs.length ≤ l.length := by
  rcases h with ⟨_, rfl⟩ | ⟨_, _, _, h3, _, h5⟩
  · exact Nat.zero_le _
  · exact nodup_len h3 h5
set_option maxHeartbeats 3200000 in
set_option maxRecDepth 100000 in
theorem rreach_any (sv_ gv : Value) (s : Sl Pc) (nm : ByteArray) (w : World) (h : pcsLie w s) (hP : PsOk s.l) :
    Calls Tryz.prog 10 #[.agg #[sv_, gv, .slice s.p s.l.length s.cap], .string nm] w fun e w' => ∃ v fs, e = .returned v ∧ OR w' w.heap.size v fs ∧ RchPost s.l nm fs ∧ Below w.heap.size w w' := by
  have HBA : Hid (Below w.heap.size w (w.alloc (.cells #[sv_, gv, .slice s.p s.l.length s.cap] 26))) := Lib.hid ((Below.refl _ _).alloc (Nat.le_refl _) _)
  have HX := Lib.hid (prog_box w sv_ gv (.slice s.p s.l.length s.cap))
  have HPS : Hid (pcsLie (w.alloc (.cells #[sv_, gv, .slice s.p s.l.length s.cap] 26)) s) := Lib.hid (pcsLie_below h HBA.out)
  have HP := Lib.hid hP
  have HFI := Lib.hid (find_any sv_ gv s nm (w.alloc (.cells #[sv_, gv, .slice s.p s.l.length s.cap] 26)) HPS.out hP.len)
  clear h hP
  go_enter Tryz.func10, Tryz.ntmps10
  go_upto_region 1 with fail
  have HXS : Hid (w.heap.size < (w.alloc (.cells #[sv_, gv, .slice s.p s.l.length s.cap] 26)).heap.size) := Lib.hid (by simp)
  generalize w.alloc (.cells #[sv_, gv, .slice s.p s.l.length s.cap] 26) = wA at HBA HX HPS HFI HXS ⊢
  have b0 : wA.cell? ⟨w.heap.size, 0, none⟩ = some sv_ := HX.out.cell 0
  have b1 : wA.cell? ⟨w.heap.size, 1, none⟩ = some gv := HX.out.cell 1
  have b2 : wA.cell? ⟨w.heap.size, 2, none⟩ = some (.slice s.p s.l.length s.cap) := HX.out.cell 2
  go_wp2_with fail
  refine (HFI.out).mono ?_
  rintro en w2 ⟨rfl, hb⟩
  have HB2 : Hid (Below w.heap.size w w2) := Lib.hid (HBA.out.trans (hb.mono HBA.out.size))
  have HX2 := Lib.hid (HX.out.below hb HX.out.lt)
  have HP2 := Lib.hid (pcsLie_below HPS.out hb)
  clear b0 b1 b2 hb
  rcases hin : isIn (nms s.l) nm with _ | _
  · have hn : numF (nms s.l) nm = -1 := by unfold numF; rw [if_neg (by rw [hin]; decide)]
    have HNI : Hid (nm ∉ nms s.l) := Lib.hid fun q => by rw [isIn_iff.2 q] at hin; cases hin
    rw [hn]
    clear hn hin
    go_wp2_with fail
    go_ret
    exact ⟨_, [], rfl, World.ownsRow_nil _ _ _ _, .inl ⟨HNI.out, rfl⟩, HB2.out⟩
  · have hn : numF (nms s.l) nm = (plc (nms s.l) nm : Int) := by unfold numF; rw [if_pos hin]
    have HIN : Hid (nm ∈ nms s.l) := Lib.hid (isIn_iff.1 hin)
    have HPL : Hid (plc (nms s.l) nm < s.l.length) := Lib.hid (by have := plc_lt HIN.out; simpa [nms] using this)
    rw [hn]
    clear hn hin
    generalize hpp : plc (nms s.l) nm = i at HPL ⊢
    have HPP := Lib.hid hpp
    clear hpp
    have HRE := Lib.hid (reach_any sv_ gv s i w2 HP2.out HP.out HPL.out)
    have b0 : w2.cell? ⟨w.heap.size, 0, none⟩ = some sv_ := HX2.out.cell 0
    have b1 : w2.cell? ⟨w.heap.size, 1, none⟩ = some gv := HX2.out.cell 1
    have b2 : w2.cell? ⟨w.heap.size, 2, none⟩ = some (.slice s.p s.l.length s.cap) := HX2.out.cell 2
    go_wp2_with fail
    refine (HRE.out).mono ?_
    rintro en w3 ⟨sb, bs, rfl, hbk, hbl, hrt, hb, -⟩
    have HB3 : Hid (Below w.heap.size w w3) := Lib.hid (HB2.out.trans (hb.mono HB2.out.size))
    have HBK := Lib.hid hbk
    have HBL := Lib.hid hbl
    have HRT := hrt
    have HSB : Hid (sb < w3.heap.size) := Lib.hid hbk.lt
    have hsl : (s.l.length : Int) ≤ 1000 := by have := HP.out.len; omega
    clear b0 b1 b2 hb hbk hbl hrt
    go_wp2_with fail
    go_loopw [7, 8] (fun sv si wr => ∃ k : Nat, si = .int .i64 k ∧ k ≤ s.l.length ∧ Hid (OR wr w3.heap.size sv (pick bs k)) ∧ Hid (Below w3.heap.size w3 wr)) (fun _ si _ => s.l.length - (Lib.intOf si).toNat)
    case atStart => exact ⟨0, rfl, Nat.zero_le _, Lib.hid (World.ownsRow_nil _ _ _ _), Lib.hid (Below.refl _ _)⟩
    case round =>
      obtain ⟨k, rfl, hk, HOR, HBR⟩ := hrel
      obtain ⟨av, cv, rfl⟩ := HOR.out.shape
      by_cases hks : k < s.l.length
      · obtain ⟨bb, hbb⟩ : ∃ bb, bs[k]? = some bb := ⟨_, List.getElem?_eq_getElem (by rw [HBL.out]; exact hks)⟩
        have HKR := Lib.hid (HBK.out.below HBR.out HSB.out)
        have ck : wr.cell? ⟨sb, k, none⟩ = some (.bool bb) := by rw [HKR.out.cell k]; simp [hbb]
        have hks' : (k : Int) < (s.l.length : Int) := by omega
        have HPK : Hid (pick bs (k + 1) = pick bs k ++ (if bb = true then [(k : Int)] else [])) := Lib.hid (by rw [pick_succ, hbb]; cases bb <;> simp)
        have HPN : Hid ((pick bs k).length ≤ 1000) := Lib.hid (by have := pick_len bs k; have := HP.out.len; omega)
        clear hbb
        cases bb with
        | false =>
          go_wp2_with fail
          go_roundw
          case rel => exact ⟨k + 1, by go_num, by omega, Lib.hid (by rw [HPK.out, if_neg (by decide), List.append_nil]; exact HOR.out), HBR⟩
          case measure => simp [Lib.intOf]; omega
        | true =>
          go_wp2_with (first | ((with_reducible show wpList _ _ _ (Oper.mk (some 30) _ _ _ _ _ :: _) _ _); refine wpList_app_int rfl 33 und33 (.tmp 27) (.tmp 29) rfl w3.heap.size (pick bs k) (.slice av (pick bs k).length cv) rfl HOR.out HBR.out.size (k : Int) rfl (by have := HPN.out; omega) ?_; intro v' w5 hO hsh hg hto; obtain ⟨g5, c5, rfl⟩ := hsh; have HO5 := Lib.hid hO; have HG5 := Lib.hid hg; clear hO hg hto))
          have HB5 : Hid (Below w3.heap.size w3 w5) := Lib.hid (HBR.out.grown HG5.out HBR.out.size (fun q hq => (HOR.out.lt q hq).1))
          go_roundw
          case rel => exact ⟨k + 1, by go_num, by omega, Lib.hid (by rw [HPK.out, if_pos rfl]; have h9 := HO5.out; unfold OR at h9 ⊢; rw [List.length_append, List.length_singleton] at h9 ⊢; exact h9), HB5⟩
          case measure => simp [Lib.intOf]; omega
      · have hke : k = s.l.length := by omega
        subst hke
        go_wp2_with fail
        go_ret
        have hpw := pick_lt bs s.l.length
        refine ⟨_, pick bs s.l.length, rfl, own_base HOR.out HB3.out.size, .inr ⟨HIN.out, by rw [HPP.out]; exact HPL.out, hpw.imp (fun h => by omega), hpw.imp (fun h => by omega), fun c => ?_, fun x hx => pick_of x hx⟩, HB3.out.trans (HBR.out.mono HB3.out.size)⟩
        rw [pick_mem, HPP.out]
        constructor
        · rintro ⟨_, q⟩; exact (HRT.out c).1 q
        · intro q
          have q2 := (HRT.out c).2 q
          exact ⟨by rw [← HBL.out]; exact (List.getElem?_eq_some_iff.1 q2).1, q2⟩
set_option maxHeartbeats 1600000 in
set_option maxRecDepth 100000 in
theorem ints_m {B1 B2 : Nat} {v1 v2 : Value} {xs : List Int} (w : World) (h1 : OR w B1 v1 xs) (h2 : OR w B2 v2 xs) (hl : xs.length ≤ 1000) :
    Calls Tryz.prog 8 #[v1, v2] w fun e w' => e = .returned (.bool true) ∧ Below w.heap.size w w' := by
  obtain ⟨a1, c1, rfl⟩ := h1.shape
  obtain ⟨a2, c2, rfl⟩ := h2.shape
  have H1 := Lib.hid h1
  have H2 := Lib.hid h2
  have hl' : (xs.length : Int) ≤ 1000 := by omega
  clear h1 h2
  go_enter Tryz.func8, Tryz.ntmps8
  go_wp2_with fail
  go_loopw [5] (fun si wr => ∃ k : Nat, si = .int .i64 k ∧ k ≤ xs.length ∧ Hid (∃ n, wr = w.drewN n)) (fun si _ => xs.length - (Lib.intOf si).toNat)
  case atStart => exact ⟨0, rfl, Nat.zero_le _, Lib.hid ⟨0, rfl⟩⟩
  case round =>
    obtain ⟨k, rfl, hk, HW⟩ := hrel
    have HBW : Hid (Below w.heap.size w wr) := Lib.hid (by obtain ⟨n, rfl⟩ := HW.out; exact below_drewN (Below.refl _ _) n)
    by_cases hks : k < xs.length
    · have q1 := own_below H1.out HBW.out
      have q2 := own_below H2.out HBW.out
      obtain ⟨g1, d1, e1, -, -⟩ := OR.block q1 (by omega)
      obtain ⟨g2, d2, e2, -, -⟩ := OR.block q2 (by omega)
      injection e1 with e1a e1b e1c
      injection e2 with e2a e2b e2c
      subst e1a e2a
      have k1 : wr.cell? ⟨g1, k, none⟩ = some (.int .i64 (fn xs k)) := OR.cell q1 k hks
      have k2 : wr.cell? ⟨g2, k, none⟩ = some (.int .i64 (fn xs k)) := OR.cell q2 k hks
      have hks' : (k : Int) < (xs.length : Int) := by omega
      clear q1 q2 e1b e1c e2b e2c
      generalize fn xs k = x at *
      go_wp2_with fail
      go_quiet (fail)
      go_wp2_with fail
      go_roundw
      case rel => exact ⟨k + 1, by go_num, by omega, Lib.hid (by obtain ⟨n, rfl⟩ := HW.out; exact ⟨_, by rw [World.drewN_drewN]⟩)⟩
      case measure => simp [Lib.intOf]; omega
    · go_wp2_with fail
      go_ret
      exact ⟨rfl, HBW.out⟩
end Go.Proofs.YtmhpaacjioeknaaGreat
