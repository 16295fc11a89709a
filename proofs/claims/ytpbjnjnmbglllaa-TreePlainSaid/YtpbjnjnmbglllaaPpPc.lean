/-
  DERIVED. The walks of the program's Plain: lists of Pc.
-/
import Derived.Test.YtpbjnjnmbglllaaPo
import Derived.Lib.AppendZeros
import Derived.StillTailTactics
import Derived.Deep.AppendLies
import Derived.Deep.DeepMust
namespace Go.Proofs.Ytpbjnjnmbglllaa
open Go.RowKit Go.Sort

theorem zinfoPc : (Try.prog.info? 43).map (fun i => (i.zero, i.size, i.bytes)) = some (some (.agg #[.string ByteArray.empty, .int .i64 0, .int .i64 0, .slice none 0 0, .slice none 0 0, .slice none 0 0]), 6, 104) := by kernel_rfl
theorem psizePc : (Try.prog.info? 43).map (·.size) = some 6 := by kernel_rfl
theorem penters74 : ∀ args w, (callFunc 74 args).run Try.prog w = .ok (.enter 74 args) w := enters Try.func74 (by kernel_rfl) rfl
theorem penters47 : ∀ args w, (callFunc 47 args).run Try.prog w = .ok (.enter 47 args) w := enters Try.func47 (by kernel_rfl) rfl

set_option maxHeartbeats 800000 in
set_option maxRecDepth 100000 in
theorem growPc (n : Nat) (w : World) (hn : n * 104 ≤ 140737488351232) :
    Calls Try.prog 72 #[.slice none 0 0, .int .i64 n] w fun e w' => ∃ p c, e = .returned (.slice p 0 c) ∧ w'.ownsRow w.heap.size 43 6 (.slice p 0 c) 0 [] ∧ Below w.heap.size w w' := by
  have hn1 : n ≤ 9223372036854775807 := by omega
  by_cases h0 : n = 0
  · subst h0
    go_enter Try.func72, Try.ntmps72
    go_wp2
    go_ret
    exact ⟨_, _, rfl, World.ownsRow_nil _ _ _ _, Below.refl _ _⟩
  · obtain ⟨i0, hi0, hz0, hz1, hz2⟩ := info_parts zinfoPc
    have h1 : 0 < n := by omega
    have hr := fun (W : World) => Lib.run_append_nil_zeros (P := Try.prog) W 32 3 32 43 i0 _ .i64 .i64 Try.underlying32 Try.underlying3 hi0 hz0 n h1 (by rw [hz1]; decide) (by omega) (by rw [hz2]; omega)
    have HR := Lib.hid hr
    have HZ1 := Lib.hid hz1
    clear hr hi0 hz0 hz1 hz2
    go_enter Try.func72, Try.ntmps72
    go_wp2_with (at_builtin; refine Lib.wpList_append_run _ rfl _ _ _ _ rfl _ _ rfl rfl _ _ (HR.out _) ?_)
    go_ret
    have hge : n ≤ grownCap w n 0 43 := grownCap_ge w n 0 43
    have hle : grownCap w n 0 43 ≤ maxLen := grownCap_le_maxLen w n 0 43 (by unfold maxLen; omega)
    refine ⟨_, _, rfl, World.ownsRow_made w.drew _ _ (Nat.le_refl _) hle ?_, (below_drew (Below.refl _ _)).alloc (Nat.le_refl _) _⟩
    rw [Array.size_append, size_zeroCells, size_zeroCells]
    show n * 6 + (grownCap w n 0 43 - n) * 6 = grownCap w n 0 43 * 6
    rw [← Nat.add_mul]
    congr 1
    omega

set_option maxHeartbeats 1600000 in
set_option maxRecDepth 100000 in
theorem cloPc (l : List Pc) (x : Pc) (k : Nat) (v : Value) (b q bx : Nat) (w0 w : World) (hl : l.length * 104 ≤ 140737488351232) (hb : Below w0.heap.size w0 w) (hG : kPc.Grows w0.heap.size l k v w) (hx : l[k]? = some x) (hr : w0.rangeAt b q (kPc.cells x)) (hR : kPc.R w0 x)
    (hc : w0.cell? ⟨bx, 0, none⟩ = some (.func (.func 47) #[] #[])) (hF : kPc.Body 47 x) :
    Calls Try.prog 74 #[v, .int .i64 k, .pointer (some ⟨b, q, none⟩), .pointer (some ⟨bx, 0, none⟩)] w fun e w' => ∃ v', e = .returned v' ∧ kPc.Grows w0.heap.size l (k + 1) v' w' ∧ Below w0.heap.size w0 w' := by
  obtain ⟨ys, y1, y2, y3, y4, y5⟩ := hG
  obtain ⟨i0, hi0, hz0, hz1, hz2⟩ := info_parts zinfoPc
  have hkl : k < l.length := (List.getElem?_eq_some_iff.1 hx).1
  have hkb : (k + 1) * 104 ≤ 140737488351232 := Nat.le_trans (Nat.mul_le_mul_right _ hkl) hl
  obtain ⟨cs, hcs⟩ : ∃ cs : Array Value, cs = (kPc.cells x).toArray := ⟨_, rfl⟩
  have HRG : Hid (w.rangeAt b q cs.toList) := Lib.hid (by rw [hcs]; exact rangeAt_below hr hb)
  have HSZ : Hid ((Try.prog.info? 43).map (·.size) = some cs.size) := Lib.hid (by rw [hcs]; exact psizePc)
  have HCZ : Hid (6 = cs.size) := Lib.hid (by rw [hcs]; exact (kPc.len x).symm)
  have HON : Hid (∀ u ∈ cs.toList, u.oneCell' = true) := Lib.hid (by rw [hcs]; exact fun u hu => by have := Array.all_eq_true'.1 (kPc.one x) u (by simpa using hu); exact this)
  have HLN : Hid (cs.toList.length = 1 * 6) := Lib.hid (by rw [hcs]; exact kPc.len x)
  have HCS : Hid (cs.toList = kPc.cells x) := Lib.hid (by rw [hcs])
  clear hcs
  have HOA : Hid ((w.alloc (.cells cs 43)).ownsRow w0.heap.size 43 6 v k (ys.flatMap kPc.cells)) := Lib.hid (World.ownsRow.alloc y4 _)
  have HBA : Hid (Below w0.heap.size w0 (w.alloc (.cells cs 43))) := Lib.hid (hb.alloc hb.size _)
  have HNW : Hid ((w.alloc (.cells cs 43)).heap[w.heap.size]? = some (.cells cs 43 (0, 0))) := Lib.hid (heap_alloc_new _ _)
  have HHI := Lib.hid hi0; have HZ0 := Lib.hid hz0; have HZ1 := Lib.hid hz1; have HZ2 := Lib.hid hz2
  have HY1 := Lib.hid y1; have HY2 := Lib.hid y2; have HY3 := Lib.hid y3; have HY5 := Lib.hid y5
  have HX := Lib.hid hx; have HR := Lib.hid hR; have HC := Lib.hid hc; have HF := Lib.hid hF; have HB := Lib.hid hb
  have HG4 := Lib.hid y4
  clear hi0 hz0 hz1 hz2 y1 y2 y3 y4 y5 hx hR hc hF hr hb
  have hk0 : (0 : Int) ≤ (k : Int) := Int.natCast_nonneg _
  go_enter Try.func74, Try.ntmps74
  go_wp2_with (first
    | ((with_reducible show wpList _ _ _ (Oper.mk _ (Op.load 43 _) _ _ _ _ :: _) _ _); refine wpList_load_arr rfl 43 _ rfl b q rfl cs _ HRG.out Try.underlying43 rfl HSZ.out ?_)
    | ((with_reducible show wpList _ _ _ (Oper.mk _ (Op.buildSlice _ _ _) _ _ _ _ :: _) _ _); refine wpList_one rfl 32 43 (.tmp 11) rfl cs rfl Try.underlying32 i0 _ 6 HHI.out HZ0.out HZ1.out (by decide) (by decide) HCZ.out ?_)
    | (at_builtin; go_must (refine wpList_append_lies _ rfl (.tmp 8) (.tmp 12) 32 rfl w0.heap.size 43 i0 (.agg #[.string ByteArray.empty, .int .i64 0, .int .i64 0, .slice none 0 0, .slice none 0 0, .slice none 0 0]) 6 104 Try.underlying32 HHI.out HZ0.out HZ1.out HZ2.out rfl (by decide) v k _ rfl HOA.out ⟨w.heap.size, 0, none⟩ 1 1 cs.toList rfl HLN.out (World.news_of_block HNW.out) HON.out (by decide) (by unfold maxLen; omega) (by omega) HBA.out.size (w.heap.size + 1) (by simp) ?_); intro g cap w1 hown1 hgrow1 hat hlt; have HO1 := Lib.hid hown1; have HGR := Lib.hid hgrow1; have HAT := Lib.hid hat; have HB1 : Hid (Below w0.heap.size w0 w1) := Lib.hid (HBA.out.grown hgrow1 HBA.out.size (fun q hq => (HOA.out.lt q hq).1)); have hc1 : w1.cell? ⟨bx, 0, none⟩ = some (.func (.func 47) #[] #[]) := (HB1.out.cell (p := ⟨bx, 0, none⟩) (World.block_lt_of_cell? w0 _ HC.out)).trans HC.out; clear hown1 hgrow1 hat hlt))
  have hk1 : (k : Int) < ((k : Int) + 1) := by omega
  have hpe := penters47
  go_still_tail 4, (by kernel_rfl)
  change wpList _ _ _ _ _ w1.drew
  have HGB : Hid (w0.heap.size ≤ g) := Lib.hid (HO1.out.lt g rfl).1
  have HFL : Hid ((ys.flatMap kPc.cells).length = k * 6) := Lib.hid (by rw [flat_len kPc.cells 6 kPc.len, HY1.out])
  have HCF := Lib.hid (HF.out g (k * 6) w1.drew (own_mine HO1.out) (own_last (size := 6) (by rw [← HCS.out]; exact HO1.out) HFL.out (kPc.len x)) (kPc.ext x (ext_hole (w := w1.drew) (below_drew HB1.out) HGB.out) HR.out))
  go_wp2_with fail
  refine (HCF.out).mono ?_; rintro en w2 ⟨rfl, y, hy1, hy2, hy3, hy4, hy5⟩
  have HP1 := Lib.hid hy1; have HP2 := Lib.hid hy2; have HP3 := Lib.hid hy3; have HP4 := Lib.hid hy4; have HP5 := Lib.hid (Only.of_drew hy5)
  clear hy1 hy2 hy3 hy4 hy5 hc1
  go_wp2_with fail
  go_ret
  refine ⟨_, rfl, kPc.step HY1.out HY2.out HY3.out (fun z hz => kPc.ext z (rest_below (Below.alloc (Below.refl _ _) (Nat.le_refl _) _)) (HY5.out z hz)) HX.out HBA.out.size HGR.out (by rw [World.size_alloc]; exact HAT.out) (by rw [← HCS.out]; exact HO1.out) HP1.out HP2.out HP3.out HP4.out HP5.out, HB1.out.trans (HP5.out.to_below HGB.out HB1.out.size)⟩

set_option maxHeartbeats 1600000 in
set_option maxRecDepth 100000 in
theorem foldPPc (l : List Pc) (p : Option Addr) (c : Nat) (v0 : Value) (bx : Nat) (w0 w : World) (hl : kPc.Ly w0 p l) (hb : Below w0.heap.size w0 w) (ho : w.ownsRow w0.heap.size 43 6 v0 0 [])
    (hc : w0.cell? ⟨bx, 0, none⟩ = some (.func (.func 47) #[] #[])) (hF : ∀ x ∈ l, kPc.Body 47 x) :
    Calls Try.prog 73 #[.slice p l.length c, v0, .func (.func 74) #[] #[.pointer (some ⟨bx, 0, none⟩)]] w fun e w' => ∃ v', e = .returned v' ∧ kPc.Grows w0.heap.size l l.length v' w' ∧ Below w0.heap.size w0 w' := by
  obtain ⟨hlen0, hl⟩ := hl
  have hlen : l.length * 104 ≤ 140737488351232 := hlen0
  have hlen' : l.length ≤ 6000000000000 := by omega
  have HL := Lib.hid hl; have HB0 := Lib.hid hb; have HG0 : Hid (kPc.Grows w0.heap.size l 0 v0 w) := Lib.hid (Kd.Grows.nil kPc ho); have HC := Lib.hid hc; have HF := Lib.hid hF; have HLN := Lib.hid hlen
  clear hl hb ho hc hF hlen0 hlen
  go_enter Try.func73, Try.ntmps73
  go_wp2_with fail
  go_loopw [1, 10] (fun v i wr => ∃ k : Nat, i = .int .i64 k ∧ k ≤ l.length ∧ Hid (kPc.Grows w0.heap.size l k v wr) ∧ Hid (Below w0.heap.size w0 wr)) (fun _ i _ => l.length - (intOf i).toNat)
  case atStart => exact ⟨0, rfl, Nat.zero_le _, HG0, HB0⟩
  case round =>
    obtain ⟨k, rfl, hk, HG, HB⟩ := hrel
    by_cases hkl : k < l.length
    · obtain ⟨b, o, rfl, hx⟩ : ∃ b o, p = some ⟨b, o, none⟩ ∧ ∀ k x, l[k]? = some x → w0.rangeAt b (o + k * 6) (kPc.cells x) ∧ kPc.R w0 x := by
        rcases HL.out with h | h
        · rw [h] at hkl; simp at hkl
        · exact h
      have hx1 := hx k l[k] (List.getElem?_eq_getElem hkl)
      have HCL := Lib.hid (cloPc l l[k] k u1 b (o + k * 6) bx w0 wr HLN.out HB.out HG.out (List.getElem?_eq_getElem hkl) hx1.1 hx1.2 HC.out (HF.out _ (List.getElem_mem _)))
      have hcl := penters74
      clear hx hx1
      go_wp2_with fail
      refine (HCL.out).mono ?_; rintro en w2 ⟨v2, rfl, hG2, hB2⟩
      have HG2 := Lib.hid hG2; have HB2 := Lib.hid hB2
      clear hG2 hB2 hcl
      go_wp2_with fail
      go_roundw
      case rel => exact ⟨k + 1, by go_num, by omega, HG2, HB2⟩
      case measure => simp [intOf]; omega
    · have hkl' : k = l.length := by omega
      subst hkl'
      go_wp2_with fail
      go_ret
      exact ⟨_, rfl, HG.out, HB.out⟩

set_option maxHeartbeats 800000 in
set_option maxRecDepth 100000 in
theorem allPPc (l : List Pc) (hF : ∀ x ∈ l, kPc.Body 47 x) : kPc.All 46 47 l := by
  intro p c w hl
  have ha : Below w.heap.size w (w.alloc (.cells #[.func (.func 47) #[] #[]] 81)) := (Below.refl _ _).alloc (Nat.le_refl _) _
  have HL0 := Lib.hid (hl.ext (ext_below ha))
  have hlen : l.length * 104 ≤ 140737488351232 := hl.1
  have hlen' : l.length ≤ 6000000000000 := by omega
  have HG := Lib.hid (growPc l.length (w.alloc (.cells #[.func (.func 47) #[] #[]] 81)) hlen)
  have HF := Lib.hid hF; have HA := Lib.hid ha; have HLN := Lib.hid hlen
  clear hl ha hF hlen
  go_enter Try.func46, Try.ntmps46
  go_wp2_with fail
  refine (HG.out).mono ?_; rintro en w1 ⟨p1, c1, rfl, ho1, hb1⟩
  have HO1 := Lib.hid ho1; have HB1 := Lib.hid hb1
  clear ho1 hb1
  have HFO := Lib.hid (foldPPc l p c (.slice p1 0 c1) w.heap.size (w.alloc (.cells #[.func (.func 47) #[] #[]] 81)) w1 HL0.out HB1.out HO1.out (cell_of_row _ _ 0 _ _ _ (heap_alloc_new _ _)) HF.out)
  go_wp2_with fail
  refine (HFO.out).mono ?_; rintro en w2 ⟨v2, rfl, hG2, hB2⟩
  obtain ⟨p2, c2, l2, rfl, h1, h2, h3⟩ := kPc.fin HLN.out hG2
  have H1 := Lib.hid h1; have H2 := Lib.hid h2; have H3 := Lib.hid h3; have HB2 := Lib.hid hB2
  clear h1 h2 h3 hG2 hB2
  go_wp2_with fail
  go_ret
  exact ⟨_, _, _, rfl, H1.out, H2.out, H3.out.ext (fresh_mono (by simp) _), HA.out.trans (HB2.out.mono HA.out.size)⟩

end Go.Proofs.Ytpbjnjnmbglllaa
