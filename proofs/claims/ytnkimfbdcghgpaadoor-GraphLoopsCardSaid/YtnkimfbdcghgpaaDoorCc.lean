/-
  DERIVED. The walks of a sum's text, of any part's text, and of Text.
-/
import Derived.Test.YtnkimfbdcghgpaaDoorCb
namespace Go.Proofs.YtnkimfbdcghgpaaDoor
open Go.RowKit Go.Sort
open Ac

set_option maxHeartbeats 1600000 in
set_option maxRecDepth 100000 in
theorem text_more (a : Acn) (h : partOk 11 a) (w : World) (hG : Gl w) : Calls Tryd.prog 35 #[.int .u8 ((11 : Nat) : Int), .agg a.cs] w fun e w' => TxPost w 11 a e w' := by
  obtain ⟨wA, hwA⟩ : ∃ wA : World, wA = w.alloc (.cells a.cs 32) := ⟨_, rfl⟩
  have HBA : Hid (Below w.heap.size w wA) := Lib.hid (by rw [hwA]; exact (Below.refl _ _).alloc (Nat.le_refl _) _)
  have HK : Hid (Bk wA w.heap.size 32 a.cs) := Lib.hid (by rw [hwA]; exact heap_alloc_new _ _)
  have HG : Hid (Gl wA) := Lib.hid (hG.below HBA.out (by have := hG.big; omega))
  have c0 : wA.cell? ⟨w.heap.size, 6, none⟩ = some (.int .i64 a.op) := HK.out.cell 6
  have c9 : wA.cell? ⟨w.heap.size, 9, none⟩ = some (.int .i64 a.r.v) := HK.out.cell 9
  have c10 : wA.cell? ⟨w.heap.size, 10, none⟩ = some (.int .i64 a.r.n) := HK.out.cell 10
  obtain ⟨h0, h2, hv, hn⟩ := h
  have CT : Hid (∀ dd os, Calls Tryd.prog 44 #[.agg #[.int .i64 a.r.v, .int .i64 a.r.n]] (grow (redrawn wA dd) os) fun e w'' => e = .returned (.string (bt (opT a.r))) ∧ ∃ p : Regrown, w'' = grow (redrawn wA p.d) p.os) :=
    Lib.hid (fun dd os => Calls.regrown_of (operandText_any a.r hv hn _ (HG.out.below (below_regrown wA dd os) (by have := HG.out.big; omega))))
  have hs : (bt (opT a.r)).size ≤ 22 := opT_size hv hn
  have hop : a.op = 0 ∨ a.op = 1 ∨ a.op = 2 := by omega
  clear hv hn hG h0 h2
  rcases hop with ho | ho | ho
  · have HT : Hid (bt (txt 11 a) = ⟨#[]⟩) := Lib.hid (by unfold txt; rw [ho]; rfl)
    rw [ho] at c0
    clear ho CT hs
    go_enter Tryd.func35, Tryd.ntmps35
    go_upto_region 1 with fail
    rw [← hwA]
    clear hwA
    go_wp2_with fail
    go_ret
    exact ⟨ret_text HT.out.symm, HBA.out⟩
  · have HT : Hid (bt (txt 11 a) = ((⟨#[32]⟩ ++ ⟨#[43]⟩) ++ ⟨#[32]⟩) ++ bt (opT a.r)) := Lib.hid (by
      unfold txt
      rw [ho, show (⟨#[32]⟩ : ByteArray) = bt [32] from rfl, show (⟨#[43]⟩ : ByteArray) = bt [43] from rfl, bt_app, bt_app, bt_app]; rfl)
    rw [ho] at c0
    have c3 : wA.cell? ⟨3, 1, none⟩ = some (.string ⟨#[43]⟩) := HG.out.sums 1 (by omega)
    clear ho
    generalize bt (opT a.r) = tv at *
    go_enter Tryd.func35, Tryd.ntmps35
    go_upto_region 1 with fail
    rw [← hwA]
    clear hwA
    go_wp2_with fail
    have cF := CT.out
    have cS := cell_regrown c0
    have cS9 := cell_regrown c9
    have cS10 := cell_regrown c10
    have cS3 := cell_regrown c3
    refine wp_region_quiet_below (by kernel_rfl) (by kernel_rfl) ?_
    repeat (go_big_quiet_step (with_reducible exact cF _ _))
    refine wpQuiet_nil ?_
    intro _ hw'
    obtain ⟨⟨dq, osq⟩, hw''⟩ := hw'
    subst hw''
    have HB6 := Lib.hid (below_regrown wA dq osq)
    generalize grow (redrawn wA dq) osq = w6 at HB6 ⊢
    clear cF cS cS9 cS10 cS3
    go_wp2_with fail
    go_ret
    exact ⟨ret_text HT.out.symm, HBA.out.trans (HB6.out.mono HBA.out.size)⟩
  · have HT : Hid (bt (txt 11 a) = ((⟨#[32]⟩ ++ ⟨#[45]⟩) ++ ⟨#[32]⟩) ++ bt (opT a.r)) := Lib.hid (by
      unfold txt
      rw [ho, show (⟨#[32]⟩ : ByteArray) = bt [32] from rfl, show (⟨#[45]⟩ : ByteArray) = bt [45] from rfl, bt_app, bt_app, bt_app]; rfl)
    rw [ho] at c0
    have c3 : wA.cell? ⟨3, 2, none⟩ = some (.string ⟨#[45]⟩) := HG.out.sums 2 (by omega)
    clear ho
    generalize bt (opT a.r) = tv at *
    go_enter Tryd.func35, Tryd.ntmps35
    go_upto_region 1 with fail
    rw [← hwA]
    clear hwA
    go_wp2_with fail
    have cF := CT.out
    have cS := cell_regrown c0
    have cS9 := cell_regrown c9
    have cS10 := cell_regrown c10
    have cS3 := cell_regrown c3
    refine wp_region_quiet_below (by kernel_rfl) (by kernel_rfl) ?_
    repeat (go_big_quiet_step (with_reducible exact cF _ _))
    refine wpQuiet_nil ?_
    intro _ hw'
    obtain ⟨⟨dq, osq⟩, hw''⟩ := hw'
    subst hw''
    have HB6 := Lib.hid (below_regrown wA dq osq)
    generalize grow (redrawn wA dq) osq = w6 at HB6 ⊢
    clear cF cS cS9 cS10 cS3
    go_wp2_with fail
    go_ret
    exact ⟨ret_text HT.out.symm, HBA.out.trans (HB6.out.mono HBA.out.size)⟩
theorem ptext_any (p : Nat) (hp : p ≤ 13) (a : Acn) (h : partOk p a) (w : World) (hG : Gl w) : Calls Tryd.prog 35 #[.int .u8 (p : Int), .agg a.cs] w fun e w' => TxPost w p a e w' := by
  have hc : p = 0 ∨ (1 ≤ p ∧ p ≤ 8) ∨ p = 9 ∨ p = 10 ∨ p = 11 ∨ p = 12 ∨ p = 13 := by omega
  rcases hc with rfl | h1 | rfl | rfl | rfl | rfl | rfl
  · exact text_none a w
  · exact text_num p h1 a h w hG
  · exact text_left a h w hG
  · exact text_right a h w hG
  · exact text_more a h w hG
  · exact text_order a h w hG
  · exact text_sense a w

namespace Ac
/-- All numbers are ints. -/
structure Acn.ok (a : Acn) : Prop where
  kind : isInt a.kind
  x : isInt a.x
  y : isInt a.y
  f : isInt a.f
  t : isInt a.t
  pl : isInt a.pl
  op : isInt a.op
  lv : isInt a.l.v
  ln : isInt a.l.n
  rv : isInt a.r.v
  rn : isInt a.r.n
/-- The parts of what may be are as their texts want them. -/
theorem parts_ok (a : Acn) (ho : a.ok) (h : rights a = true) : ∀ p ∈ formOf a.kind.toNat, partOk p a := by
  obtain ⟨h1, h2, h3⟩ := rights_k h
  obtain ⟨k, hk⟩ : ∃ k : Nat, a.kind.toNat = k := ⟨_, rfl⟩
  rw [hk] at h3 ⊢
  have hk' : k < 13 := by omega
  have hx := ho.x; have hy := ho.y; have hf := ho.f; have ht := ho.t; have hpl := ho.pl; have hl := And.intro ho.lv ho.ln; have hr := And.intro ho.rv ho.rn
  have hall : ∀ p, p ≠ 11 → p ≠ 12 → partOk p a := by
    intro p h11 h12
    unfold partOk
    split
    · trivial
    · exact hl
    · exact hr
    · exact absurd rfl h11
    · exact absurd rfl h12
    · trivial
    · unfold numOf
      split <;> assumption
  intro p hp
  by_cases h11 : p = 11
  · subst h11
    have : k = 11 := by
      match k, hk' with
      | 0, _ => simp [formOf] at hp
      | 1, _ => simp [formOf] at hp
      | 2, _ => simp [formOf] at hp
      | 3, _ => simp [formOf] at hp
      | 4, _ => simp [formOf] at hp
      | 5, _ => simp [formOf] at hp
      | 6, _ => simp [formOf] at hp
      | 7, _ => simp [formOf] at hp
      | 8, _ => simp [formOf] at hp
      | 9, _ => simp [formOf] at hp
      | 10, _ => simp [formOf] at hp
      | 11, _ => rfl
      | 12, _ => simp [formOf] at hp
    subst this
    have hw : within a.op 0 2 = true := by
      cases hw : within a.op 0 2
      · simp [formOf, goR, tk, numOf, setNum, hw] at h3
      · rfl
    have := within_iff.1 hw
    exact ⟨this.1, this.2, hr.1, hr.2⟩
  · by_cases h12 : p = 12
    · subst h12
      have : k = 12 := by
        match k, hk' with
        | 0, _ => simp [formOf] at hp
        | 1, _ => simp [formOf] at hp
        | 2, _ => simp [formOf] at hp
        | 3, _ => simp [formOf] at hp
        | 4, _ => simp [formOf] at hp
        | 5, _ => simp [formOf] at hp
        | 6, _ => simp [formOf] at hp
        | 7, _ => simp [formOf] at hp
        | 8, _ => simp [formOf] at hp
        | 9, _ => simp [formOf] at hp
        | 10, _ => simp [formOf] at hp
        | 11, _ => simp [formOf] at hp
        | 12, _ => rfl
      subst this
      have hw : within a.op 0 1 = true := by
        cases hw : within a.op 0 1
        · simp [formOf, goR, tk, numOf, setNum, hw] at h3
        · rfl
      exact within_iff.1 hw
    · exact hall p h11 h12
theorem txt_len (p : Nat) (a : Acn) (h : partOk p a) : (txt p a).length ≤ 40 := by
  have hnum : ∀ q, isInt (numOf q a) → (32 :: numT q (numOf q a)).length ≤ 40 := by
    intro q hq
    have := itoa_size _ hq.1 hq.2
    rw [bt_size] at this
    unfold numT
    split
    · simp [nullW]
    · simp; omega
  unfold txt
  split
  · simp
  · have := opT_size h.1 h.2; simp; omega
  · have := opT_size h.1 h.2; simp; omega
  · have := opT_size h.2.2.1 h.2.2.2
    split
    · simp
    · have h1 : (sumOf a.op).length ≤ 1 := by unfold sumOf; split <;> simp
      simp; omega
  · have h1 : (ordOf a.op).length ≤ 2 := by unfold ordOf; split <;> simp
    simp; omega
  · split <;> simp [yesW, noW]
  · rename_i q h0 h9 h10 h11 h12 h13
    refine hnum _ ?_
    unfold partOk at h
    split at h <;> simp_all
theorem txts_len : ∀ (l : List Nat) (a : Acn), (∀ p ∈ l, partOk p a) → (txts l a).length ≤ 40 * l.length
  | [], _, _ => by simp [txts]
  | p :: l, a, h => by
    have h1 := txt_len p a (h p (List.mem_cons_self ..))
    have h2 := txts_len l a (fun q hq => h q (List.mem_cons_of_mem _ hq))
    simp only [txts, List.length_append, List.length_cons]; omega
theorem word_len (k : Nat) : (wordOf k).length ≤ 4 := by unfold wordOf; split <;> decide
end Ac
end Go.Proofs.YtnkimfbdcghgpaaDoor
