/-
  DERIVED. The walks of 'all signs', of both.
-/
import Derived.Test.YtlpnkllhpienhaaDoorAlls
import Derived.Laws.AppendOwnNone
import Derived.Maps.AppendAt
import Derived.OwnWalk
namespace Go.Proofs.YtlpnkllhpienhaaDoor
open Go.RowKit

def AllPost (T : TypeId) (s : ByteArray) (w : World) (e : Ending) (w' : World) : Prop :=
  ∃ v, e = .returned (.tuple #[v, .int .i64 (Tx.alls s).2.1, .int .i64 (Tx.alls s).2.2]) ∧ w'.ownsRow w.heap.size T 4 v (Tx.alls s).1.length ((Tx.alls s).1.flatMap Tx.cells) ∧ Below w.heap.size w w'
theorem info32 : (Tryd.prog.info? 79).map (fun i => (i.zero, i.size, i.bytes)) = some (some (.agg #[.int .i64 0, .int .i64 0, .string ByteArray.empty, .int .i64 0]), 4, 40) := by kernel_rfl
theorem info33 : (Tryd.prog.info? 28).map (fun i => (i.zero, i.size, i.bytes)) = some (some (.agg #[.int .i64 0, .int .i64 0, .string ByteArray.empty, .int .i64 0]), 4, 40) := by kernel_rfl
theorem own_below {w w' : World} {B : Nat} {e : TypeId} {k : Nat} {v : Value} {n : Nat} {xs : List Value} (h : w.ownsRow B e k v n xs) (hb : Below w.heap.size w w') : w'.ownsRow B e k v n xs :=
  h.kept (w' := w') (row := none) ⟨hb.os, hb.tape, hb.output, hb.size, fun i hi _ => hb.block i hi⟩ (by cases v.ownBlock <;> simp)
theorem sign_new (w : World) (o : Obj) (a : Tx.Sg) (T : TypeId) : ∀ j u, (Tx.cells a)[j]? = some u →
    ((w.alloc o).alloc (.cells #[.int .i64 a.kind, .int .i64 a.pos, .string a.text, .int .i64 a.num] T)).cell? ((⟨w.heap.size + 1, 0, none⟩ : Addr).add j) = some u := by
  intro j u hj
  have h := Blk.new (w.alloc o) T #[.int .i64 a.kind, .int .i64 a.pos, .string a.text, .int .i64 a.num]
  rw [World.size_alloc] at h
  rw [show (⟨w.heap.size + 1, 0, none⟩ : Addr).add j = ⟨w.heap.size + 1, j, none⟩ by simp [Addr.add]; intro h; exact h.symm, h.cell j]
  rw [← hj]; simp [Tx.cells]
theorem sign_one (a : Tx.Sg) : ∀ u ∈ Tx.cells a, u.oneCell' = true := by
  intro u hu
  simp only [Tx.cells, List.mem_cons, List.not_mem_nil, or_false] at hu
  rcases hu with rfl | rfl | rfl | rfl <;> rfl
theorem sign_kept {w w3 : World} {v : Value} {a : Tx.Sg} {T : TypeId} {o : Obj} (h : ((w.alloc (.cells #[.int .i64 a.kind, .int .i64 a.pos, .string a.text, .int .i64 a.num] T)).alloc o).grownBy w3 v.ownBlock) (hn : ∀ k, v.ownBlock = some k → k < w.heap.size) :
    w3.cell? ⟨w.heap.size, 0, none⟩ = some (.int .i64 a.kind) := by
  have hB := (Blk.new w T #[.int .i64 a.kind, .int .i64 a.pos, .string a.text, .int .i64 a.num]).alloc o
  have h3 : Blk w3 w.heap.size T #[.int .i64 a.kind, .int .i64 a.pos, .string a.text, .int .i64 a.num] :=
    (h.block w.heap.size (by simp; omega) (fun e => by have := hn _ e.symm; omega)).trans hB
  exact h3.cell 0

set_option maxHeartbeats 1600000 in
set_option maxRecDepth 100000 in
theorem lexAll_any (s : ByteArray) (w : World) (hs : s.size ≤ 5000000) (hg : Gl w) :
    Calls Tryd.prog 21 #[.string s] w (AllPost 79 s w) := by
  by_cases hl : 65536 < s.size
  · have HE : Hid (Tx.alls s = ([], 0, 3)) := Lib.hid (by unfold Tx.alls; rw [if_pos hl])
    go_enter Tryd.func21, Tryd.ntmps21
    go_wp2_with fail
    refine bodyPost_ret (results_tmp3 rfl _ _ _) rfl ⟨.slice none 0 0, ?_, ?_, Below.refl _ _⟩
    · rw [HE.out]; rfl
    · rw [HE.out]; exact World.ownsRow_nil _ _ _ _
  · obtain ⟨i0, hi0, hz0, hz1, hz2⟩ := info_parts info32
    have HI := Lib.hid hi0; have HZ0 := Lib.hid hz0; have HZ1 := Lib.hid hz1; have HZ2 := Lib.hid hz2
    clear hi0 hz0 hz1 hz2
    have HA : Hid (Tx.alls s = Tx.go (s.size + 1) s 0 []) := Lib.hid (by unfold Tx.alls; rw [if_neg hl])
    go_enter Tryd.func21, Tryd.ntmps21
    go_wp2_with fail
    clear hl
    go_loopw [5, 6] (fun v i wr => ∃ (at_ f : Nat) (acc : List Tx.Sg), i = .int .i64 at_ ∧ at_ ≤ s.size ∧ s.size < at_ + f ∧ Hid (acc.length ≤ at_) ∧ Hid (Tx.go (s.size + 1) s 0 [] = Tx.go f s at_ acc) ∧ Hid (wr.ownsRow w.heap.size 79 4 v acc.length (acc.flatMap Tx.cells)) ∧ Hid (Below w.heap.size w wr)) (fun _ i _ => s.size - (Lib.intOf i).toNat)
    case atStart => exact ⟨0, s.size + 1, [], rfl, Nat.zero_le _, by omega, Lib.hid (Nat.le_refl _), Lib.hid rfl, Lib.hid (World.ownsRow_nil _ _ _ _), Lib.hid (Below.refl _ _)⟩
    case round =>
      obtain ⟨at_, f, acc, rfl, hat, hf, HL, HR, HO, HB⟩ := hrel
      have hnx := next_any s at_ wr hs (hg.below HB.out hg.two)
      have HST := Lib.hid (Tx.nx_stop_le s at_ hat)
      have HAD := Lib.hid (Tx.nx_adv s at_)
      have HGO : Hid (Tx.go f s at_ acc = if (Tx.nx s at_).err = 0 then (if (Tx.nx s at_).sg.kind = 0 then (acc ++ [(Tx.nx s at_).sg], 0, 0) else Tx.go (f - 1) s (Tx.nx s at_).stop (acc ++ [(Tx.nx s at_).sg])) else ([], (Tx.nx s at_).stop, (Tx.nx s at_).err)) := Lib.hid (by
        obtain ⟨f, rfl⟩ : ∃ g, f = g + 1 := ⟨f - 1, by omega⟩
        rfl)
      rw [held_of s at_ hat] at hnx
      generalize Tx.nx s at_ = a at hnx HST HAD HGO
      have HN := Lib.hid hnx
      clear hnx
      go_wp2_with fail
      refine (HN.out).mono ?_; rintro e w1 ⟨rfl, hb⟩
      have HB1 := Lib.hid hb
      clear hb
      have hz : w.heap.size ≤ w1.heap.size := Nat.le_trans HB.out.size HB1.out.size
      by_cases he : a.err = 0
      · have he' : (a.err != 0) = false := by rw [he]; rfl
        have HE := Lib.hid he
        clear he
        have HO1 := Lib.hid (own_below HO.out HB1.out)
        have HNE : Hid (∀ k, u5.ownBlock = some k → k < w1.heap.size) := Lib.hid (fun k hk => Nat.lt_of_lt_of_le (HO.out.lt k hk).2 HB1.out.size)
        cases hk0 : (a.sg.kind == 0)
        · have hkne : a.sg.kind ≠ 0 := by intro e; rw [e] at hk0; cases hk0
          have hadv := HAD.out HE.out hkne
          have hstl := HST.out
          clear hkne
          go_wp2_with (at_builtin; refine wpList_append_own _ rfl (.tmp 24) (.tmp 26) 71 rfl w.heap.size 79 i0 (.agg #[.int .i64 0, .int .i64 0, .string ByteArray.empty, .int .i64 0]) 4 40 Tryd.underlying71 HI.out HZ0.out HZ1.out HZ2.out rfl (by decide) _ acc.length (acc.flatMap Tx.cells) rfl ((HO1.out.alloc _).alloc _) ⟨w1.heap.size + 1, 0, none⟩ 1 1 (Tx.cells a.sg) rfl rfl (sign_new _ _ _ _) (sign_one _) (by have := HL.out; unfold maxLen; omega) (by have := HL.out; omega) (by simp; omega) ?_; intro v' w3 hown' hgrow3 hnil3; have HO3 := Lib.hid hown'; have hcc : w3.cell? ⟨w1.heap.size, 0, none⟩ = some (.int .i64 a.sg.kind) := sign_kept hgrow3 HNE.out; have HB3 : Hid (Below w.heap.size w w3) := Lib.hid ((((HB.out.trans (HB1.out.mono HB.out.size)).alloc hz _).alloc (by simp; omega) _).grown hgrow3 (by simp; omega) (fun q hq => (HO.out.lt q hq).1)); clear hown' hgrow3 hnil3)
          have HCC := Lib.hid hcc
          go_roundw
          case rel =>
            refine ⟨a.stop, f - 1, acc ++ [a.sg], rfl, hstl, by omega, Lib.hid (by have := HL.out; simp; omega), Lib.hid ?_, Lib.hid ?_, Lib.hid ?_⟩
            · rw [HR.out, HGO.out, if_pos HE.out, if_neg (by intro e; rw [e] at hk0; cases hk0)]
            · rw [Tx.cells_snoc, List.length_append]; exact HO3.out
            · exact HB3.out
          case measure => simp [Lib.intOf]; omega
        · go_wp2_with (at_builtin; refine wpList_append_own _ rfl (.tmp 24) (.tmp 26) 71 rfl w.heap.size 79 i0 (.agg #[.int .i64 0, .int .i64 0, .string ByteArray.empty, .int .i64 0]) 4 40 Tryd.underlying71 HI.out HZ0.out HZ1.out HZ2.out rfl (by decide) _ acc.length (acc.flatMap Tx.cells) rfl ((HO1.out.alloc _).alloc _) ⟨w1.heap.size + 1, 0, none⟩ 1 1 (Tx.cells a.sg) rfl rfl (sign_new _ _ _ _) (sign_one _) (by have := HL.out; unfold maxLen; omega) (by have := HL.out; omega) (by simp; omega) ?_; intro v' w3 hown' hgrow3 hnil3; have HO3 := Lib.hid hown'; have hcc : w3.cell? ⟨w1.heap.size, 0, none⟩ = some (.int .i64 a.sg.kind) := sign_kept hgrow3 HNE.out; have HB3 : Hid (Below w.heap.size w w3) := Lib.hid ((((HB.out.trans (HB1.out.mono HB.out.size)).alloc hz _).alloc (by simp; omega) _).grown hgrow3 (by simp; omega) (fun q hq => (HO.out.lt q hq).1)); clear hown' hgrow3 hnil3)
          refine bodyPost_ret (results_tmp3 rfl _ _ _) rfl ⟨v', ?_, ?_, HB3.out⟩
          · rw [HA.out, HR.out, HGO.out, if_pos HE.out, if_pos (by rw [beq_iff_eq] at hk0; exact hk0)]; rfl
          · rw [HA.out, HR.out, HGO.out, if_pos HE.out, if_pos (by rw [beq_iff_eq] at hk0; exact hk0)]
            show World.ownsRow _ _ _ _ _ (acc ++ [a.sg]).length ((acc ++ [a.sg]).flatMap Tx.cells)
            rw [Tx.cells_snoc, List.length_append]; exact HO3.out
      · have he' : (a.err != 0) = true := by rw [bne_iff_ne]; exact he
        have HE := Lib.hid he
        clear he
        go_wp2_with fail
        refine bodyPost_ret (results_tmp3 rfl _ _ _) rfl ⟨.slice none 0 0, ?_, ?_, ?_⟩
        · rw [HA.out, HR.out, HGO.out, if_neg HE.out]; rfl
        · rw [HA.out, HR.out, HGO.out, if_neg HE.out]; exact World.ownsRow_nil _ _ _ _
        · exact (HB.out.trans (HB1.out.mono HB.out.size)).alloc (Nat.le_trans HB.out.size HB1.out.size) _

set_option maxHeartbeats 1600000 in
set_option maxRecDepth 100000 in
theorem refAll_any (s : ByteArray) (w : World) (hs : s.size ≤ 5000000) :
    Calls Tryd.prog 5 #[.string s] w (AllPost 28 s w) := by
  by_cases hl : 65536 < s.size
  · have HE : Hid (Tx.alls s = ([], 0, 3)) := Lib.hid (by unfold Tx.alls; rw [if_pos hl])
    go_enter Tryd.func5, Tryd.ntmps5
    go_wp2_with fail
    refine bodyPost_ret (results_tmp3 rfl _ _ _) rfl ⟨.slice none 0 0, ?_, ?_, Below.refl _ _⟩
    · rw [HE.out]; rfl
    · rw [HE.out]; exact World.ownsRow_nil _ _ _ _
  · obtain ⟨i0, hi0, hz0, hz1, hz2⟩ := info_parts info33
    have HI := Lib.hid hi0; have HZ0 := Lib.hid hz0; have HZ1 := Lib.hid hz1; have HZ2 := Lib.hid hz2
    clear hi0 hz0 hz1 hz2
    have HA : Hid (Tx.alls s = Tx.go (s.size + 1) s 0 []) := Lib.hid (by unfold Tx.alls; rw [if_neg hl])
    go_enter Tryd.func5, Tryd.ntmps5
    go_wp2_with fail
    clear hl
    go_loopw [5, 6] (fun v i wr => ∃ (at_ f : Nat) (acc : List Tx.Sg), i = .int .i64 at_ ∧ at_ ≤ s.size ∧ s.size < at_ + f ∧ Hid (acc.length ≤ at_) ∧ Hid (Tx.go (s.size + 1) s 0 [] = Tx.go f s at_ acc) ∧ Hid (wr.ownsRow w.heap.size 28 4 v acc.length (acc.flatMap Tx.cells)) ∧ Hid (Below w.heap.size w wr)) (fun _ i _ => s.size - (Lib.intOf i).toNat)
    case atStart => exact ⟨0, s.size + 1, [], rfl, Nat.zero_le _, by omega, Lib.hid (Nat.le_refl _), Lib.hid rfl, Lib.hid (World.ownsRow_nil _ _ _ _), Lib.hid (Below.refl _ _)⟩
    case round =>
      obtain ⟨at_, f, acc, rfl, hat, hf, HL, HR, HO, HB⟩ := hrel
      have hnx := refNext_any s at_ wr hs
      have HST := Lib.hid (Tx.nx_stop_le s at_ hat)
      have HAD := Lib.hid (Tx.nx_adv s at_)
      have HGO : Hid (Tx.go f s at_ acc = if (Tx.nx s at_).err = 0 then (if (Tx.nx s at_).sg.kind = 0 then (acc ++ [(Tx.nx s at_).sg], 0, 0) else Tx.go (f - 1) s (Tx.nx s at_).stop (acc ++ [(Tx.nx s at_).sg])) else ([], (Tx.nx s at_).stop, (Tx.nx s at_).err)) := Lib.hid (by
        obtain ⟨f, rfl⟩ : ∃ g, f = g + 1 := ⟨f - 1, by omega⟩
        rfl)
      rw [held_of s at_ hat] at hnx
      generalize Tx.nx s at_ = a at hnx HST HAD HGO
      have HN := Lib.hid hnx
      clear hnx
      go_wp2_with fail
      refine (HN.out).mono ?_; rintro e w1 ⟨rfl, hb⟩
      have HB1 := Lib.hid hb
      clear hb
      have hz : w.heap.size ≤ w1.heap.size := Nat.le_trans HB.out.size HB1.out.size
      by_cases he : a.err = 0
      · have he' : (a.err != 0) = false := by rw [he]; rfl
        have HE := Lib.hid he
        clear he
        have HO1 := Lib.hid (own_below HO.out HB1.out)
        have HNE : Hid (∀ k, u5.ownBlock = some k → k < w1.heap.size) := Lib.hid (fun k hk => Nat.lt_of_lt_of_le (HO.out.lt k hk).2 HB1.out.size)
        cases hk0 : (a.sg.kind == 0)
        · have hkne : a.sg.kind ≠ 0 := by intro e; rw [e] at hk0; cases hk0
          have hadv := HAD.out HE.out hkne
          have hstl := HST.out
          clear hkne
          go_wp2_with (at_builtin; refine wpList_append_own _ rfl (.tmp 24) (.tmp 26) 23 rfl w.heap.size 28 i0 (.agg #[.int .i64 0, .int .i64 0, .string ByteArray.empty, .int .i64 0]) 4 40 Tryd.underlying23 HI.out HZ0.out HZ1.out HZ2.out rfl (by decide) _ acc.length (acc.flatMap Tx.cells) rfl ((HO1.out.alloc _).alloc _) ⟨w1.heap.size + 1, 0, none⟩ 1 1 (Tx.cells a.sg) rfl rfl (sign_new _ _ _ _) (sign_one _) (by have := HL.out; unfold maxLen; omega) (by have := HL.out; omega) (by simp; omega) ?_; intro v' w3 hown' hgrow3 hnil3; have HO3 := Lib.hid hown'; have hcc : w3.cell? ⟨w1.heap.size, 0, none⟩ = some (.int .i64 a.sg.kind) := sign_kept hgrow3 HNE.out; have HB3 : Hid (Below w.heap.size w w3) := Lib.hid ((((HB.out.trans (HB1.out.mono HB.out.size)).alloc hz _).alloc (by simp; omega) _).grown hgrow3 (by simp; omega) (fun q hq => (HO.out.lt q hq).1)); clear hown' hgrow3 hnil3)
          have HCC := Lib.hid hcc
          go_roundw
          case rel =>
            refine ⟨a.stop, f - 1, acc ++ [a.sg], rfl, hstl, by omega, Lib.hid (by have := HL.out; simp; omega), Lib.hid ?_, Lib.hid ?_, Lib.hid ?_⟩
            · rw [HR.out, HGO.out, if_pos HE.out, if_neg (by intro e; rw [e] at hk0; cases hk0)]
            · rw [Tx.cells_snoc, List.length_append]; exact HO3.out
            · exact HB3.out
          case measure => simp [Lib.intOf]; omega
        · go_wp2_with (at_builtin; refine wpList_append_own _ rfl (.tmp 24) (.tmp 26) 23 rfl w.heap.size 28 i0 (.agg #[.int .i64 0, .int .i64 0, .string ByteArray.empty, .int .i64 0]) 4 40 Tryd.underlying23 HI.out HZ0.out HZ1.out HZ2.out rfl (by decide) _ acc.length (acc.flatMap Tx.cells) rfl ((HO1.out.alloc _).alloc _) ⟨w1.heap.size + 1, 0, none⟩ 1 1 (Tx.cells a.sg) rfl rfl (sign_new _ _ _ _) (sign_one _) (by have := HL.out; unfold maxLen; omega) (by have := HL.out; omega) (by simp; omega) ?_; intro v' w3 hown' hgrow3 hnil3; have HO3 := Lib.hid hown'; have hcc : w3.cell? ⟨w1.heap.size, 0, none⟩ = some (.int .i64 a.sg.kind) := sign_kept hgrow3 HNE.out; have HB3 : Hid (Below w.heap.size w w3) := Lib.hid ((((HB.out.trans (HB1.out.mono HB.out.size)).alloc hz _).alloc (by simp; omega) _).grown hgrow3 (by simp; omega) (fun q hq => (HO.out.lt q hq).1)); clear hown' hgrow3 hnil3)
          refine bodyPost_ret (results_tmp3 rfl _ _ _) rfl ⟨v', ?_, ?_, HB3.out⟩
          · rw [HA.out, HR.out, HGO.out, if_pos HE.out, if_pos (by rw [beq_iff_eq] at hk0; exact hk0)]; rfl
          · rw [HA.out, HR.out, HGO.out, if_pos HE.out, if_pos (by rw [beq_iff_eq] at hk0; exact hk0)]
            show World.ownsRow _ _ _ _ _ (acc ++ [a.sg]).length ((acc ++ [a.sg]).flatMap Tx.cells)
            rw [Tx.cells_snoc, List.length_append]; exact HO3.out
      · have he' : (a.err != 0) = true := by rw [bne_iff_ne]; exact he
        have HE := Lib.hid he
        clear he
        go_wp2_with fail
        refine bodyPost_ret (results_tmp3 rfl _ _ _) rfl ⟨.slice none 0 0, ?_, ?_, ?_⟩
        · rw [HA.out, HR.out, HGO.out, if_neg HE.out]; rfl
        · rw [HA.out, HR.out, HGO.out, if_neg HE.out]; exact World.ownsRow_nil _ _ _ _
        · exact (HB.out.trans (HB1.out.mono HB.out.size)).alloc (Nat.le_trans HB.out.size HB1.out.size) _

end Go.Proofs.YtlpnkllhpienhaaDoor
