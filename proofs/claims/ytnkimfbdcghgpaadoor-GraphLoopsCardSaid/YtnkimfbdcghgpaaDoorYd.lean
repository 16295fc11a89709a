/-
  DERIVED. The page's example: its edges from a point, its text.
-/
import Derived.Test.YtnkimfbdcghgpaaDoorYc
namespace Go.Proofs.YtnkimfbdcghgpaaDoor
open Go.RowKit Go.Sort

/-- Edges in blocks of their own stand. -/
def KE (w w' : World) : Prop := ∀ (g : Nat) (cs : Array Value), Bk w g 34 cs → Bk w' g 34 cs
theorem KE.trans {a b c : World} (h : KE a b) (k : KE b c) : KE a c := fun g cs hg => k g cs (h g cs hg)
theorem KE.set {w : World} {b : Nat} {cs : Array Value} {t : TypeId} (hb : Bk w b t cs) (ht : t ≠ 34) (i : Nat) (u : Value) : KE w (w.setCell ⟨b, i, none⟩ u) := fun g ds hg => by
  refine hg.far (p := ⟨b, i, none⟩) (fun e => ?_) u
  have e' : g = b := e
  subst e'
  have hb' : w.heap[g]? = some (.cells cs t (0, 0)) := hb
  rw [show w.heap[g]? = _ from hg] at hb'
  injection hb' with hb'; injection hb' with _ hb'
  exact ht hb'.symm
theorem KE.grown {w w' : World} {B e : Nat} {k n : Nat} {v : Value} {xs : List Value} (ho : w.ownsRow B e k v n xs) (he : e ≠ 34) (hg : w.grownBy w' v.ownBlock) : KE w w' := fun g ds hgd => by
  refine (hg.block g hgd.lt (fun h => ?_)).trans hgd
  rcases ho.2 with ⟨rfl, _⟩ | ⟨g', cap, cur, rfl, _, hb, _⟩
  · cases h
  · injection h with h
    have h' : g = g' := h
    subst h'
    rw [show w.heap[g]? = _ from hgd] at hb
    injection hb with hb; injection hb with _ hb
    exact he hb.symm
theorem KE.below {w w' : World} (h : Below w.heap.size w w') : KE w w' := fun _ _ hg => hg.below h hg.lt
theorem Pb.below {B b : Nat} {l : List UInt8} {w w' : World} (h : Pb B b l w) (hb : Below w.heap.size w w') : Pb B b l w' := by
  have go : ∀ a, PbA B b l a w → PbA B b l a w' := by
    rintro a ⟨h1, v, h2, h3, h4⟩
    exact ⟨h1, v, (hb.block b (Array.getElem?_eq_some_iff.1 h2).1).trans h2, own_below h3 hb, h4⟩
  rcases h with h | h
  · exact .inl (go _ h)
  · exact .inr (go _ h)
theorem copyCheck_e (B b : Nat) (l : List UInt8) (w : World) (h : Pb B b l w) :
    Calls Tryd.prog 33 #[.pointer (some ⟨b, 0, none⟩)] w fun e w' => e = .returned (.tuple #[]) ∧ PbA B b l (.pointer (some ⟨b, 0, none⟩)) w' ∧ Below B w w' ∧ KE w w' := by
  rcases h with h | h
  · obtain ⟨c0, hs, hf⟩ := h.cell
    refine (copyCheck_fresh b w c0 hs (hf 0)).mono ?_
    rintro e w' ⟨rfl, rfl⟩
    obtain ⟨hB, v, hb, ho, hn⟩ := h
    exact ⟨rfl, ⟨hB, v, by simp [World.setCell, Array.getElem?_modify, hb], own_set ho hn _ _, hn⟩, (Below.refl B w).setCell (p := ⟨b, 0, none⟩) hB _, KE.set hb (by decide) 0 _⟩
  · refine (copyCheck_used b w h.cell.1).mono ?_
    rintro e w' ⟨rfl, rfl⟩
    exact ⟨rfl, h, Below.refl B _, fun _ _ h => h⟩
set_option maxHeartbeats 2000000 in
set_option maxRecDepth 100000 in
/-- WriteString, and what of edges lies elsewhere. -/
theorem writeStr_e (B b : Nat) (l : List UInt8) (s : ByteArray) (w : World) (h : Pb B b l w) (hlen : l.length + s.size ≤ 140737488355328) (hBw : B ≤ w.heap.size) :
    Calls Tryd.prog 23 #[.pointer (some ⟨b, 0, none⟩), .string s] w fun e w' => e = .returned (.tuple #[.int .i64 s.size, .nilIface]) ∧ Pb B b (l ++ s.data.toList) w' ∧ Below B w w' ∧ KE w w' := by
  obtain ⟨i0, hi, hz0, hz1, hz2⟩ := info_parts infoByte
  go_enter Tryd.func23, Tryd.ntmps23
  go_wp2_with (go_at_call 33; refine (copyCheck_e B b l _ h).mono ?_)
  rintro e w1 ⟨rfl, h1, hb1, hk1⟩
  obtain ⟨c0, _, hf⟩ := h1.cell
  obtain ⟨hB, v, hbk, hown, hne⟩ := h1
  have c1 : w1.cell? ⟨b, 1, none⟩ = some v := cell_of_row _ _ 1 _ _ _ hbk
  go_wp2_with (at_builtin; refine Lib.wpList_append_own_string _ rfl _ _ 50 9 rfl B 5 i0 Tryd.underlying50 Tryd.underlying9 hi hz0 hz1 hz2 _ _ _ rfl hown s rfl ?c3 ?c4 ?c5 ?_)
  case c3 => unfold maxLen; omega
  case c4 => omega
  case c5 => have := hb1.size; omega
  intro v' w2 hown' hgrow _
  have hlt : b < w1.heap.size := (Array.getElem?_eq_some_iff.1 hbk).1
  have hb2 : w2.heap[b]? = some (.cells #[.pointer (some ⟨b, 0, none⟩), v] 52 (0, 0)) := by
    rw [hgrow.block b hlt (fun e => hne e.symm)]
    exact hbk
  have d1 : w2.cell? ⟨b, 1, none⟩ = some v := cell_of_row _ _ 1 _ _ _ hb2
  have f1 : w2.frozen? ⟨b, 1, none⟩ = false := frozen_of_row w2 b 1 _ _ hb2
  have hk2 : KE w1 w2 := KE.grown hown (by decide) hgrow
  obtain ⟨ao, n', cap, rfl⟩ : ∃ ao n' cap, v' = .slice ao n' cap := by
    rcases hown'.2 with ⟨hv, _⟩ | ⟨g, cap, cur, hv, _⟩
    · exact ⟨_, _, _, hv⟩
    · exact ⟨_, _, _, hv⟩
  go_wp2
  refine bodyPost_ret (results_tmp2 rfl _ _ _) rfl ?_
  refine ⟨rfl, .inr (PbA.put hB hb2 (l' := l ++ s.data.toList) ?_), ?_, (hk1.trans hk2).trans (KE.set hb2 (by decide) 1 _)⟩
  · rw [Lib.byteCells_append, ← Lib.strCells_eq, List.length_append, show s.data.toList.length = s.size from rfl]; exact hown'
  · exact (hb1.grown hgrow (by have := hb1.size; omega) (fun k hk => (hown.lt k hk).1)).setCell (p := ⟨b, 1, none⟩) hB _
set_option maxHeartbeats 1600000 in
set_option maxRecDepth 100000 in
theorem outs_g0 (b o : Nat) (w : World) (hr : w.rangeAt b o ed0.cs.toList) : Calls Tryd.prog 11 #[.agg (g0 (some ⟨b, o, none⟩)).cs, .int .i64 0] w fun e w' => (∃ p c, e = .returned (.slice p 1 c)) ∧ Below w.heap.size w w' := by
  obtain ⟨ie, hie, hze, hne, -⟩ := info_parts zinfo34
  have HIE := Lib.hid (And.intro hie (And.intro hze hne))
  have HK1 : Hid (Bk (w.alloc (.cells (g0 (some ⟨b, o, none⟩)).cs 26)) w.heap.size 26 (g0 (some ⟨b, o, none⟩)).cs) := Lib.hid (heap_alloc_new _ _)
  have HB1 : Hid (Below w.heap.size w (w.alloc (.cells (g0 (some ⟨b, o, none⟩)).cs 26))) := Lib.hid ((Below.refl _ _).alloc (Nat.le_refl _) _)
  have c4 : (w.alloc (.cells (g0 (some ⟨b, o, none⟩)).cs 26)).cell? ⟨w.heap.size, 4, none⟩ = some (.slice (some ⟨b, o, none⟩) 1 1) := HK1.out.cell 4
  have HR := Lib.hid hr
  clear hie hze hne hr
  go_enter Tryd.func11, Tryd.ntmps11
  go_wp2_with fail
  go_loopw [11, 5] (fun si v wr => ∃ k : Nat, si = .int .i64 k ∧ k ≤ 1 ∧ Hid (Below w.heap.size w wr) ∧ ∃ p c, v = .slice p k c ∧ (k = 0 → p = none ∧ c = 0)) (fun si _ _ => 1 - (Lib.intOf si).toNat)
  case atStart => exact ⟨0, rfl, Nat.zero_le _, HB1, none, 0, rfl, fun _ => ⟨rfl, rfl⟩⟩
  case round =>
    obtain ⟨k, rfl, hk, HBR, p, c, rfl, hp⟩ := hrel
    have hk2 : k = 0 ∨ k = 1 := by omega
    rcases hk2 with rfl | rfl
    · obtain ⟨rfl, rfl⟩ := hp rfl
      have HRR := Lib.hid (range_below HR.out HBR.out)
      have HE : Hid (Bk (wr.alloc (.cells ed0.cs 34)) wr.heap.size 34 ed0.cs) := Lib.hid (heap_alloc_new _ _)
      have d0 : (wr.alloc (.cells ed0.cs 34)).cell? ⟨wr.heap.size, 0, none⟩ = some (.int .i64 0) := HE.out.cell 0
      have HSZ : Hid (w.heap.size ≤ wr.heap.size) := Lib.hid HBR.out.size
      go_wp2_with (first
        | ((with_reducible show wpList _ _ _ (Oper.mk _ (Op.load 34 _) _ _ _ _ :: _) _ _); refine wpList_load_arr rfl 34 _ rfl b o (by simp [Act.eval]) ed0.cs _ HRR.out Tryd.underlying34 rfl size34 ?_)
        | ((with_reducible show wpList _ _ _ (Oper.mk _ (Op.load 34 _) _ _ _ _ :: _) _ _); refine wpList_load_arr rfl 34 _ rfl wr.heap.size 0 (by simp [Act.eval]) ed0.cs _ HE.out.range Tryd.underlying34 rfl size34 ?_)
        | ((with_reducible show wpList _ _ _ (Oper.mk _ (Op.store 34 _ _) _ _ _ _ :: _) _ _); refine wpList_store_new rfl 34 _ _ rfl _ ed0.cs rfl rfl size34 rfl (Ed.one ed0) ?_)
        | ((with_reducible show wpList _ _ _ (Oper.mk _ (Op.buildSlice 22 1 _) _ _ _ _ :: _) _ _); refine wpList_one rfl 22 34 (.tmp 20) rfl ed0.cs rfl Tryd.underlying22 ie _ 14 HIE.out.1 HIE.out.2.1 HIE.out.2.2 (by decide) (by decide) rfl ?_)
        | ((with_reducible show wpList _ _ _ (Oper.mk _ (Op.call _) _ _ _ _ :: _) _ _); refine wpList_app_ed rfl (.tmp 19) (.tmp 21) rfl w.heap.size [] (.slice none 0 0) rfl (World.ownsRow_nil _ _ _ _) (by have := HSZ.out; simp; omega) ed0 rfl (by simp) ?_; intro v' w7 hO hsh hg hto; obtain ⟨g7, c7, rfl⟩ := hsh; have HG7 := Lib.hid hg; clear hO hg hto)
        | fail)
      go_roundw
      case rel => exact ⟨1, rfl, Nat.le_refl _, Lib.hid ((HBR.out.alloc HBR.out.size _).grown HG7.out (by have := HSZ.out; simp; omega) (fun q hq => by cases hq)), _, _, rfl, fun h => by omega⟩
      case measure => simp [Lib.intOf]
    · go_wp2_with fail
      go_ret
      exact ⟨⟨_, _, rfl⟩, HBR.out⟩
/-- The example's text. -/
def t0 : List UInt8 := [48, 32, 45, 62, 32, 49, 32, 115, 107, 105, 112, 32, 64, 48, 10]
theorem itoa0 : bt (Lib.itoa 0) = ⟨#[48]⟩ := by kernel_rfl
theorem itoa1 : bt (Lib.itoa 1) = ⟨#[49]⟩ := by kernel_rfl
theorem text0 : bt (Ac.text ac0) = ⟨#[115, 107, 105, 112, 32, 64, 48]⟩ := by kernel_rfl
theorem ok0 : ac0.ok := by
  have z : Ac.isInt 0 := by unfold Ac.isInt; omega
  exact ⟨z, z, z, z, z, z, z, z, z, z, z⟩
set_option maxHeartbeats 3200000 in
set_option maxRecDepth 100000 in
theorem text_g0 (b o : Nat) (w : World) (hr : w.rangeAt b o ed0.cs.toList) (hG : Gl w) (h8 : 8 ≤ w.heap.size) : Calls Tryd.prog 12 #[.agg (g0 (some ⟨b, o, none⟩)).cs] w fun e w' => e = .returned (.string ⟨t0.toArray⟩) ∧ Below w.heap.size w w' := by
  have HK1 : Hid (Bk ((w.alloc (.cells (g0 (some ⟨b, o, none⟩)).cs 26)).alloc (.cells #[.pointer none, .slice none 0 0] 52)) w.heap.size 26 (g0 (some ⟨b, o, none⟩)).cs) := Lib.hid ((Gr.new (A := w.alloc (.cells (g0 (some ⟨b, o, none⟩)).cs 26)) (.cells #[.pointer none, .slice none 0 0] 52)).bk (heap_alloc_new _ _) id)
  have HP1 : Hid (Pb (w.heap.size + 1) (w.heap.size + 1) [] ((w.alloc (.cells (g0 (some ⟨b, o, none⟩)).cs 26)).alloc (.cells #[.pointer none, .slice none 0 0] 52))) := Lib.hid (.inl ⟨Nat.le_refl _, .slice none 0 0, by
    have := heap_alloc_new (w.alloc (.cells (g0 (some ⟨b, o, none⟩)).cs 26)) (.cells #[.pointer none, .slice none 0 0] 52)
    rwa [World.size_alloc] at this, World.ownsRow_nil _ _ _ _, by intro e; cases e⟩)
  have HB1 : Hid (Below w.heap.size w ((w.alloc (.cells (g0 (some ⟨b, o, none⟩)).cs 26)).alloc (.cells #[.pointer none, .slice none 0 0] 52))) := Lib.hid (((Below.refl _ _).alloc (Nat.le_refl _) _).alloc (by simp) _)
  have HS1 : Hid (w.heap.size + 1 ≤ ((w.alloc (.cells (g0 (some ⟨b, o, none⟩)).cs 26)).alloc (.cells #[.pointer none, .slice none 0 0] 52)).heap.size) := Lib.hid (by simp)
  have c4 : ((w.alloc (.cells (g0 (some ⟨b, o, none⟩)).cs 26)).alloc (.cells #[.pointer none, .slice none 0 0] 52)).cell? ⟨w.heap.size, 4, none⟩ = some (.slice (some ⟨b, o, none⟩) 1 1) := HK1.out.cell 4
  have HR := Lib.hid hr
  have HG := Lib.hid hG
  clear hr hG
  go_enter Tryd.func12, Tryd.ntmps12
  go_wp2_with fail
  go_loopw [9] (fun si wr => ∃ k : Nat, si = .int .i64 k ∧ k ≤ 1 ∧ Hid (Below w.heap.size w wr) ∧ Hid (w.heap.size + 1 ≤ wr.heap.size) ∧ Hid (Pb (w.heap.size + 1) (w.heap.size + 1) (if k = 0 then [] else t0) wr)) (fun si _ => 1 - (Lib.intOf si).toNat)
  case atStart => exact ⟨0, rfl, Nat.zero_le _, HB1, HS1, HP1⟩
  case round =>
    obtain ⟨k, rfl, hk, HBR, HSR, HPR⟩ := hrel
    have hk2 : k = 0 ∨ k = 1 := by omega
    rcases hk2 with rfl | rfl
    · have HRR := Lib.hid (range_below HR.out HBR.out)
      have HE2 : Hid (Bk (wr.alloc (.cells ed0.cs 34)) wr.heap.size 34 ed0.cs) := Lib.hid (heap_alloc_new _ _)
      have hal : Below wr.heap.size wr (wr.alloc (.cells ed0.cs 34)) := (Below.refl _ _).alloc (Nat.le_refl _) _
      have HP2 : Hid (Pb (w.heap.size + 1) (w.heap.size + 1) [] (wr.alloc (.cells ed0.cs 34))) := Lib.hid (HPR.out.below hal)
      have HB2 : Hid (Below w.heap.size w (wr.alloc (.cells ed0.cs 34))) := Lib.hid (HBR.out.trans (hal.mono HBR.out.size))
      have HS2 : Hid (w.heap.size + 1 ≤ (wr.alloc (.cells ed0.cs 34)).heap.size) := Lib.hid (Nat.le_trans HSR.out hal.size)
      clear hal
      have d0 : (wr.alloc (.cells ed0.cs 34)).cell? ⟨wr.heap.size, 0, none⟩ = some (.int .i64 0) := HE2.out.cell 0
      go_wp2_with (first
        | ((with_reducible show wpList _ _ _ (Oper.mk _ (Op.load 34 _) _ _ _ _ :: _) _ _); refine wpList_load_arr rfl 34 _ rfl b o (by simp [Act.eval]) ed0.cs _ HRR.out Tryd.underlying34 rfl size34 ?_)
        | ((with_reducible show wpList _ _ _ (Oper.mk _ (Op.store 34 _ _) _ _ _ _ :: _) _ _); refine wpList_store_new rfl 34 _ _ rfl _ ed0.cs rfl rfl size34 rfl (Ed.one ed0) ?_)
        | fail)
      have hc := itoa_any 0 (by decide) (by decide) (wr.alloc (.cells ed0.cs 34)) (HG.out.below HB2.out h8)
      rw [itoa0] at hc
      refine hc.mono ?_
      rintro en w3 ⟨rfl, hb⟩
      clear hc
      have HP3 := Lib.hid (HP2.out.below hb)
      have HE3 := Lib.hid (HE2.out.below hb HE2.out.lt)
      have HB3 : Hid (Below w.heap.size w w3) := Lib.hid (HB2.out.trans (hb.mono HB2.out.size))
      have HS3 : Hid (w.heap.size + 1 ≤ w3.heap.size) := Lib.hid (Nat.le_trans HS2.out hb.size)
      clear hb d0
      go_wp2_with fail
      refine (writeStr_e (w.heap.size + 1) (w.heap.size + 1) [] ⟨#[48]⟩ _ HP3.out (by decide) HS3.out).mono ?_
      rintro en w4 ⟨rfl, hp, hb, hk⟩
      have HP4 : Hid (Pb (w.heap.size + 1) (w.heap.size + 1) [48] w4) := Lib.hid hp
      have HE4 := Lib.hid (hk _ _ HE3.out)
      have HB4 : Hid (Below w.heap.size w w4) := Lib.hid (HB3.out.trans (hb.mono (Nat.le_succ _)))
      have HS4 : Hid (w.heap.size + 1 ≤ w4.heap.size) := Lib.hid (Nat.le_trans HS3.out hb.size)
      clear hp hb hk
      go_wp2_with fail
      refine (writeStr_e (w.heap.size + 1) (w.heap.size + 1) [48] ⟨#[32, 45, 62, 32]⟩ _ HP4.out (by decide) HS4.out).mono ?_
      rintro en w5 ⟨rfl, hp, hb, hk⟩
      have HP5 : Hid (Pb (w.heap.size + 1) (w.heap.size + 1) [48, 32, 45, 62, 32] w5) := Lib.hid hp
      have HE5 := Lib.hid (hk _ _ HE4.out)
      have HB5 : Hid (Below w.heap.size w w5) := Lib.hid (HB4.out.trans (hb.mono (Nat.le_succ _)))
      have HS5 : Hid (w.heap.size + 1 ≤ w5.heap.size) := Lib.hid (Nat.le_trans HS4.out hb.size)
      clear hp hb hk
      have d1 : w5.cell? ⟨wr.heap.size, 1, none⟩ = some (.int .i64 1) := HE5.out.cell 1
      go_wp2_with fail
      have hc := itoa_any 1 (by decide) (by decide) w5 (HG.out.below HB5.out h8)
      rw [itoa1] at hc
      refine hc.mono ?_
      rintro en w6 ⟨rfl, hb⟩
      clear hc
      have HP6 := Lib.hid (HP5.out.below hb)
      have HE6 := Lib.hid (HE5.out.below hb HE5.out.lt)
      have HB6 : Hid (Below w.heap.size w w6) := Lib.hid (HB5.out.trans (hb.mono HB5.out.size))
      have HS6 : Hid (w.heap.size + 1 ≤ w6.heap.size) := Lib.hid (Nat.le_trans HS5.out hb.size)
      clear hb d1
      go_wp2_with fail
      refine (writeStr_e (w.heap.size + 1) (w.heap.size + 1) [48, 32, 45, 62, 32] ⟨#[49]⟩ _ HP6.out (by decide) HS6.out).mono ?_
      rintro en w7 ⟨rfl, hp, hb, hk⟩
      have HP7 : Hid (Pb (w.heap.size + 1) (w.heap.size + 1) [48, 32, 45, 62, 32, 49] w7) := Lib.hid hp
      have HE7 := Lib.hid (hk _ _ HE6.out)
      have HB7 : Hid (Below w.heap.size w w7) := Lib.hid (HB6.out.trans (hb.mono (Nat.le_succ _)))
      have HS7 : Hid (w.heap.size + 1 ≤ w7.heap.size) := Lib.hid (Nat.le_trans HS6.out hb.size)
      clear hp hb hk
      go_wp2_with fail
      refine (writeStr_e (w.heap.size + 1) (w.heap.size + 1) [48, 32, 45, 62, 32, 49] ⟨#[32]⟩ _ HP7.out (by decide) HS7.out).mono ?_
      rintro en w8 ⟨rfl, hp, hb, hk⟩
      have HP8 : Hid (Pb (w.heap.size + 1) (w.heap.size + 1) [48, 32, 45, 62, 32, 49, 32] w8) := Lib.hid hp
      have HE8 := Lib.hid (hk _ _ HE7.out)
      have HB8 : Hid (Below w.heap.size w w8) := Lib.hid (HB7.out.trans (hb.mono (Nat.le_succ _)))
      have HS8 : Hid (w.heap.size + 1 ≤ w8.heap.size) := Lib.hid (Nat.le_trans HS7.out hb.size)
      clear hp hb hk
      have HA8 := Lib.hid (ed0_act (o := 0) HE8.out.range)
      go_wp2_with (first
        | ((with_reducible show wpList _ _ _ (Oper.mk _ (Op.load 32 _) _ _ _ _ :: _) _ _); refine wpList_load_arr rfl 32 _ rfl wr.heap.size 2 (by simp [Act.eval]) ac0.cs _ HA8.out Tryd.underlying32 rfl size25 ?_)
        | fail)
      have hc := text_any ac0 ok0 w8 (HG.out.below HB8.out h8)
      rw [text0] at hc
      refine hc.mono ?_
      rintro en w9 ⟨rfl, hb⟩
      clear hc
      have HP9 := Lib.hid (HP8.out.below hb)
      have HE9 := Lib.hid (HE8.out.below hb HE8.out.lt)
      have HB9 : Hid (Below w.heap.size w w9) := Lib.hid (HB8.out.trans (hb.mono HB8.out.size))
      have HS9 : Hid (w.heap.size + 1 ≤ w9.heap.size) := Lib.hid (Nat.le_trans HS8.out hb.size)
      clear hb
      go_wp2_with fail
      refine (writeStr_e (w.heap.size + 1) (w.heap.size + 1) [48, 32, 45, 62, 32, 49, 32] ⟨#[115, 107, 105, 112, 32, 64, 48]⟩ _ HP9.out (by decide) HS9.out).mono ?_
      rintro en w10 ⟨rfl, hp, hb, hk⟩
      have HP10 : Hid (Pb (w.heap.size + 1) (w.heap.size + 1) [48, 32, 45, 62, 32, 49, 32, 115, 107, 105, 112, 32, 64, 48] w10) := Lib.hid hp
      have HE10 := Lib.hid (hk _ _ HE9.out)
      have HB10 : Hid (Below w.heap.size w w10) := Lib.hid (HB9.out.trans (hb.mono (Nat.le_succ _)))
      have HS10 : Hid (w.heap.size + 1 ≤ w10.heap.size) := Lib.hid (Nat.le_trans HS9.out hb.size)
      clear hp hb hk
      go_wp2_with fail
      refine (writeStr_e (w.heap.size + 1) (w.heap.size + 1) [48, 32, 45, 62, 32, 49, 32, 115, 107, 105, 112, 32, 64, 48] ⟨#[10]⟩ _ HP10.out (by decide) HS10.out).mono ?_
      rintro en w11 ⟨rfl, hp, hb, hk⟩
      have HP11 : Hid (Pb (w.heap.size + 1) (w.heap.size + 1) [48, 32, 45, 62, 32, 49, 32, 115, 107, 105, 112, 32, 64, 48, 10] w11) := Lib.hid hp
      have HE11 := Lib.hid (hk _ _ HE10.out)
      have HB11 : Hid (Below w.heap.size w w11) := Lib.hid (HB10.out.trans (hb.mono (Nat.le_succ _)))
      have HS11 : Hid (w.heap.size + 1 ≤ w11.heap.size) := Lib.hid (Nat.le_trans HS10.out hb.size)
      clear hp hb hk
      go_wp2_with fail
      go_roundw
      case rel => exact ⟨1, rfl, Nat.le_refl _, HB11, HS11, HP11⟩
      case measure => simp [Lib.intOf]
    · have HPT : Hid (Pb (w.heap.size + 1) (w.heap.size + 1) t0 wr) := HPR
      go_wp2_with (go_at_call 26; refine (string_any (w.heap.size + 1) (w.heap.size + 1) t0 _ HPT.out (by decide)).mono ?_; rintro en w2 ⟨rfl, hb⟩; have HB2 := Lib.hid hb; clear hb)
      go_ret
      exact ⟨rfl, HBR.out.trans (HB2.out.mono (Nat.le_succ _))⟩
end Go.Proofs.YtnkimfbdcghgpaaDoor
