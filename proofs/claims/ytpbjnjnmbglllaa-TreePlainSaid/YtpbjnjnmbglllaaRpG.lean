/-
  DERIVED. The walks of the document's Plain: the whole.
-/
import Derived.Test.YtpbjnjnmbglllaaRpS
namespace Go.Proofs.Ytpbjnjnmbglllaa
open Go.RowKit Go.Sort

theorem fresh_grownX {B X : Nat} {w w' : World} (h : w.grownBy w' (some X)) (hX : X < B) : Ext (fresh B w) (fresh B w') := Ext.of_mask fun b hb hlt => by
  simp only [decide_eq_false_iff_not] at hb ⊢
  exact ⟨hb, h.block b hlt (by intro e; injection e with e; omega)⟩
theorem below_drew' {w w' : World} (h : Below w.drew.heap.size w.drew w') : Below w.heap.size w w' := (below_drew (Below.refl _ _)).trans h
set_option maxHeartbeats 12800000 in
set_option maxRecDepth 100000 in
theorem refPlain_any (x : Pg) (w : World) (hx : pgLies w x) :
    Calls Try.prog 23 #[.agg #[.slice x.structs.p x.structs.l.length x.structs.cap, .slice x.globals.p x.globals.l.length x.globals.cap, .slice x.procs.p x.procs.l.length x.procs.cap]] w (Plained x w) := by
  obtain ⟨⟨sp, sc, sl⟩, ⟨gp, gc, gl⟩, ⟨pp, pc, pl⟩⟩ := x
  obtain ⟨hs, hg, hp⟩ := hx
  have hsl : sl.length ≤ 6000000000000 := by have h : sl.length * 48 ≤ 140737488351232 := hs.1; omega
  have hpl : pl.length ≤ 6000000000000 := by have h : pl.length * 104 ≤ 140737488351232 := hp.1; omega
  have HS := Lib.hid hs; have HG := Lib.hid hg; have HP := Lib.hid hp
  clear hs hg hp
  simp only
  obtain ⟨wA, hwA⟩ : ∃ wA : World, wA = ((w.alloc (.cells #[.slice sp sl.length sc, .slice gp gl.length gc, .slice pp pl.length pc] 34)).alloc (.cells #[.slice none 0 0, .slice none 0 0, .slice none 0 0] 34)).alloc (.cells #[.slice none 0 0, .slice none 0 0, .slice none 0 0] 34) := ⟨_, rfl⟩
  have HBA : Hid (Below w.heap.size w wA) := Lib.hid (by rw [hwA]; exact (((Below.refl _ _).alloc (Nat.le_refl _) _).alloc (by simp) _).alloc (by simp; omega) _)
  have HSA : Hid (wA.heap.size = w.heap.size + 3) := Lib.hid (by rw [hwA]; simp)
  have HK0 : Hid (Bk wA w.heap.size 34 #[.slice sp sl.length sc, .slice gp gl.length gc, .slice pp pl.length pc]) := Lib.hid (by rw [hwA]; exact heap_alloc3_a _ _ _ _)
  have HK1 : Hid (Bk wA (w.heap.size + 1) 34 #[.slice none 0 0, .slice none 0 0, .slice none 0 0]) := Lib.hid (by rw [hwA]; exact heap_alloc3_b _ _ _ _)
  have HK2 : Hid (Bk wA (w.heap.size + 1 + 1) 34 #[.slice none 0 0, .slice none 0 0, .slice none 0 0]) := Lib.hid (by rw [hwA]; exact heap_alloc3_c _ _ _ _)
  have HOA : Hid (w.heap.size + 2 < wA.heap.size) := Lib.hid (by rw [HSA.out]; omega)
  have HXA : Hid (w.heap.size + 2 ≤ wA.heap.size) := Lib.hid (Nat.le_of_lt HOA.out)
  go_enter Try.func23, Try.ntmps23
  go_wp2_with fail
  change Code.wp _ _ _ _ (((w.alloc (.cells #[.slice sp sl.length sc, .slice gp gl.length gc, .slice pp pl.length pc] 34)).alloc (.cells #[.slice none 0 0, .slice none 0 0, .slice none 0 0] 34)).alloc (.cells #[.slice none 0 0, .slice none 0 0, .slice none 0 0] 34))
  rw [← hwA]
  clear hwA
  go_loopw [4] (fun m wx => ∃ (k : Nat) (v : Value), m = .int .i64 k ∧ k ≤ sl.length ∧ Hid (kSr.Grows wA.heap.size sl k v wx) ∧ Hid (wA.grownBy wx (some (w.heap.size + 2))) ∧ Hid (Mine wx (w.heap.size + 2)) ∧ Hid (wx.rangeAt (w.heap.size + 2) 0 [v, .slice none 0 0, .slice none 0 0])) (fun m _ => sl.length - (intOf m).toNat)
  case atStart => exact ⟨0, _, rfl, Nat.zero_le _, Lib.hid (Kd.Grows.nil kSr (World.ownsRow_nil _ _ _ _)), Lib.hid ⟨rfl, rfl, rfl, Nat.le_refl _, fun _ _ _ => rfl⟩, Lib.hid (Bk.mine HK2.out), Lib.hid (Bk.range HK2.out)⟩
  case round =>
    obtain ⟨k, v, rfl, hk, HGj, HGX, HMj, HRj⟩ := hrel
    have HBX0 : Hid (Below (w.heap.size + 2) wA wr) := Lib.hid (grownX_below HGX.out (Nat.le_refl _) HXA.out)
    have p0 : wr.cell? ⟨w.heap.size, 0, none⟩ = some (.slice sp sl.length sc) := Bk.cell (Bk.below HK0.out HBX0.out (by omega)) 0
    have x0 : wr.cell? ⟨w.heap.size + 2, 0, none⟩ = some v := cell_at0 HRj.out 0 _ rfl
    by_cases hkl : k < sl.length
    · obtain ⟨b, o, rfl, hxa⟩ : ∃ b o, sp = some ⟨b, o, none⟩ ∧ ∀ k x, sl[k]? = some x → w.rangeAt b (o + k * 3) (Sr.cells x) ∧ declsLie w x.fields := by
        rcases HS.out.2 with h | h
        · rw [show sl = [] from h] at hkl; simp at hkl
        · exact h
      have hx1 := hxa k sl[k] (List.getElem?_eq_getElem hkl)
      have HXE := Lib.hid (List.getElem?_eq_getElem hkl)
      generalize sl[k] = xe at hx1 HXE
      obtain ⟨nm, xpos, ⟨fp, fc, fl⟩⟩ := xe
      have HBW : Hid (Below w.heap.size w wr) := Lib.hid (HBA.out.trans (HBX0.out.mono (by omega)))
      have HDC : Hid (∀ w', Below wr.heap.size wr w' → Calls Try.prog 48 #[.slice fp fl.length fc] w' fun e w'' => ∃ t : Sl Dc, e = .returned (.slice t.p t.l.length t.cap) ∧ t.er Dc.er = (⟨fp, fc, fl⟩ : Sl Dc).er Dc.er ∧ (∀ x ∈ t.l, x.flat) ∧ declsLie (fresh w'.heap.size w'') t ∧ Below w'.heap.size w' w'') := Lib.hid (fun w' hb => decls_new ⟨fp, fc, fl⟩ w' (declsLie_below hx1.2 (HBW.out.trans (hb.mono HBW.out.size))))
      have HXR := Lib.hid hx1.1
      have hlen : sl.length * 48 ≤ 140737488351232 := HS.out.1
      have HLA : Hid ((k + 1) * 48 ≤ 140737488355328) := Lib.hid (by omega)
      have HLB : Hid (k + 1 ≤ maxLen) := Lib.hid (by unfold maxLen; omega)
      obtain ⟨ys, yl1, yl2, yl3, yl4, yl5⟩ := HGj.out
      have HE1 := Lib.hid yl1; have HE2 := Lib.hid yl2; have HE3 := Lib.hid yl3; have HU := Lib.hid yl4; have HE5 := Lib.hid yl5
      have HVL : Hid (∀ g, v.ownBlock = some g → wA.heap.size ≤ g ∧ g < wr.heap.size) := Lib.hid (fun g hg => yl4.lt g hg)
      have HAR : Hid (wA.heap.size ≤ wr.heap.size) := Lib.hid HGX.out.size
      have HXW : Hid (w.heap.size + 2 ≤ wr.heap.size) := Lib.hid (Nat.le_trans HXA.out HAR.out)
      have HOL : Hid (w.heap.size + 2 < wr.heap.size) := Lib.hid (Nat.lt_of_lt_of_le HOA.out HAR.out)
      have HDV : Hid (∀ w', Below (w.heap.size + 2) wr w' → w'.cell? ⟨w.heap.size, 0, none⟩ = some (.slice (some ⟨b, o, none⟩) sl.length sc) ∧ w'.cell? ⟨b, o + k * 3, none⟩ = some (.string nm) ∧ w'.cell? ⟨b, o + k * 3 + 2, none⟩ = some (.slice fp fl.length fc)) := Lib.hid (fun w' hb => by
        have h0 := World.block_lt_of_cell? w _ (HXR.out 0 _ rfl)
        simp only at h0
        have hr := rangeAt_low (rangeAt_below HXR.out HBW.out) hb (by omega)
        exact ⟨(hb.cell (p := ⟨w.heap.size, 0, none⟩) (by simp only; omega)).trans p0, by have := cell_at hr 0 _ rfl; rwa [Nat.add_zero] at this, cell_at hr 2 _ rfl⟩)
      clear hxa hx1 hlen yl1 yl2 yl3 yl4 yl5
      obtain ⟨i0, hi0, hz0, hz1, hz2⟩ := info_parts zinfoSr
      have HI := Lib.hid hi0; have HZ0 := Lib.hid hz0; have HZ1 := Lib.hid hz1; have HZ2 := Lib.hid hz2
      clear hi0 hz0 hz1 hz2
      have hk0 : (0 : Int) ≤ (k : Int) := Int.natCast_nonneg _
      have hk1 : (k : Int) < (sl.length : Int) := by omega
      have HBD : Hid (Below wr.heap.size wr wr.drew) := Lib.hid (below_drew (Below.refl _ _))
      have HBX : Hid (Below (w.heap.size + 2) wr wr.drew) := Lib.hid (HBD.out.mono HXW.out)
      go_wp2_with fail
      -- region
      refine wp_region_noPanic ?_
      refine wp_region_held_drew (S := fun w' => w'.cell? ⟨w.heap.size, 0, none⟩ = some (.slice (some ⟨b, o, none⟩) sl.length sc) ∧ w'.cell? ⟨b, o + k * 3, none⟩ = some (.string nm) ∧ w'.cell? ⟨b, o + k * 3 + 2, none⟩ = some (.slice fp fl.length fc)) (by kernel_rfl) ?_ (fun hHeld => ?_)
      · exact HDV.out _ HBX.out
      refine wpAnyH_take (i := 0) (oi := ({ dst := some 14, op := Op.fieldAddr 34 (Operand.tmp 3) 0, type := 0, pos := "ref.go:54", after := #[], guard := none } : Oper)) (v := ?_) rfl (by kernel_rfl) (by kernel_rfl) (by kernel_rfl) (fun _ _ _ h => h) (Or.inl ⟨by rfl, ?_⟩) (by assumption) ?_
      rotate_left
      · (intro w hSw; (try dsimp only at hSw); go_simp; (try with_reducible rfl))
      (try simp only [Act.put])
      refine wpAnyH_take (i := 2) (oi := ({ dst := some 16, op := Op.fieldAddr 34 (Operand.tmp 1) 0, type := 0, pos := "ref.go:54", after := #[], guard := none } : Oper)) (v := ?_) rfl (by kernel_rfl) (by kernel_rfl) (by kernel_rfl) (fun _ _ _ h => h) (Or.inl ⟨by rfl, ?_⟩) (by assumption) ?_
      rotate_left
      · (intro w hSw; (try dsimp only at hSw); go_simp; (try with_reducible rfl))
      (try simp only [Act.put])
      refine wpAnyH_take (i := 3) (oi := ({ dst := some 17, op := Op.load 30 (Operand.tmp 16), type := 30, pos := "ref.go:54", after := #[{ on := 2, ground := Ground.data }], guard := none } : Oper)) (v := ?_) rfl (by kernel_rfl) (by kernel_rfl) (by kernel_rfl) (fun _ _ _ h => h) (Or.inl ⟨by rfl, ?_⟩) (by assumption) ?_
      rotate_left
      · (intro w hSw; (try dsimp only at hSw); go_simp; (try with_reducible rfl))
      (try simp only [Act.put])
      refine wpAnyH_take (i := 4) (oi := ({ dst := some 18, op := Op.move (Operand.tmp 4), type := 3, pos := "ref.go:54", after := #[], guard := none } : Oper)) (v := ?_) rfl (by kernel_rfl) (by kernel_rfl) (by kernel_rfl) (fun _ _ _ h => h) (Or.inl ⟨by rfl, ?_⟩) (by assumption) ?_
      rotate_left
      · (intro w hSw; (try dsimp only at hSw); go_simp; (try with_reducible rfl))
      (try simp only [Act.put])
      refine wpAnyH_take (i := 5) (oi := ({ dst := some 19, op := Op.indexAddr 30 (Operand.tmp 17) (Operand.tmp 18), type := 0, pos := "ref.go:54", after := #[{ on := 3, ground := Ground.data }, { on := 4, ground := Ground.data }], guard := none } : Oper)) (v := ?_) rfl (by kernel_rfl) (by kernel_rfl) (by kernel_rfl) (fun _ _ _ h => h) (Or.inl ⟨by rfl, ?_⟩) (by assumption) ?_
      rotate_left
      · (intro w hSw; (try dsimp only at hSw); go_simp; (try with_reducible rfl))
      (try simp only [Act.put])
      refine wpAnyH_take (i := 6) (oi := ({ dst := some 20, op := Op.fieldAddr 65 (Operand.tmp 19) 0, type := 0, pos := "ref.go:54", after := #[{ on := 5, ground := Ground.data }], guard := none } : Oper)) (v := ?_) rfl (by kernel_rfl) (by kernel_rfl) (by kernel_rfl) (fun _ _ _ h => h) (Or.inl ⟨by rfl, ?_⟩) (by assumption) ?_
      rotate_left
      · (intro w hSw; (try dsimp only at hSw); go_simp; (try with_reducible rfl))
      (try simp only [Act.put])
      refine wpAnyH_take (i := 7) (oi := ({ dst := some 21, op := Op.load 9 (Operand.tmp 20), type := 9, pos := "ref.go:54", after := #[{ on := 6, ground := Ground.data }], guard := none } : Oper)) (v := ?_) rfl (by kernel_rfl) (by kernel_rfl) (by kernel_rfl) (fun _ _ _ h => h) (Or.inl ⟨by rfl, ?_⟩) (by assumption) ?_
      rotate_left
      · (intro w hSw; (try dsimp only at hSw); go_simp; (try with_reducible rfl))
      (try simp only [Act.put])
      refine wpAnyH_take (i := 8) (oi := ({ dst := some 22, op := Op.fieldAddr 34 (Operand.tmp 1) 0, type := 0, pos := "ref.go:54", after := #[], guard := none } : Oper)) (v := ?_) rfl (by kernel_rfl) (by kernel_rfl) (by kernel_rfl) (fun _ _ _ h => h) (Or.inl ⟨by rfl, ?_⟩) (by assumption) ?_
      rotate_left
      · (intro w hSw; (try dsimp only at hSw); go_simp; (try with_reducible rfl))
      (try simp only [Act.put])
      refine wpAnyH_take (i := 9) (oi := ({ dst := some 23, op := Op.load 30 (Operand.tmp 22), type := 30, pos := "ref.go:54", after := #[{ on := 8, ground := Ground.data }], guard := none } : Oper)) (v := ?_) rfl (by kernel_rfl) (by kernel_rfl) (by kernel_rfl) (fun _ _ _ h => h) (Or.inl ⟨by rfl, ?_⟩) (by assumption) ?_
      rotate_left
      · (intro w hSw; (try dsimp only at hSw); go_simp; (try with_reducible rfl))
      (try simp only [Act.put])
      refine wpAnyH_take (i := 10) (oi := ({ dst := some 24, op := Op.move (Operand.tmp 4), type := 3, pos := "ref.go:54", after := #[], guard := none } : Oper)) (v := ?_) rfl (by kernel_rfl) (by kernel_rfl) (by kernel_rfl) (fun _ _ _ h => h) (Or.inl ⟨by rfl, ?_⟩) (by assumption) ?_
      rotate_left
      · (intro w hSw; (try dsimp only at hSw); go_simp; (try with_reducible rfl))
      (try simp only [Act.put])
      refine wpAnyH_take (i := 11) (oi := ({ dst := some 25, op := Op.indexAddr 30 (Operand.tmp 23) (Operand.tmp 24), type := 0, pos := "ref.go:54", after := #[{ on := 9, ground := Ground.data }, { on := 10, ground := Ground.data }], guard := none } : Oper)) (v := ?_) rfl (by kernel_rfl) (by kernel_rfl) (by kernel_rfl) (fun _ _ _ h => h) (Or.inl ⟨by rfl, ?_⟩) (by assumption) ?_
      rotate_left
      · (intro w hSw; (try dsimp only at hSw); go_simp; (try with_reducible rfl))
      (try simp only [Act.put])
      refine wpAnyH_take (i := 12) (oi := ({ dst := some 26, op := Op.fieldAddr 65 (Operand.tmp 25) 2, type := 0, pos := "ref.go:54", after := #[{ on := 11, ground := Ground.data }], guard := none } : Oper)) (v := ?_) rfl (by kernel_rfl) (by kernel_rfl) (by kernel_rfl) (fun _ _ _ h => h) (Or.inl ⟨by rfl, ?_⟩) (by assumption) ?_
      rotate_left
      · (intro w hSw; (try dsimp only at hSw); go_simp; (try with_reducible rfl))
      (try simp only [Act.put])
      refine wpAnyH_take (i := 13) (oi := ({ dst := some 27, op := Op.load 31 (Operand.tmp 26), type := 31, pos := "ref.go:54", after := #[{ on := 12, ground := Ground.data }], guard := none } : Oper)) (v := ?_) rfl (by kernel_rfl) (by kernel_rfl) (by kernel_rfl) (fun _ _ _ h => h) (Or.inl ⟨by rfl, ?_⟩) (by assumption) ?_
      rotate_left
      · (intro w hSw; (try dsimp only at hSw); go_simp; (try with_reducible rfl))
      (try simp only [Act.put])
      refine wpAnyH_ready (rs := [1, 14]) (by kernel_rfl) (by simp) ?_
      refine AllReadyH.cons (o := ({ dst := some 15, op := Op.load 30 (Operand.tmp 14), type := 30, pos := "ref.go:54", after := #[{ on := 0, ground := Ground.data }], guard := none } : Oper)) rfl (fun K hK => ?_) ?_
      · go_simp
        refine hK.out _ _ ?_ (fun hHeld => ?_)
        · exact HDV.out _ HBX.out
        clear hK K
        (try simp only [Act.put])
        refine wpAnyH_ready (rs := [14]) (by kernel_rfl) (by simp) ?_
        refine AllReadyH.cons (o := ({ dst := some 28, op := Op.call { callee := Callee.value (Operand.func 48), args := #[Operand.tmp 27], argTypes := #[31] }, type := 31, pos := "ref.go:54", after := #[{ on := 13, ground := Ground.data }], guard := none } : Oper)) rfl (fun K hK => ?_) ?_
        · (go_simp; go_at_call 48; (with_reducible refine (HDC.out _ HBD.out).mono ?_); rintro en w1 ⟨v1, rfl, a1, a2, a3, a4⟩; have A1 := Lib.hid a1; have A2 := Lib.hid a2; have A3 := Lib.hid a3; have HB1 := Lib.hid (HBD.out.trans (a4.mono HBD.out.size)); have HU1 := Lib.hid (own_below HU.out (below_drew' a4)); have x1 : w1.cell? ⟨w.heap.size + 2, 0, none⟩ = some v := (HB1.out.cell (p := ⟨w.heap.size + 2, 0, none⟩) HOL.out).trans x0; have x1a : ∀ ob, (w1.alloc ob).cell? ⟨w.heap.size + 2, 0, none⟩ = some v := (fun ob => (World.cell?_alloc_lt _ _ _ (Nat.lt_of_lt_of_le HOL.out HB1.out.size)).trans x1); clear a1 a2 a3 a4; (try dsimp only))
          refine hK.out _ _ ?_ (fun hHeld => ?_)
          · exact HDV.out _ (HB1.out.mono HXW.out)
          clear hK K
          (try simp only [Act.put])
          refine wpAnyH_take (i := 15) (oi := ({ dst := some 29, op := Op.build 65 #[(0, Operand.tmp 21), (2, Operand.tmp 28)], type := 65, pos := "ref.go:54", after := #[{ on := 7, ground := Ground.data }, { on := 14, ground := Ground.data }], guard := none } : Oper)) (v := ?_) rfl (by kernel_rfl) (by kernel_rfl) (by kernel_rfl) (fun _ _ _ h => h) (Or.inl ⟨by rfl, ?_⟩) (by assumption) ?_
          rotate_left
          · (intro w hSw; (try dsimp only at hSw); go_simp; (try with_reducible rfl))
          (try simp only [Act.put])
          refine wpAnyH_ready (rs := [16]) (by kernel_rfl) (by simp) ?_
          refine AllReadyH.cons (o := ({ dst := some 30, op := Op.buildSlice 30 1 #[(0, Operand.tmp 29)], type := 30, pos := "ref.go:54", after := #[{ on := 15, ground := Ground.data }], guard := none } : Oper)) rfl (fun K hK => ?_) ?_
          · go_simp
            refine hK.out _ _ ?_ (fun hHeld => ?_)
            · exact HDV.out _ ((HB1.out.mono HXW.out).alloc (Nat.le_trans HXW.out HB1.out.size) _)
            clear hK K
            (try simp only [Act.put])
            refine wpAnyH_ready (rs := [17]) (by kernel_rfl) (by simp) ?_
            refine AllReadyH.cons (o := ({ dst := some 31, op := Op.call { callee := Callee.builtin Builtin.append, args := #[Operand.tmp 15, Operand.tmp 30], argTypes := #[30, 30] }, type := 30, pos := "ref.go:54", after := #[{ on := 1, ground := Ground.data }, { on := 16, ground := Ground.data }, { on := 14, ground := Ground.chain }], guard := none } : Oper)) rfl (fun K hK => ?_) ?_
            · (refine step_append_lies _ rfl (.tmp 15) (.tmp 30) 30 rfl wA.heap.size 65 i0 (.agg #[.string ByteArray.empty, .int .i64 0, .slice none 0 0]) 3 48 Try.underlying30 HI.out HZ0.out HZ1.out HZ2.out rfl (by decide) v k _ rfl (HU1.out.alloc _) ⟨w1.heap.size, 0, none⟩ 1 1 [.string nm, .int .i64 0, .slice v1.p v1.l.length v1.cap] rfl rfl (World.news_of_block (heap_alloc_new _ _)) (one_of (kSr.one ⟨nm, 0, v1⟩)) (by decide) HLB.out HLA.out (Nat.le_trans HAR.out (Nat.le_trans HB1.out.size (by simp))) _ rfl ?_; intro g cap w2 hown hgrow hat hlt; have HB2 : Hid (Below wA.heap.size wr w2) := Lib.hid (((HB1.out.mono HAR.out).alloc (Nat.le_trans HAR.out HB1.out.size) _).grown hgrow (Nat.le_trans HAR.out (Nat.le_trans HB1.out.size (by simp))) (fun q hq => (HVL.out q hq).1)); have HG2 : Hid (kSr.Grows wA.heap.size sl (k + 1) (.slice (some ⟨g, 0, none⟩) (k + 1) cap) w2) := Lib.hid (kSr.add (y := ⟨nm, 0, v1⟩) HE1.out HE2.out HE3.out (fun q hq => kSr.ext q (rest_below (HB1.out.alloc HB1.out.size _)) (HE5.out q hq)) HXE.out hgrow hat hown (by show Sr.er _ = Sr.er _; simp only [Sr.er, A1.out]) ⟨rfl, A2.out⟩ (declsLie_ext ((fresh_restv HAR.out (fun q hq => (HVL.out q hq).2)).trans (rest_below (Below.alloc (Below.refl _ _) (Nat.le_refl _) _))) A3.out)); have HM2 : Hid (Mine w2 (w.heap.size + 2)) := Lib.hid (HMj.out.low HB2.out HOA.out); have HR2 := Lib.hid (rangeAt_low HRj.out HB2.out HOA.out); have y2 := cell_at0 HR2.out 0 _ rfl; have f2 := HM2.out.frozen 0; clear hown hgrow hat hlt)
              refine hK.out _ _ ?_ (fun hHeld => ?_)
              · exact HDV.out _ (HB2.out.mono HXA.out)
              clear hK K
              (try simp only [Act.put])
              refine wpAnyH_take (i := 18) (oi := ({ dst := some 32, op := Op.fieldAddr 34 (Operand.tmp 3) 0, type := 0, pos := "ref.go:54", after := #[{ on := 0, ground := Ground.phase }, { on := 1, ground := Ground.phase }, { on := 2, ground := Ground.phase }, { on := 3, ground := Ground.phase }, { on := 4, ground := Ground.phase }, { on := 5, ground := Ground.phase }, { on := 6, ground := Ground.phase }, { on := 7, ground := Ground.phase }, { on := 8, ground := Ground.phase }, { on := 9, ground := Ground.phase }, { on := 10, ground := Ground.phase }, { on := 11, ground := Ground.phase }, { on := 12, ground := Ground.phase }, { on := 13, ground := Ground.phase }, { on := 14, ground := Ground.phase }, { on := 15, ground := Ground.phase }, { on := 16, ground := Ground.phase }, { on := 17, ground := Ground.phase }], guard := none } : Oper)) (v := ?_) rfl (by kernel_rfl) (by kernel_rfl) (by kernel_rfl) (fun _ _ _ h => h) (Or.inl ⟨by rfl, ?_⟩) (by assumption) ?_
              rotate_left
              · (intro w hSw; (try dsimp only at hSw); go_simp; (try with_reducible rfl))
              (try simp only [Act.put])
              refine wpAnyH_ready (rs := [19]) (by kernel_rfl) (by simp) ?_
              refine AllReadyH.cons (o := ({ dst := none, op := Op.store 30 (Operand.tmp 32) (Operand.tmp 31), type := 0, pos := "ref.go:54", after := #[{ on := 18, ground := Ground.data }, { on := 17, ground := Ground.data }, { on := 17, ground := Ground.chain }, { on := 0, ground := Ground.phase }, { on := 1, ground := Ground.phase }, { on := 2, ground := Ground.phase }, { on := 3, ground := Ground.phase }, { on := 4, ground := Ground.phase }, { on := 5, ground := Ground.phase }, { on := 6, ground := Ground.phase }, { on := 7, ground := Ground.phase }, { on := 8, ground := Ground.phase }, { on := 9, ground := Ground.phase }, { on := 10, ground := Ground.phase }, { on := 11, ground := Ground.phase }, { on := 12, ground := Ground.phase }, { on := 13, ground := Ground.phase }, { on := 14, ground := Ground.phase }, { on := 15, ground := Ground.phase }, { on := 16, ground := Ground.phase }, { on := 17, ground := Ground.phase }], guard := none } : Oper)) rfl (fun K hK => ?_) ?_
              · go_simp
                refine hK.out _ _ ?_ (fun hHeld => ?_)
                · exact HDV.out _ ((HB2.out.mono HXA.out).setCell (p := ⟨w.heap.size + 2, 0, none⟩) (Nat.le_refl _) _)
                clear hK K
                (try simp only [Act.put])
                refine wpAnyH_done (by kernel_rfl) ?_ _
                refine NoPanic.normal ?_
                have ho : Only w2 (w.heap.size + 2) 0 3 (w2.setCell ⟨w.heap.size + 2, 0, none⟩ (.slice (some ⟨g, 0, none⟩) (k + 1) cap)) := Only.setCell HM2.out (by omega) (by omega) _
                have HGZ := Lib.hid (HG2.out.only ho HOA.out)
                have HBZ : Hid (wA.grownBy (w2.setCell ⟨w.heap.size + 2, 0, none⟩ (.slice (some ⟨g, 0, none⟩) (k + 1) cap)) (some (w.heap.size + 2))) := Lib.hid (grownBy_trans (grownX_low HGX.out HB2.out (Nat.le_refl _)) (grownBy_setC _ _ _))
                have HMZ := Lib.hid ho.mine
                have HRZ : Hid ((w2.setCell ⟨w.heap.size + 2, 0, none⟩ (.slice (some ⟨g, 0, none⟩) (k + 1) cap)).rangeAt (w.heap.size + 2) 0 [.slice (some ⟨g, 0, none⟩) (k + 1) cap, .slice none 0 0, .slice none 0 0]) := Lib.hid (set_range (q := 0) HR2.out 0 _ (show 0 < 3 by decide) rfl)
                clear ho y2 f2 x1 x1a x0 p0 HG2 HR2 HM2 hHeld
                generalize w2.setCell ⟨w.heap.size + 2, 0, none⟩ (.slice (some ⟨g, 0, none⟩) (k + 1) cap) = w3 at HGZ HBZ HMZ HRZ ⊢
                go_wp2_with fail
                go_roundw
                case rel => exact ⟨k + 1, _, by go_num, by omega, HGZ, HBZ, HMZ, HRZ⟩
                case measure => simp [intOf]; omega
              exact AllReadyH.nil
            exact AllReadyH.nil
          exact AllReadyH.nil
        exact AllReadyH.nil
      refine AllReadyH.cons (o := ({ dst := some 28, op := Op.call { callee := Callee.value (Operand.func 48), args := #[Operand.tmp 27], argTypes := #[31] }, type := 31, pos := "ref.go:54", after := #[{ on := 13, ground := Ground.data }], guard := none } : Oper)) rfl (fun K hK => ?_) ?_
      · (go_simp; go_at_call 48; (with_reducible refine (HDC.out _ HBD.out).mono ?_); rintro en w1 ⟨v1, rfl, a1, a2, a3, a4⟩; have A1 := Lib.hid a1; have A2 := Lib.hid a2; have A3 := Lib.hid a3; have HB1 := Lib.hid (HBD.out.trans (a4.mono HBD.out.size)); have HU1 := Lib.hid (own_below HU.out (below_drew' a4)); have x1 : w1.cell? ⟨w.heap.size + 2, 0, none⟩ = some v := (HB1.out.cell (p := ⟨w.heap.size + 2, 0, none⟩) HOL.out).trans x0; have x1a : ∀ ob, (w1.alloc ob).cell? ⟨w.heap.size + 2, 0, none⟩ = some v := (fun ob => (World.cell?_alloc_lt _ _ _ (Nat.lt_of_lt_of_le HOL.out HB1.out.size)).trans x1); clear a1 a2 a3 a4; (try dsimp only))
        refine hK.out _ _ ?_ (fun hHeld => ?_)
        · exact HDV.out _ (HB1.out.mono HXW.out)
        clear hK K
        (try simp only [Act.put])
        refine wpAnyH_take (i := 15) (oi := ({ dst := some 29, op := Op.build 65 #[(0, Operand.tmp 21), (2, Operand.tmp 28)], type := 65, pos := "ref.go:54", after := #[{ on := 7, ground := Ground.data }, { on := 14, ground := Ground.data }], guard := none } : Oper)) (v := ?_) rfl (by kernel_rfl) (by kernel_rfl) (by kernel_rfl) (fun _ _ _ h => h) (Or.inl ⟨by rfl, ?_⟩) (by assumption) ?_
        rotate_left
        · (intro w hSw; (try dsimp only at hSw); go_simp; (try with_reducible rfl))
        (try simp only [Act.put])
        refine wpAnyH_ready (rs := [1, 16]) (by kernel_rfl) (by simp) ?_
        refine AllReadyH.cons (o := ({ dst := some 15, op := Op.load 30 (Operand.tmp 14), type := 30, pos := "ref.go:54", after := #[{ on := 0, ground := Ground.data }], guard := none } : Oper)) rfl (fun K hK => ?_) ?_
        · go_simp
          refine hK.out _ _ ?_ (fun hHeld => ?_)
          · exact HDV.out _ (HB1.out.mono HXW.out)
          clear hK K
          (try simp only [Act.put])
          refine wpAnyH_ready (rs := [16]) (by kernel_rfl) (by simp) ?_
          refine AllReadyH.cons (o := ({ dst := some 30, op := Op.buildSlice 30 1 #[(0, Operand.tmp 29)], type := 30, pos := "ref.go:54", after := #[{ on := 15, ground := Ground.data }], guard := none } : Oper)) rfl (fun K hK => ?_) ?_
          · go_simp
            refine hK.out _ _ ?_ (fun hHeld => ?_)
            · exact HDV.out _ ((HB1.out.mono HXW.out).alloc (Nat.le_trans HXW.out HB1.out.size) _)
            clear hK K
            (try simp only [Act.put])
            refine wpAnyH_ready (rs := [17]) (by kernel_rfl) (by simp) ?_
            refine AllReadyH.cons (o := ({ dst := some 31, op := Op.call { callee := Callee.builtin Builtin.append, args := #[Operand.tmp 15, Operand.tmp 30], argTypes := #[30, 30] }, type := 30, pos := "ref.go:54", after := #[{ on := 1, ground := Ground.data }, { on := 16, ground := Ground.data }, { on := 14, ground := Ground.chain }], guard := none } : Oper)) rfl (fun K hK => ?_) ?_
            · (refine step_append_lies _ rfl (.tmp 15) (.tmp 30) 30 rfl wA.heap.size 65 i0 (.agg #[.string ByteArray.empty, .int .i64 0, .slice none 0 0]) 3 48 Try.underlying30 HI.out HZ0.out HZ1.out HZ2.out rfl (by decide) v k _ rfl (HU1.out.alloc _) ⟨w1.heap.size, 0, none⟩ 1 1 [.string nm, .int .i64 0, .slice v1.p v1.l.length v1.cap] rfl rfl (World.news_of_block (heap_alloc_new _ _)) (one_of (kSr.one ⟨nm, 0, v1⟩)) (by decide) HLB.out HLA.out (Nat.le_trans HAR.out (Nat.le_trans HB1.out.size (by simp))) _ rfl ?_; intro g cap w2 hown hgrow hat hlt; have HB2 : Hid (Below wA.heap.size wr w2) := Lib.hid (((HB1.out.mono HAR.out).alloc (Nat.le_trans HAR.out HB1.out.size) _).grown hgrow (Nat.le_trans HAR.out (Nat.le_trans HB1.out.size (by simp))) (fun q hq => (HVL.out q hq).1)); have HG2 : Hid (kSr.Grows wA.heap.size sl (k + 1) (.slice (some ⟨g, 0, none⟩) (k + 1) cap) w2) := Lib.hid (kSr.add (y := ⟨nm, 0, v1⟩) HE1.out HE2.out HE3.out (fun q hq => kSr.ext q (rest_below (HB1.out.alloc HB1.out.size _)) (HE5.out q hq)) HXE.out hgrow hat hown (by show Sr.er _ = Sr.er _; simp only [Sr.er, A1.out]) ⟨rfl, A2.out⟩ (declsLie_ext ((fresh_restv HAR.out (fun q hq => (HVL.out q hq).2)).trans (rest_below (Below.alloc (Below.refl _ _) (Nat.le_refl _) _))) A3.out)); have HM2 : Hid (Mine w2 (w.heap.size + 2)) := Lib.hid (HMj.out.low HB2.out HOA.out); have HR2 := Lib.hid (rangeAt_low HRj.out HB2.out HOA.out); have y2 := cell_at0 HR2.out 0 _ rfl; have f2 := HM2.out.frozen 0; clear hown hgrow hat hlt)
              refine hK.out _ _ ?_ (fun hHeld => ?_)
              · exact HDV.out _ (HB2.out.mono HXA.out)
              clear hK K
              (try simp only [Act.put])
              refine wpAnyH_take (i := 18) (oi := ({ dst := some 32, op := Op.fieldAddr 34 (Operand.tmp 3) 0, type := 0, pos := "ref.go:54", after := #[{ on := 0, ground := Ground.phase }, { on := 1, ground := Ground.phase }, { on := 2, ground := Ground.phase }, { on := 3, ground := Ground.phase }, { on := 4, ground := Ground.phase }, { on := 5, ground := Ground.phase }, { on := 6, ground := Ground.phase }, { on := 7, ground := Ground.phase }, { on := 8, ground := Ground.phase }, { on := 9, ground := Ground.phase }, { on := 10, ground := Ground.phase }, { on := 11, ground := Ground.phase }, { on := 12, ground := Ground.phase }, { on := 13, ground := Ground.phase }, { on := 14, ground := Ground.phase }, { on := 15, ground := Ground.phase }, { on := 16, ground := Ground.phase }, { on := 17, ground := Ground.phase }], guard := none } : Oper)) (v := ?_) rfl (by kernel_rfl) (by kernel_rfl) (by kernel_rfl) (fun _ _ _ h => h) (Or.inl ⟨by rfl, ?_⟩) (by assumption) ?_
              rotate_left
              · (intro w hSw; (try dsimp only at hSw); go_simp; (try with_reducible rfl))
              (try simp only [Act.put])
              refine wpAnyH_ready (rs := [19]) (by kernel_rfl) (by simp) ?_
              refine AllReadyH.cons (o := ({ dst := none, op := Op.store 30 (Operand.tmp 32) (Operand.tmp 31), type := 0, pos := "ref.go:54", after := #[{ on := 18, ground := Ground.data }, { on := 17, ground := Ground.data }, { on := 17, ground := Ground.chain }, { on := 0, ground := Ground.phase }, { on := 1, ground := Ground.phase }, { on := 2, ground := Ground.phase }, { on := 3, ground := Ground.phase }, { on := 4, ground := Ground.phase }, { on := 5, ground := Ground.phase }, { on := 6, ground := Ground.phase }, { on := 7, ground := Ground.phase }, { on := 8, ground := Ground.phase }, { on := 9, ground := Ground.phase }, { on := 10, ground := Ground.phase }, { on := 11, ground := Ground.phase }, { on := 12, ground := Ground.phase }, { on := 13, ground := Ground.phase }, { on := 14, ground := Ground.phase }, { on := 15, ground := Ground.phase }, { on := 16, ground := Ground.phase }, { on := 17, ground := Ground.phase }], guard := none } : Oper)) rfl (fun K hK => ?_) ?_
              · go_simp
                refine hK.out _ _ ?_ (fun hHeld => ?_)
                · exact HDV.out _ ((HB2.out.mono HXA.out).setCell (p := ⟨w.heap.size + 2, 0, none⟩) (Nat.le_refl _) _)
                clear hK K
                (try simp only [Act.put])
                refine wpAnyH_done (by kernel_rfl) ?_ _
                refine NoPanic.normal ?_
                have ho : Only w2 (w.heap.size + 2) 0 3 (w2.setCell ⟨w.heap.size + 2, 0, none⟩ (.slice (some ⟨g, 0, none⟩) (k + 1) cap)) := Only.setCell HM2.out (by omega) (by omega) _
                have HGZ := Lib.hid (HG2.out.only ho HOA.out)
                have HBZ : Hid (wA.grownBy (w2.setCell ⟨w.heap.size + 2, 0, none⟩ (.slice (some ⟨g, 0, none⟩) (k + 1) cap)) (some (w.heap.size + 2))) := Lib.hid (grownBy_trans (grownX_low HGX.out HB2.out (Nat.le_refl _)) (grownBy_setC _ _ _))
                have HMZ := Lib.hid ho.mine
                have HRZ : Hid ((w2.setCell ⟨w.heap.size + 2, 0, none⟩ (.slice (some ⟨g, 0, none⟩) (k + 1) cap)).rangeAt (w.heap.size + 2) 0 [.slice (some ⟨g, 0, none⟩) (k + 1) cap, .slice none 0 0, .slice none 0 0]) := Lib.hid (set_range (q := 0) HR2.out 0 _ (show 0 < 3 by decide) rfl)
                clear ho y2 f2 x1 x1a x0 p0 HG2 HR2 HM2 hHeld
                generalize w2.setCell ⟨w.heap.size + 2, 0, none⟩ (.slice (some ⟨g, 0, none⟩) (k + 1) cap) = w3 at HGZ HBZ HMZ HRZ ⊢
                go_wp2_with fail
                go_roundw
                case rel => exact ⟨k + 1, _, by go_num, by omega, HGZ, HBZ, HMZ, HRZ⟩
                case measure => simp [intOf]; omega
              exact AllReadyH.nil
            exact AllReadyH.nil
          exact AllReadyH.nil
        refine AllReadyH.cons (o := ({ dst := some 30, op := Op.buildSlice 30 1 #[(0, Operand.tmp 29)], type := 30, pos := "ref.go:54", after := #[{ on := 15, ground := Ground.data }], guard := none } : Oper)) rfl (fun K hK => ?_) ?_
        · go_simp
          refine hK.out _ _ ?_ (fun hHeld => ?_)
          · exact HDV.out _ ((HB1.out.mono HXW.out).alloc (Nat.le_trans HXW.out HB1.out.size) _)
          clear hK K
          (try simp only [Act.put])
          refine wpAnyH_ready (rs := [1]) (by kernel_rfl) (by simp) ?_
          refine AllReadyH.cons (o := ({ dst := some 15, op := Op.load 30 (Operand.tmp 14), type := 30, pos := "ref.go:54", after := #[{ on := 0, ground := Ground.data }], guard := none } : Oper)) rfl (fun K hK => ?_) ?_
          · go_simp
            refine hK.out _ _ ?_ (fun hHeld => ?_)
            · exact HDV.out _ ((HB1.out.mono HXW.out).alloc (Nat.le_trans HXW.out HB1.out.size) _)
            clear hK K
            (try simp only [Act.put])
            refine wpAnyH_ready (rs := [17]) (by kernel_rfl) (by simp) ?_
            refine AllReadyH.cons (o := ({ dst := some 31, op := Op.call { callee := Callee.builtin Builtin.append, args := #[Operand.tmp 15, Operand.tmp 30], argTypes := #[30, 30] }, type := 30, pos := "ref.go:54", after := #[{ on := 1, ground := Ground.data }, { on := 16, ground := Ground.data }, { on := 14, ground := Ground.chain }], guard := none } : Oper)) rfl (fun K hK => ?_) ?_
            · (refine step_append_lies _ rfl (.tmp 15) (.tmp 30) 30 rfl wA.heap.size 65 i0 (.agg #[.string ByteArray.empty, .int .i64 0, .slice none 0 0]) 3 48 Try.underlying30 HI.out HZ0.out HZ1.out HZ2.out rfl (by decide) v k _ rfl (HU1.out.alloc _) ⟨w1.heap.size, 0, none⟩ 1 1 [.string nm, .int .i64 0, .slice v1.p v1.l.length v1.cap] rfl rfl (World.news_of_block (heap_alloc_new _ _)) (one_of (kSr.one ⟨nm, 0, v1⟩)) (by decide) HLB.out HLA.out (Nat.le_trans HAR.out (Nat.le_trans HB1.out.size (by simp))) _ rfl ?_; intro g cap w2 hown hgrow hat hlt; have HB2 : Hid (Below wA.heap.size wr w2) := Lib.hid (((HB1.out.mono HAR.out).alloc (Nat.le_trans HAR.out HB1.out.size) _).grown hgrow (Nat.le_trans HAR.out (Nat.le_trans HB1.out.size (by simp))) (fun q hq => (HVL.out q hq).1)); have HG2 : Hid (kSr.Grows wA.heap.size sl (k + 1) (.slice (some ⟨g, 0, none⟩) (k + 1) cap) w2) := Lib.hid (kSr.add (y := ⟨nm, 0, v1⟩) HE1.out HE2.out HE3.out (fun q hq => kSr.ext q (rest_below (HB1.out.alloc HB1.out.size _)) (HE5.out q hq)) HXE.out hgrow hat hown (by show Sr.er _ = Sr.er _; simp only [Sr.er, A1.out]) ⟨rfl, A2.out⟩ (declsLie_ext ((fresh_restv HAR.out (fun q hq => (HVL.out q hq).2)).trans (rest_below (Below.alloc (Below.refl _ _) (Nat.le_refl _) _))) A3.out)); have HM2 : Hid (Mine w2 (w.heap.size + 2)) := Lib.hid (HMj.out.low HB2.out HOA.out); have HR2 := Lib.hid (rangeAt_low HRj.out HB2.out HOA.out); have y2 := cell_at0 HR2.out 0 _ rfl; have f2 := HM2.out.frozen 0; clear hown hgrow hat hlt)
              refine hK.out _ _ ?_ (fun hHeld => ?_)
              · exact HDV.out _ (HB2.out.mono HXA.out)
              clear hK K
              (try simp only [Act.put])
              refine wpAnyH_take (i := 18) (oi := ({ dst := some 32, op := Op.fieldAddr 34 (Operand.tmp 3) 0, type := 0, pos := "ref.go:54", after := #[{ on := 0, ground := Ground.phase }, { on := 1, ground := Ground.phase }, { on := 2, ground := Ground.phase }, { on := 3, ground := Ground.phase }, { on := 4, ground := Ground.phase }, { on := 5, ground := Ground.phase }, { on := 6, ground := Ground.phase }, { on := 7, ground := Ground.phase }, { on := 8, ground := Ground.phase }, { on := 9, ground := Ground.phase }, { on := 10, ground := Ground.phase }, { on := 11, ground := Ground.phase }, { on := 12, ground := Ground.phase }, { on := 13, ground := Ground.phase }, { on := 14, ground := Ground.phase }, { on := 15, ground := Ground.phase }, { on := 16, ground := Ground.phase }, { on := 17, ground := Ground.phase }], guard := none } : Oper)) (v := ?_) rfl (by kernel_rfl) (by kernel_rfl) (by kernel_rfl) (fun _ _ _ h => h) (Or.inl ⟨by rfl, ?_⟩) (by assumption) ?_
              rotate_left
              · (intro w hSw; (try dsimp only at hSw); go_simp; (try with_reducible rfl))
              (try simp only [Act.put])
              refine wpAnyH_ready (rs := [19]) (by kernel_rfl) (by simp) ?_
              refine AllReadyH.cons (o := ({ dst := none, op := Op.store 30 (Operand.tmp 32) (Operand.tmp 31), type := 0, pos := "ref.go:54", after := #[{ on := 18, ground := Ground.data }, { on := 17, ground := Ground.data }, { on := 17, ground := Ground.chain }, { on := 0, ground := Ground.phase }, { on := 1, ground := Ground.phase }, { on := 2, ground := Ground.phase }, { on := 3, ground := Ground.phase }, { on := 4, ground := Ground.phase }, { on := 5, ground := Ground.phase }, { on := 6, ground := Ground.phase }, { on := 7, ground := Ground.phase }, { on := 8, ground := Ground.phase }, { on := 9, ground := Ground.phase }, { on := 10, ground := Ground.phase }, { on := 11, ground := Ground.phase }, { on := 12, ground := Ground.phase }, { on := 13, ground := Ground.phase }, { on := 14, ground := Ground.phase }, { on := 15, ground := Ground.phase }, { on := 16, ground := Ground.phase }, { on := 17, ground := Ground.phase }], guard := none } : Oper)) rfl (fun K hK => ?_) ?_
              · go_simp
                refine hK.out _ _ ?_ (fun hHeld => ?_)
                · exact HDV.out _ ((HB2.out.mono HXA.out).setCell (p := ⟨w.heap.size + 2, 0, none⟩) (Nat.le_refl _) _)
                clear hK K
                (try simp only [Act.put])
                refine wpAnyH_done (by kernel_rfl) ?_ _
                refine NoPanic.normal ?_
                have ho : Only w2 (w.heap.size + 2) 0 3 (w2.setCell ⟨w.heap.size + 2, 0, none⟩ (.slice (some ⟨g, 0, none⟩) (k + 1) cap)) := Only.setCell HM2.out (by omega) (by omega) _
                have HGZ := Lib.hid (HG2.out.only ho HOA.out)
                have HBZ : Hid (wA.grownBy (w2.setCell ⟨w.heap.size + 2, 0, none⟩ (.slice (some ⟨g, 0, none⟩) (k + 1) cap)) (some (w.heap.size + 2))) := Lib.hid (grownBy_trans (grownX_low HGX.out HB2.out (Nat.le_refl _)) (grownBy_setC _ _ _))
                have HMZ := Lib.hid ho.mine
                have HRZ : Hid ((w2.setCell ⟨w.heap.size + 2, 0, none⟩ (.slice (some ⟨g, 0, none⟩) (k + 1) cap)).rangeAt (w.heap.size + 2) 0 [.slice (some ⟨g, 0, none⟩) (k + 1) cap, .slice none 0 0, .slice none 0 0]) := Lib.hid (set_range (q := 0) HR2.out 0 _ (show 0 < 3 by decide) rfl)
                clear ho y2 f2 x1 x1a x0 p0 HG2 HR2 HM2 hHeld
                generalize w2.setCell ⟨w.heap.size + 2, 0, none⟩ (.slice (some ⟨g, 0, none⟩) (k + 1) cap) = w3 at HGZ HBZ HMZ HRZ ⊢
                go_wp2_with fail
                go_roundw
                case rel => exact ⟨k + 1, _, by go_num, by omega, HGZ, HBZ, HMZ, HRZ⟩
                case measure => simp [intOf]; omega
              exact AllReadyH.nil
            exact AllReadyH.nil
          exact AllReadyH.nil
        exact AllReadyH.nil
      exact AllReadyH.nil
    · obtain rfl : k = sl.length := by omega
      obtain ⟨s1p, s1c, s1l, rfl, q1, q2, q3⟩ := kSr.fin HS.out.1 HGj.out
      have Q1 := Lib.hid q1; have Q2 := Lib.hid q2; have Q3 := Lib.hid q3
      have HAR : Hid (wA.heap.size ≤ wr.heap.size) := Lib.hid HGX.out.size
      have HBW : Hid (Below w.heap.size w wr) := Lib.hid (HBA.out.trans (HBX0.out.mono (by omega)))
      have p1 : wr.cell? ⟨w.heap.size, 1, none⟩ = some (.slice gp gl.length gc) := Bk.cell (Bk.below HK0.out HBX0.out (by omega)) 1
      have HDG := Lib.hid (decls_new ⟨gp, gc, gl⟩ wr (declsLie_below HG.out HBW.out))
      clear q1 q2 q3 x0
      go_wp2_with fail
      refine (HDG.out).mono ?_; rintro en w1 ⟨g2, rfl, a1, a2, a3, a4⟩
      have G1 := Lib.hid a1; have G2 := Lib.hid a2; have G3 := Lib.hid a3; have G4 := Lib.hid a4
      have HM1 := Lib.hid (HMj.out.below a4)
      have HR1 := Lib.hid (rangeAt_below HRj.out a4)
      have y1 := cell_at0 HR1.out 1 _ rfl
      have f1 := HM1.out.frozen 1
      have ho : Only w1 (w.heap.size + 2) 0 3 (w1.setCell ⟨w.heap.size + 2, 1, none⟩ (.slice g2.p g2.l.length g2.cap)) := Only.setCell HM1.out (by omega) (by omega) _
      have hr : (w1.setCell ⟨w.heap.size + 2, 1, none⟩ (.slice g2.p g2.l.length g2.cap)).rangeAt (w.heap.size + 2) 0 [.slice s1p s1l.length s1c, .slice g2.p g2.l.length g2.cap, .slice none 0 0] := set_range (q := 0) HR1.out 1 _ (show 1 < 3 by decide) rfl
      have HO4X := Lib.hid ho; have HR4 := Lib.hid hr
      clear a1 a2 a3 a4 ho hr p0 p1
      go_upto_region 7 with fail
      clear y1 f1
      generalize w1.setCell ⟨w.heap.size + 2, 1, none⟩ (.slice g2.p g2.l.length g2.cap) = w4 at HO4X HR4 ⊢
      have HM4 := Lib.hid HO4X.out.mine
      have HO4 : Hid (w.heap.size + 2 < w4.heap.size) := Lib.hid HM4.out.lt
      have HA4 : Hid (wA.heap.size ≤ w4.heap.size) := Lib.hid (Nat.le_trans HAR.out (Nat.le_trans G4.out.size HO4X.out.size))
      have HX4 : Hid (Below (w.heap.size + 2) wA w4) := Lib.hid (HBX0.out.trans ((G4.out.mono (Nat.le_trans HXA.out HAR.out)).trans (HO4X.out.to_below (Nat.le_refl _) (Nat.le_trans HXA.out (Nat.le_trans HAR.out G4.out.size)))))
      obtain ⟨wo, rfl⟩ : ∃ wo : World, wo = wr := ⟨_, rfl⟩
      go_wp2_with fail
      go_loopw [5] (fun m wx => ∃ (k : Nat) (v : Value), m = .int .i64 k ∧ k ≤ pl.length ∧ Hid (kPc.Grows w4.heap.size pl k v wx) ∧ Hid (w4.grownBy wx (some (w.heap.size + 2))) ∧ Hid (Mine wx (w.heap.size + 2)) ∧ Hid (wx.rangeAt (w.heap.size + 2) 0 [.slice s1p s1l.length s1c, .slice g2.p g2.l.length g2.cap, v])) (fun m _ => pl.length - (intOf m).toNat)
      case atStart => exact ⟨0, _, rfl, Nat.zero_le _, Lib.hid (Kd.Grows.nil kPc (World.ownsRow_nil _ _ _ _)), Lib.hid ⟨rfl, rfl, rfl, Nat.le_refl _, fun _ _ _ => rfl⟩, HM4, HR4⟩
      case round =>
        obtain ⟨k, v, rfl, hk, HGj, HGX, HMj, HRj⟩ := hrel
        have HBX : Hid (Below (w.heap.size + 2) wA wr) := Lib.hid (HX4.out.trans (grownX_below HGX.out (Nat.le_refl _) (Nat.le_of_lt HO4.out)))
        have p2 : wr.cell? ⟨w.heap.size, 2, none⟩ = some (.slice pp pl.length pc) := Bk.cell (Bk.below HK0.out HBX.out (by omega)) 2
        by_cases hkl : k < pl.length
        · obtain ⟨b, o, rfl, hxa⟩ : ∃ b o, pp = some ⟨b, o, none⟩ ∧ ∀ k x, pl[k]? = some x → w.rangeAt b (o + k * 6) (Pc.cells x) ∧ pcLies w x := by
            rcases HP.out.2 with h | h
            · rw [show pl = [] from h] at hkl; simp at hkl
            · exact h
          have hx1 := hxa k pl[k] (List.getElem?_eq_getElem hkl)
          have HXE := Lib.hid (List.getElem?_eq_getElem hkl)
          generalize pl[k] = xe at hx1 HXE
          obtain ⟨cs, hcs⟩ : ∃ cs : Array Value, cs = (Pc.cells xe).toArray := ⟨_, rfl⟩
          obtain ⟨nm, xpos, xend, ⟨ap, ac, al⟩, ⟨lp, lc, ll⟩, bp, bc, body⟩ := xe
          have HBW : Hid (Below w.heap.size w wr) := Lib.hid (HBA.out.trans (HBX.out.mono (by omega)))
          have HRG : Hid (wr.rangeAt b (o + k * 6) cs.toList) := Lib.hid (by rw [hcs]; exact rangeAt_below hx1.1 HBW.out)
          have HSZ : Hid ((Try.prog.info? 43).map (·.size) = some cs.size) := Lib.hid (by rw [hcs]; exact psizePc)
          have HZ : Hid (6 = cs.size) := Lib.hid (by rw [hcs]; rfl)
          have HON : Hid (cs.all (·.oneCell') = true) := Lib.hid (by rw [hcs]; exact kPc.one _)
          have HCS := Lib.hid hcs
          have HXL := Lib.hid hx1.2
          have hlen : pl.length * 104 ≤ 140737488351232 := HP.out.1
          have HLA : Hid ((k + 1) * 104 ≤ 140737488355328) := Lib.hid (by omega)
          have HLB : Hid (k + 1 ≤ maxLen) := Lib.hid (by unfold maxLen; omega)
          clear hcs hx1 hxa hlen
          have hk0 : (0 : Int) ≤ (k : Int) := Int.natCast_nonneg _
          have hk1 : (k : Int) < (pl.length : Int) := by omega
          go_wp2_with (first | ((with_reducible show wpList _ _ _ (Oper.mk (some 48) _ _ _ _ _ :: _) _ _); refine wpList_load_arr rfl 43 (.tmp 47) rfl b (o + k * 6) rfl cs _ HRG.out Try.underlying43 rfl HSZ.out ?_) | ((with_reducible show wpList _ _ _ (Oper.mk none (Op.store _ _ _) _ _ _ _ :: _) _ _); refine wpList_store_new rfl 43 (.tmp 6) (.tmp 48) rfl _ cs rfl rfl HSZ.out HZ.out HON.out ?_))
          have HKS : Hid (Bk (wr.alloc (.cells cs 43)) wr.heap.size 43 cs) := Lib.hid (heap_alloc_new _ _)
          have HBS : Hid (Below wr.heap.size wr (wr.alloc (.cells cs 43))) := Lib.hid (Below.alloc (Below.refl _ _) (Nat.le_refl _) _)
          have HZS : Hid ((wr.alloc (.cells cs 43)).heap.size = wr.heap.size + 1) := Lib.hid (by simp)
          have H44 : Hid (w4.heap.size ≤ wr.heap.size) := Lib.hid HGX.out.size
          obtain ⟨S, hS⟩ : ∃ S, S = wr.heap.size := ⟨_, rfl⟩
          rw [← hS] at HKS HZS ⊢
          have HSS := Lib.hid hS
          clear hS p2
          generalize wr.alloc (.cells cs 43) = wS at HKS HBS HZS ⊢
          have HSS1 : Hid (S + 1 ≤ wS.heap.size) := Lib.hid (Nat.le_of_eq HZS.out.symm)
          have H4S : Hid (w4.heap.size ≤ wS.heap.size) := Lib.hid (Nat.le_trans H44.out HBS.out.size)
          have HOS : Hid (w.heap.size + 2 < wS.heap.size) := Lib.hid (Nat.lt_of_lt_of_le HO4.out H4S.out)
          have HWS : Hid (Below w.heap.size w wS) := Lib.hid (HBW.out.trans (HBS.out.mono HBW.out.size))
          have HGS : Hid (w4.grownBy wS (some (w.heap.size + 2))) := Lib.hid (grownX_low HGX.out HBS.out H44.out)
          have HMS : Hid (Mine wS (w.heap.size + 2)) := Lib.hid (HMj.out.below HBS.out)
          have HRS := Lib.hid (rangeAt_below HRj.out HBS.out)
          have xS := cell_at0 HRS.out 2 _ rfl
          have HGjS := Lib.hid (HGj.out.below HBS.out)
          obtain ⟨ys, yl1, yl2, yl3, yl4, yl5⟩ := HGjS.out
          have HE1 := Lib.hid yl1; have HE2 := Lib.hid yl2; have HE3 := Lib.hid yl3; have HUS := Lib.hid yl4; have HE5 := Lib.hid yl5
          have HVL : Hid (∀ g, v.ownBlock = some g → w4.heap.size ≤ g ∧ g < wS.heap.size) := Lib.hid (fun g hg => yl4.lt g hg)
          have HDV : Hid (∀ w', Below (S + 1) wS w' → w'.cell? ⟨S, 0, none⟩ = some (.string nm) ∧ w'.cell? ⟨S, 3, none⟩ = some (.slice ap al.length ac) ∧ w'.cell? ⟨S, 4, none⟩ = some (.slice lp ll.length lc) ∧ w'.cell? ⟨S, 5, none⟩ = some (.slice bp body.len bc)) := Lib.hid (fun w' hb => by
            have h := HKS.out.below hb (Nat.lt_succ_self _)
            rw [HCS.out] at h
            exact ⟨h.cell 0, h.cell 3, h.cell 4, h.cell 5⟩)
          have HDX : Hid (∀ w', Bk w' S 43 cs → w'.cell? ⟨S, 0, none⟩ = some (.string nm) ∧ w'.cell? ⟨S, 3, none⟩ = some (.slice ap al.length ac) ∧ w'.cell? ⟨S, 4, none⟩ = some (.slice lp ll.length lc) ∧ w'.cell? ⟨S, 5, none⟩ = some (.slice bp body.len bc)) := Lib.hid (fun w' h => by
            rw [HCS.out] at h
            exact ⟨h.cell 0, h.cell 3, h.cell 4, h.cell 5⟩)
          have HSO : Hid (S ≠ w.heap.size + 2) := Lib.hid (by have := HO4.out; have := H44.out; have := HSS.out; omega)
          have HVS : Hid (∀ g, v.ownBlock = some g → g < S) := Lib.hid (fun g hg => by rw [HSS.out]; exact HGj.out.lt g hg)
          have HDP : Hid (∀ w', Below wS.heap.size wS w' → Calls Try.prog 48 #[.slice ap al.length ac] w' fun e w'' => ∃ t : Sl Dc, e = .returned (.slice t.p t.l.length t.cap) ∧ t.er Dc.er = (⟨ap, ac, al⟩ : Sl Dc).er Dc.er ∧ (∀ x ∈ t.l, x.flat) ∧ declsLie (fresh w'.heap.size w'') t ∧ Below w'.heap.size w' w'') := Lib.hid (fun w' hb => decls_new ⟨ap, ac, al⟩ w' (declsLie_below HXL.out.1 (HWS.out.trans (hb.mono HWS.out.size))))
          have HDL : Hid (∀ w', Below wS.heap.size wS w' → Calls Try.prog 48 #[.slice lp ll.length lc] w' fun e w'' => ∃ t : Sl Dc, e = .returned (.slice t.p t.l.length t.cap) ∧ t.er Dc.er = (⟨lp, lc, ll⟩ : Sl Dc).er Dc.er ∧ (∀ x ∈ t.l, x.flat) ∧ declsLie (fresh w'.heap.size w'') t ∧ Below w'.heap.size w' w'') := Lib.hid (fun w' hb => decls_new ⟨lp, lc, ll⟩ w' (declsLie_below HXL.out.2.1 (HWS.out.trans (hb.mono HWS.out.size))))
          have HDB : Hid (∀ w', Below wS.heap.size wS w' → Calls Try.prog 49 #[.slice bp body.len bc] w' fun en w'' => ∃ (p' : Option Addr) (c' : Nat) (s' : SL), en = .returned (.slice p' s'.len c') ∧ s'.er = body.er ∧ s'.flat ∧ sLies (fresh w'.heap.size w'') p' s' ∧ Below w'.heap.size w' w'') := Lib.hid (fun w' hb => rlist body bp bc w' (sLies_below HXL.out.2.2 (HWS.out.trans (hb.mono HWS.out.size))))
          clear yl1 yl2 yl3 yl4 yl5
          obtain ⟨i0, hi0, hz0, hz1, hz2⟩ := info_parts zinfoPc
          have HI := Lib.hid hi0; have HZ0 := Lib.hid hz0; have HZ1 := Lib.hid hz1; have HZ2 := Lib.hid hz2
          clear hi0 hz0 hz1 hz2
          have HBD : Hid (Below wS.heap.size wS wS.drew) := Lib.hid (below_drew (Below.refl _ _))
          go_wp2_with fail
          (try simp only [Act.put])
          refine wp_region_noPanic ?_
          refine wp_region_held_drew (S := fun w' => w'.cell? ⟨S, 0, none⟩ = some (.string nm) ∧ w'.cell? ⟨S, 3, none⟩ = some (.slice ap al.length ac) ∧ w'.cell? ⟨S, 4, none⟩ = some (.slice lp ll.length lc) ∧ w'.cell? ⟨S, 5, none⟩ = some (.slice bp body.len bc)) (by kernel_rfl) ?_ (fun hHeld => ?_)
          · exact HDV.out _ (HBD.out.mono HSS1.out)
          refine wpAnyH_take (i := 0) (oi := ({ dst := some 49, op := Op.fieldAddr 34 (Operand.tmp 3) 2, type := 0, pos := "ref.go:59", after := #[], guard := none } : Oper)) (v := ?_) rfl (by kernel_rfl) (by kernel_rfl) (by kernel_rfl) (fun _ _ _ h => h) (Or.inl ⟨by rfl, ?_⟩) (by assumption) ?_
          rotate_left
          · (intro w hSw; (try dsimp only at hSw); go_simp; (try with_reducible rfl))
          (try simp only [Act.put])
          refine wpAnyH_take (i := 2) (oi := ({ dst := some 51, op := Op.fieldAddr 43 (Operand.tmp 6) 0, type := 0, pos := "ref.go:59", after := #[], guard := none } : Oper)) (v := ?_) rfl (by kernel_rfl) (by kernel_rfl) (by kernel_rfl) (fun _ _ _ h => h) (Or.inl ⟨by rfl, ?_⟩) (by assumption) ?_
          rotate_left
          · (intro w hSw; (try dsimp only at hSw); go_simp; (try with_reducible rfl))
          (try simp only [Act.put])
          refine wpAnyH_take (i := 3) (oi := ({ dst := some 52, op := Op.load 9 (Operand.tmp 51), type := 9, pos := "ref.go:59", after := #[{ on := 2, ground := Ground.data }], guard := none } : Oper)) (v := ?_) rfl (by kernel_rfl) (by kernel_rfl) (by kernel_rfl) (fun _ _ _ h => h) (Or.inl ⟨by rfl, ?_⟩) (by assumption) ?_
          rotate_left
          · (intro w hSw; (try dsimp only at hSw); go_simp; (try with_reducible rfl))
          (try simp only [Act.put])
          refine wpAnyH_take (i := 4) (oi := ({ dst := some 53, op := Op.fieldAddr 43 (Operand.tmp 6) 3, type := 0, pos := "ref.go:59", after := #[], guard := none } : Oper)) (v := ?_) rfl (by kernel_rfl) (by kernel_rfl) (by kernel_rfl) (fun _ _ _ h => h) (Or.inl ⟨by rfl, ?_⟩) (by assumption) ?_
          rotate_left
          · (intro w hSw; (try dsimp only at hSw); go_simp; (try with_reducible rfl))
          (try simp only [Act.put])
          refine wpAnyH_take (i := 5) (oi := ({ dst := some 54, op := Op.load 31 (Operand.tmp 53), type := 31, pos := "ref.go:59", after := #[{ on := 4, ground := Ground.data }], guard := none } : Oper)) (v := ?_) rfl (by kernel_rfl) (by kernel_rfl) (by kernel_rfl) (fun _ _ _ h => h) (Or.inl ⟨by rfl, ?_⟩) (by assumption) ?_
          rotate_left
          · (intro w hSw; (try dsimp only at hSw); go_simp; (try with_reducible rfl))
          (try simp only [Act.put])
          refine wpAnyH_take (i := 7) (oi := ({ dst := some 56, op := Op.fieldAddr 43 (Operand.tmp 6) 4, type := 0, pos := "ref.go:59", after := #[], guard := none } : Oper)) (v := ?_) rfl (by kernel_rfl) (by kernel_rfl) (by kernel_rfl) (fun _ _ _ h => h) (Or.inl ⟨by rfl, ?_⟩) (by assumption) ?_
          rotate_left
          · (intro w hSw; (try dsimp only at hSw); go_simp; (try with_reducible rfl))
          (try simp only [Act.put])
          refine wpAnyH_take (i := 8) (oi := ({ dst := some 57, op := Op.load 31 (Operand.tmp 56), type := 31, pos := "ref.go:59", after := #[{ on := 7, ground := Ground.data }], guard := none } : Oper)) (v := ?_) rfl (by kernel_rfl) (by kernel_rfl) (by kernel_rfl) (fun _ _ _ h => h) (Or.inl ⟨by rfl, ?_⟩) (by assumption) ?_
          rotate_left
          · (intro w hSw; (try dsimp only at hSw); go_simp; (try with_reducible rfl))
          (try simp only [Act.put])
          refine wpAnyH_take (i := 10) (oi := ({ dst := some 59, op := Op.fieldAddr 43 (Operand.tmp 6) 5, type := 0, pos := "ref.go:59", after := #[], guard := none } : Oper)) (v := ?_) rfl (by kernel_rfl) (by kernel_rfl) (by kernel_rfl) (fun _ _ _ h => h) (Or.inl ⟨by rfl, ?_⟩) (by assumption) ?_
          rotate_left
          · (intro w hSw; (try dsimp only at hSw); go_simp; (try with_reducible rfl))
          (try simp only [Act.put])
          refine wpAnyH_take (i := 11) (oi := ({ dst := some 60, op := Op.load 22 (Operand.tmp 59), type := 22, pos := "ref.go:59", after := #[{ on := 10, ground := Ground.data }], guard := none } : Oper)) (v := ?_) rfl (by kernel_rfl) (by kernel_rfl) (by kernel_rfl) (fun _ _ _ h => h) (Or.inl ⟨by rfl, ?_⟩) (by assumption) ?_
          rotate_left
          · (intro w hSw; (try dsimp only at hSw); go_simp; (try with_reducible rfl))
          (try simp only [Act.put])
          refine wpAnyH_ready (rs := [1, 6]) (by kernel_rfl) (by simp) ?_
          refine AllReadyH.cons (o := ({ dst := some 50, op := Op.load 32 (Operand.tmp 49), type := 32, pos := "ref.go:59", after := #[{ on := 0, ground := Ground.data }], guard := none } : Oper)) rfl (fun K hK => ?_) ?_
          · go_simp
            refine hK.out _ _ ?_ (fun hHeld => ?_)
            · exact HDV.out _ (HBD.out.mono HSS1.out)
            clear hK K
            (try simp only [Act.put])
            refine wpAnyH_ready (rs := [6]) (by kernel_rfl) (by simp) ?_
            refine AllReadyH.cons (o := ({ dst := some 55, op := Op.call { callee := Callee.value (Operand.func 48), args := #[Operand.tmp 54], argTypes := #[31] }, type := 31, pos := "ref.go:59", after := #[{ on := 5, ground := Ground.data }], guard := none } : Oper)) rfl (fun K hK => ?_) ?_
            · (go_simp; go_at_call 48; (with_reducible refine (HDP.out _ HBD.out).mono ?_); rintro en w1 ⟨v1, rfl, a1, a2, a3, a4⟩; have A1 := Lib.hid a1; have A2 := Lib.hid a2; have A3 := Lib.hid a3; have B1 : Hid (Below wS.heap.size wS w1) := Lib.hid (below_drew' a4); have HB1 := B1; have x1 : w1.cell? ⟨w.heap.size + 2, 2, none⟩ = some v := (HB1.out.cell (p := ⟨w.heap.size + 2, 2, none⟩) HOS.out).trans xS; clear a1 a2 a3 a4; (try dsimp only))
              refine hK.out _ _ ?_ (fun hHeld => ?_)
              · exact HDV.out _ (HB1.out.mono HSS1.out)
              clear hK K
              (try simp only [Act.put])
              refine wpAnyH_ready (rs := [9]) (by kernel_rfl) (by simp) ?_
              refine AllReadyH.cons (o := ({ dst := some 58, op := Op.call { callee := Callee.value (Operand.func 48), args := #[Operand.tmp 57], argTypes := #[31] }, type := 31, pos := "ref.go:59", after := #[{ on := 8, ground := Ground.data }, { on := 6, ground := Ground.chain }], guard := none } : Oper)) rfl (fun K hK => ?_) ?_
              · (go_simp; go_at_call 48; (with_reducible refine (HDL.out _ HB1.out).mono ?_); rintro en w2 ⟨v2, rfl, a1, a2, a3, a4⟩; have C1 := Lib.hid a1; have C2 := Lib.hid a2; have C3 := Lib.hid a3; have B2 : Hid (Below w1.heap.size w1 w2) := Lib.hid a4; have HB2 := Lib.hid (HB1.out.trans (a4.mono HB1.out.size)); have x2 : w2.cell? ⟨w.heap.size + 2, 2, none⟩ = some v := (HB2.out.cell (p := ⟨w.heap.size + 2, 2, none⟩) HOS.out).trans xS; clear a1 a2 a3 a4; (try dsimp only))
                refine hK.out _ _ ?_ (fun hHeld => ?_)
                · exact HDV.out _ (HB2.out.mono HSS1.out)
                clear hK K
                (try simp only [Act.put])
                refine wpAnyH_ready (rs := [12]) (by kernel_rfl) (by simp) ?_
                refine AllReadyH.cons (o := ({ dst := some 61, op := Op.call { callee := Callee.value (Operand.func 49), args := #[Operand.tmp 60], argTypes := #[22] }, type := 22, pos := "ref.go:59", after := #[{ on := 11, ground := Ground.data }, { on := 9, ground := Ground.chain }], guard := none } : Oper)) rfl (fun K hK => ?_) ?_
                · (go_simp; go_at_call 49; (with_reducible refine (HDB.out _ HB2.out).mono ?_); rintro en w3 ⟨p3, k3, t3, rfl, a1, a2, a3, a4⟩; have D1 := Lib.hid a1; have D2 := Lib.hid a2; have D3 := Lib.hid a3; have B3 : Hid (Below w2.heap.size w2 w3) := Lib.hid a4; have HB3 := Lib.hid (HB2.out.trans (a4.mono HB2.out.size)); have HU3 := Lib.hid (own_below HUS.out HB3.out); have x3 : w3.cell? ⟨w.heap.size + 2, 2, none⟩ = some v := (HB3.out.cell (p := ⟨w.heap.size + 2, 2, none⟩) HOS.out).trans xS; have x3a : ∀ ob, (w3.alloc ob).cell? ⟨w.heap.size + 2, 2, none⟩ = some v := (fun ob => (World.cell?_alloc_lt _ _ _ (Nat.lt_of_lt_of_le HOS.out HB3.out.size)).trans x3); clear a1 a2 a3 a4; (try dsimp only))
                  refine hK.out _ _ ?_ (fun hHeld => ?_)
                  · exact HDV.out _ (HB3.out.mono HSS1.out)
                  clear hK K
                  (try simp only [Act.put])
                  refine wpAnyH_take (i := 13) (oi := ({ dst := some 62, op := Op.build 43 #[(0, Operand.tmp 52), (3, Operand.tmp 55), (4, Operand.tmp 58), (5, Operand.tmp 61)], type := 43, pos := "ref.go:59", after := #[{ on := 3, ground := Ground.data }, { on := 6, ground := Ground.data }, { on := 9, ground := Ground.data }, { on := 12, ground := Ground.data }], guard := none } : Oper)) (v := ?_) rfl (by kernel_rfl) (by kernel_rfl) (by kernel_rfl) (fun _ _ _ h => h) (Or.inl ⟨by rfl, ?_⟩) (by assumption) ?_
                  rotate_left
                  · (intro w hSw; (try dsimp only at hSw); go_simp; (try with_reducible rfl))
                  (try simp only [Act.put])
                  refine wpAnyH_ready (rs := [14]) (by kernel_rfl) (by simp) ?_
                  refine AllReadyH.cons (o := ({ dst := some 63, op := Op.buildSlice 32 1 #[(0, Operand.tmp 62)], type := 32, pos := "ref.go:59", after := #[{ on := 13, ground := Ground.data }], guard := none } : Oper)) rfl (fun K hK => ?_) ?_
                  · go_simp
                    refine hK.out _ _ ?_ (fun hHeld => ?_)
                    · exact HDV.out _ ((HB3.out.mono HSS1.out).alloc (Nat.le_trans HSS1.out HB3.out.size) _)
                    clear hK K
                    (try simp only [Act.put])
                    refine wpAnyH_ready (rs := [15]) (by kernel_rfl) (by simp) ?_
                    refine AllReadyH.cons (o := ({ dst := some 64, op := Op.call { callee := Callee.builtin Builtin.append, args := #[Operand.tmp 50, Operand.tmp 63], argTypes := #[32, 32] }, type := 32, pos := "ref.go:59", after := #[{ on := 1, ground := Ground.data }, { on := 14, ground := Ground.data }, { on := 12, ground := Ground.chain }], guard := none } : Oper)) rfl (fun K hK => ?_) ?_
                    · (refine step_append_lies _ rfl (.tmp 50) (.tmp 63) 32 rfl w4.heap.size 43 i0 (.agg #[.string ByteArray.empty, .int .i64 0, .int .i64 0, .slice none 0 0, .slice none 0 0, .slice none 0 0]) 6 104 Try.underlying32 HI.out HZ0.out HZ1.out HZ2.out rfl (by decide) v k _ rfl (HU3.out.alloc _) ⟨w3.heap.size, 0, none⟩ 1 1 [.string nm, .int .i64 0, .int .i64 0, .slice v1.p v1.l.length v1.cap, .slice v2.p v2.l.length v2.cap, .slice p3 t3.len k3] rfl rfl (World.news_of_block (heap_alloc_new _ _)) (one_of (kPc.one ⟨nm, 0, 0, v1, v2, p3, k3, t3⟩)) (by decide) HLB.out HLA.out (Nat.le_trans H4S.out (Nat.le_trans HB3.out.size (by simp))) _ rfl ?_; intro g cap w5 hown hgrow hat hlt; have HB5 : Hid (Below w4.heap.size wS w5) := Lib.hid (((HB3.out.mono H4S.out).alloc (Nat.le_trans H4S.out HB3.out.size) _).grown hgrow (Nat.le_trans H4S.out (Nat.le_trans HB3.out.size (by simp))) (fun q hq => (HVL.out q hq).1)); have HG5 : Hid (kPc.Grows w4.heap.size pl (k + 1) (.slice (some ⟨g, 0, none⟩) (k + 1) cap) w5) := Lib.hid (kPc.add (y := ⟨nm, 0, 0, v1, v2, p3, k3, t3⟩) HE1.out HE2.out HE3.out (fun q hq => kPc.ext q (rest_below (HB3.out.alloc HB3.out.size _)) (HE5.out q hq)) HXE.out hgrow hat hown (by show Pc.er _ = Pc.er _; simp only [Pc.er, A1.out, C1.out, D1.out]) ⟨rfl, rfl, A2.out, C2.out, D2.out⟩ ⟨declsLie_ext ((fresh_restv (w0 := wS) H4S.out (fun q hq => (HVL.out q hq).2)).trans (rest_below ((B2.out.trans (B3.out.mono B2.out.size)).alloc (Nat.le_trans B2.out.size B3.out.size) _))) A3.out, declsLie_ext ((fresh_restv (w0 := w1) (Nat.le_trans H4S.out HB1.out.size) (fun q hq => Nat.lt_of_lt_of_le (HVL.out q hq).2 HB1.out.size)).trans (rest_below (B3.out.alloc B3.out.size _))) C3.out, sLies_ext ((fresh_restv (w0 := w2) (Nat.le_trans H4S.out HB2.out.size) (fun q hq => Nat.lt_of_lt_of_le (HVL.out q hq).2 HB2.out.size)).trans (rest_below (Below.alloc (Below.refl _ _) (Nat.le_refl _) _))) D3.out⟩); have HM5 : Hid (Mine w5 (w.heap.size + 2)) := Lib.hid (HMS.out.low HB5.out HO4.out); have HR5 := Lib.hid (rangeAt_low HRS.out HB5.out HO4.out); have y5 := cell_at0 HR5.out 2 _ rfl; have f5 := HM5.out.frozen 2; have HK5 : Hid (Bk w5 S 43 cs) := Lib.hid ((hgrow.block S (Nat.lt_of_lt_of_le HSS1.out (Nat.le_trans HB3.out.size (by simp))) (fun e => Nat.lt_irrefl S (HVS.out S e.symm))).trans ((heap_alloc_old _ _ (Nat.lt_of_lt_of_le HSS1.out HB3.out.size)).trans (HKS.out.below HB3.out HSS1.out))); clear hown hgrow hat hlt)
                      refine hK.out _ _ ?_ (fun hHeld => ?_)
                      · exact HDX.out _ HK5.out
                      clear hK K
                      (try simp only [Act.put])
                      refine wpAnyH_take (i := 16) (oi := ({ dst := some 65, op := Op.fieldAddr 34 (Operand.tmp 3) 2, type := 0, pos := "ref.go:59", after := #[{ on := 0, ground := Ground.phase }, { on := 1, ground := Ground.phase }, { on := 2, ground := Ground.phase }, { on := 3, ground := Ground.phase }, { on := 4, ground := Ground.phase }, { on := 5, ground := Ground.phase }, { on := 6, ground := Ground.phase }, { on := 7, ground := Ground.phase }, { on := 8, ground := Ground.phase }, { on := 9, ground := Ground.phase }, { on := 10, ground := Ground.phase }, { on := 11, ground := Ground.phase }, { on := 12, ground := Ground.phase }, { on := 13, ground := Ground.phase }, { on := 14, ground := Ground.phase }, { on := 15, ground := Ground.phase }], guard := none } : Oper)) (v := ?_) rfl (by kernel_rfl) (by kernel_rfl) (by kernel_rfl) (fun _ _ _ h => h) (Or.inl ⟨by rfl, ?_⟩) (by assumption) ?_
                      rotate_left
                      · (intro w hSw; (try dsimp only at hSw); go_simp; (try with_reducible rfl))
                      (try simp only [Act.put])
                      refine wpAnyH_ready (rs := [17]) (by kernel_rfl) (by simp) ?_
                      refine AllReadyH.cons (o := ({ dst := none, op := Op.store 32 (Operand.tmp 65) (Operand.tmp 64), type := 0, pos := "ref.go:59", after := #[{ on := 16, ground := Ground.data }, { on := 15, ground := Ground.data }, { on := 15, ground := Ground.chain }, { on := 0, ground := Ground.phase }, { on := 1, ground := Ground.phase }, { on := 2, ground := Ground.phase }, { on := 3, ground := Ground.phase }, { on := 4, ground := Ground.phase }, { on := 5, ground := Ground.phase }, { on := 6, ground := Ground.phase }, { on := 7, ground := Ground.phase }, { on := 8, ground := Ground.phase }, { on := 9, ground := Ground.phase }, { on := 10, ground := Ground.phase }, { on := 11, ground := Ground.phase }, { on := 12, ground := Ground.phase }, { on := 13, ground := Ground.phase }, { on := 14, ground := Ground.phase }, { on := 15, ground := Ground.phase }], guard := none } : Oper)) rfl (fun K hK => ?_) ?_
                      · go_simp
                        refine hK.out _ _ ?_ (fun hHeld => ?_)
                        · exact HDX.out _ (HK5.out.far (p := ⟨w.heap.size + 2, 2, none⟩) HSO.out _)
                        clear hK K
                        (try simp only [Act.put])
                        refine wpAnyH_done (by kernel_rfl) ?_ _
                        refine NoPanic.normal ?_
                        have ho : Only w5 (w.heap.size + 2) 0 3 (w5.setCell ⟨w.heap.size + 2, 2, none⟩ (.slice (some ⟨g, 0, none⟩) (k + 1) cap)) := Only.setCell HM5.out (by omega) (by omega) _
                        have HGZ := Lib.hid (HG5.out.only ho HO4.out)
                        have HBZ : Hid (w4.grownBy (w5.setCell ⟨w.heap.size + 2, 2, none⟩ (.slice (some ⟨g, 0, none⟩) (k + 1) cap)) (some (w.heap.size + 2))) := Lib.hid (grownBy_trans (grownX_low HGS.out HB5.out (Nat.le_refl _)) (grownBy_setC _ _ _))
                        have HMZ := Lib.hid ho.mine
                        have HRZ : Hid ((w5.setCell ⟨w.heap.size + 2, 2, none⟩ (.slice (some ⟨g, 0, none⟩) (k + 1) cap)).rangeAt (w.heap.size + 2) 0 [.slice s1p s1l.length s1c, .slice g2.p g2.l.length g2.cap, .slice (some ⟨g, 0, none⟩) (k + 1) cap]) := Lib.hid (set_range (q := 0) HR5.out 2 _ (show 2 < 3 by decide) rfl)
                        clear ho y5 f5 x1 x2 x3 x3a xS HG5 HR5 HM5 hHeld
                        generalize w5.setCell ⟨w.heap.size + 2, 2, none⟩ (.slice (some ⟨g, 0, none⟩) (k + 1) cap) = w6 at HGZ HBZ HMZ HRZ ⊢
                        go_wp2_with fail
                        go_roundw
                        case rel => exact ⟨k + 1, _, by go_num, by omega, HGZ, HBZ, HMZ, HRZ⟩
                        case measure => simp [intOf]; omega
                      exact AllReadyH.nil
                    exact AllReadyH.nil
                  exact AllReadyH.nil
                exact AllReadyH.nil
              exact AllReadyH.nil
            exact AllReadyH.nil
          refine AllReadyH.cons (o := ({ dst := some 55, op := Op.call { callee := Callee.value (Operand.func 48), args := #[Operand.tmp 54], argTypes := #[31] }, type := 31, pos := "ref.go:59", after := #[{ on := 5, ground := Ground.data }], guard := none } : Oper)) rfl (fun K hK => ?_) ?_
          · (go_simp; go_at_call 48; (with_reducible refine (HDP.out _ HBD.out).mono ?_); rintro en w1 ⟨v1, rfl, a1, a2, a3, a4⟩; have A1 := Lib.hid a1; have A2 := Lib.hid a2; have A3 := Lib.hid a3; have B1 : Hid (Below wS.heap.size wS w1) := Lib.hid (below_drew' a4); have HB1 := B1; have x1 : w1.cell? ⟨w.heap.size + 2, 2, none⟩ = some v := (HB1.out.cell (p := ⟨w.heap.size + 2, 2, none⟩) HOS.out).trans xS; clear a1 a2 a3 a4; (try dsimp only))
            refine hK.out _ _ ?_ (fun hHeld => ?_)
            · exact HDV.out _ (HB1.out.mono HSS1.out)
            clear hK K
            (try simp only [Act.put])
            refine wpAnyH_ready (rs := [1, 9]) (by kernel_rfl) (by simp) ?_
            refine AllReadyH.cons (o := ({ dst := some 50, op := Op.load 32 (Operand.tmp 49), type := 32, pos := "ref.go:59", after := #[{ on := 0, ground := Ground.data }], guard := none } : Oper)) rfl (fun K hK => ?_) ?_
            · go_simp
              refine hK.out _ _ ?_ (fun hHeld => ?_)
              · exact HDV.out _ (HB1.out.mono HSS1.out)
              clear hK K
              (try simp only [Act.put])
              refine wpAnyH_ready (rs := [9]) (by kernel_rfl) (by simp) ?_
              refine AllReadyH.cons (o := ({ dst := some 58, op := Op.call { callee := Callee.value (Operand.func 48), args := #[Operand.tmp 57], argTypes := #[31] }, type := 31, pos := "ref.go:59", after := #[{ on := 8, ground := Ground.data }, { on := 6, ground := Ground.chain }], guard := none } : Oper)) rfl (fun K hK => ?_) ?_
              · (go_simp; go_at_call 48; (with_reducible refine (HDL.out _ HB1.out).mono ?_); rintro en w2 ⟨v2, rfl, a1, a2, a3, a4⟩; have C1 := Lib.hid a1; have C2 := Lib.hid a2; have C3 := Lib.hid a3; have B2 : Hid (Below w1.heap.size w1 w2) := Lib.hid a4; have HB2 := Lib.hid (HB1.out.trans (a4.mono HB1.out.size)); have x2 : w2.cell? ⟨w.heap.size + 2, 2, none⟩ = some v := (HB2.out.cell (p := ⟨w.heap.size + 2, 2, none⟩) HOS.out).trans xS; clear a1 a2 a3 a4; (try dsimp only))
                refine hK.out _ _ ?_ (fun hHeld => ?_)
                · exact HDV.out _ (HB2.out.mono HSS1.out)
                clear hK K
                (try simp only [Act.put])
                refine wpAnyH_ready (rs := [12]) (by kernel_rfl) (by simp) ?_
                refine AllReadyH.cons (o := ({ dst := some 61, op := Op.call { callee := Callee.value (Operand.func 49), args := #[Operand.tmp 60], argTypes := #[22] }, type := 22, pos := "ref.go:59", after := #[{ on := 11, ground := Ground.data }, { on := 9, ground := Ground.chain }], guard := none } : Oper)) rfl (fun K hK => ?_) ?_
                · (go_simp; go_at_call 49; (with_reducible refine (HDB.out _ HB2.out).mono ?_); rintro en w3 ⟨p3, k3, t3, rfl, a1, a2, a3, a4⟩; have D1 := Lib.hid a1; have D2 := Lib.hid a2; have D3 := Lib.hid a3; have B3 : Hid (Below w2.heap.size w2 w3) := Lib.hid a4; have HB3 := Lib.hid (HB2.out.trans (a4.mono HB2.out.size)); have HU3 := Lib.hid (own_below HUS.out HB3.out); have x3 : w3.cell? ⟨w.heap.size + 2, 2, none⟩ = some v := (HB3.out.cell (p := ⟨w.heap.size + 2, 2, none⟩) HOS.out).trans xS; have x3a : ∀ ob, (w3.alloc ob).cell? ⟨w.heap.size + 2, 2, none⟩ = some v := (fun ob => (World.cell?_alloc_lt _ _ _ (Nat.lt_of_lt_of_le HOS.out HB3.out.size)).trans x3); clear a1 a2 a3 a4; (try dsimp only))
                  refine hK.out _ _ ?_ (fun hHeld => ?_)
                  · exact HDV.out _ (HB3.out.mono HSS1.out)
                  clear hK K
                  (try simp only [Act.put])
                  refine wpAnyH_take (i := 13) (oi := ({ dst := some 62, op := Op.build 43 #[(0, Operand.tmp 52), (3, Operand.tmp 55), (4, Operand.tmp 58), (5, Operand.tmp 61)], type := 43, pos := "ref.go:59", after := #[{ on := 3, ground := Ground.data }, { on := 6, ground := Ground.data }, { on := 9, ground := Ground.data }, { on := 12, ground := Ground.data }], guard := none } : Oper)) (v := ?_) rfl (by kernel_rfl) (by kernel_rfl) (by kernel_rfl) (fun _ _ _ h => h) (Or.inl ⟨by rfl, ?_⟩) (by assumption) ?_
                  rotate_left
                  · (intro w hSw; (try dsimp only at hSw); go_simp; (try with_reducible rfl))
                  (try simp only [Act.put])
                  refine wpAnyH_ready (rs := [14]) (by kernel_rfl) (by simp) ?_
                  refine AllReadyH.cons (o := ({ dst := some 63, op := Op.buildSlice 32 1 #[(0, Operand.tmp 62)], type := 32, pos := "ref.go:59", after := #[{ on := 13, ground := Ground.data }], guard := none } : Oper)) rfl (fun K hK => ?_) ?_
                  · go_simp
                    refine hK.out _ _ ?_ (fun hHeld => ?_)
                    · exact HDV.out _ ((HB3.out.mono HSS1.out).alloc (Nat.le_trans HSS1.out HB3.out.size) _)
                    clear hK K
                    (try simp only [Act.put])
                    refine wpAnyH_ready (rs := [15]) (by kernel_rfl) (by simp) ?_
                    refine AllReadyH.cons (o := ({ dst := some 64, op := Op.call { callee := Callee.builtin Builtin.append, args := #[Operand.tmp 50, Operand.tmp 63], argTypes := #[32, 32] }, type := 32, pos := "ref.go:59", after := #[{ on := 1, ground := Ground.data }, { on := 14, ground := Ground.data }, { on := 12, ground := Ground.chain }], guard := none } : Oper)) rfl (fun K hK => ?_) ?_
                    · (refine step_append_lies _ rfl (.tmp 50) (.tmp 63) 32 rfl w4.heap.size 43 i0 (.agg #[.string ByteArray.empty, .int .i64 0, .int .i64 0, .slice none 0 0, .slice none 0 0, .slice none 0 0]) 6 104 Try.underlying32 HI.out HZ0.out HZ1.out HZ2.out rfl (by decide) v k _ rfl (HU3.out.alloc _) ⟨w3.heap.size, 0, none⟩ 1 1 [.string nm, .int .i64 0, .int .i64 0, .slice v1.p v1.l.length v1.cap, .slice v2.p v2.l.length v2.cap, .slice p3 t3.len k3] rfl rfl (World.news_of_block (heap_alloc_new _ _)) (one_of (kPc.one ⟨nm, 0, 0, v1, v2, p3, k3, t3⟩)) (by decide) HLB.out HLA.out (Nat.le_trans H4S.out (Nat.le_trans HB3.out.size (by simp))) _ rfl ?_; intro g cap w5 hown hgrow hat hlt; have HB5 : Hid (Below w4.heap.size wS w5) := Lib.hid (((HB3.out.mono H4S.out).alloc (Nat.le_trans H4S.out HB3.out.size) _).grown hgrow (Nat.le_trans H4S.out (Nat.le_trans HB3.out.size (by simp))) (fun q hq => (HVL.out q hq).1)); have HG5 : Hid (kPc.Grows w4.heap.size pl (k + 1) (.slice (some ⟨g, 0, none⟩) (k + 1) cap) w5) := Lib.hid (kPc.add (y := ⟨nm, 0, 0, v1, v2, p3, k3, t3⟩) HE1.out HE2.out HE3.out (fun q hq => kPc.ext q (rest_below (HB3.out.alloc HB3.out.size _)) (HE5.out q hq)) HXE.out hgrow hat hown (by show Pc.er _ = Pc.er _; simp only [Pc.er, A1.out, C1.out, D1.out]) ⟨rfl, rfl, A2.out, C2.out, D2.out⟩ ⟨declsLie_ext ((fresh_restv (w0 := wS) H4S.out (fun q hq => (HVL.out q hq).2)).trans (rest_below ((B2.out.trans (B3.out.mono B2.out.size)).alloc (Nat.le_trans B2.out.size B3.out.size) _))) A3.out, declsLie_ext ((fresh_restv (w0 := w1) (Nat.le_trans H4S.out HB1.out.size) (fun q hq => Nat.lt_of_lt_of_le (HVL.out q hq).2 HB1.out.size)).trans (rest_below (B3.out.alloc B3.out.size _))) C3.out, sLies_ext ((fresh_restv (w0 := w2) (Nat.le_trans H4S.out HB2.out.size) (fun q hq => Nat.lt_of_lt_of_le (HVL.out q hq).2 HB2.out.size)).trans (rest_below (Below.alloc (Below.refl _ _) (Nat.le_refl _) _))) D3.out⟩); have HM5 : Hid (Mine w5 (w.heap.size + 2)) := Lib.hid (HMS.out.low HB5.out HO4.out); have HR5 := Lib.hid (rangeAt_low HRS.out HB5.out HO4.out); have y5 := cell_at0 HR5.out 2 _ rfl; have f5 := HM5.out.frozen 2; have HK5 : Hid (Bk w5 S 43 cs) := Lib.hid ((hgrow.block S (Nat.lt_of_lt_of_le HSS1.out (Nat.le_trans HB3.out.size (by simp))) (fun e => Nat.lt_irrefl S (HVS.out S e.symm))).trans ((heap_alloc_old _ _ (Nat.lt_of_lt_of_le HSS1.out HB3.out.size)).trans (HKS.out.below HB3.out HSS1.out))); clear hown hgrow hat hlt)
                      refine hK.out _ _ ?_ (fun hHeld => ?_)
                      · exact HDX.out _ HK5.out
                      clear hK K
                      (try simp only [Act.put])
                      refine wpAnyH_take (i := 16) (oi := ({ dst := some 65, op := Op.fieldAddr 34 (Operand.tmp 3) 2, type := 0, pos := "ref.go:59", after := #[{ on := 0, ground := Ground.phase }, { on := 1, ground := Ground.phase }, { on := 2, ground := Ground.phase }, { on := 3, ground := Ground.phase }, { on := 4, ground := Ground.phase }, { on := 5, ground := Ground.phase }, { on := 6, ground := Ground.phase }, { on := 7, ground := Ground.phase }, { on := 8, ground := Ground.phase }, { on := 9, ground := Ground.phase }, { on := 10, ground := Ground.phase }, { on := 11, ground := Ground.phase }, { on := 12, ground := Ground.phase }, { on := 13, ground := Ground.phase }, { on := 14, ground := Ground.phase }, { on := 15, ground := Ground.phase }], guard := none } : Oper)) (v := ?_) rfl (by kernel_rfl) (by kernel_rfl) (by kernel_rfl) (fun _ _ _ h => h) (Or.inl ⟨by rfl, ?_⟩) (by assumption) ?_
                      rotate_left
                      · (intro w hSw; (try dsimp only at hSw); go_simp; (try with_reducible rfl))
                      (try simp only [Act.put])
                      refine wpAnyH_ready (rs := [17]) (by kernel_rfl) (by simp) ?_
                      refine AllReadyH.cons (o := ({ dst := none, op := Op.store 32 (Operand.tmp 65) (Operand.tmp 64), type := 0, pos := "ref.go:59", after := #[{ on := 16, ground := Ground.data }, { on := 15, ground := Ground.data }, { on := 15, ground := Ground.chain }, { on := 0, ground := Ground.phase }, { on := 1, ground := Ground.phase }, { on := 2, ground := Ground.phase }, { on := 3, ground := Ground.phase }, { on := 4, ground := Ground.phase }, { on := 5, ground := Ground.phase }, { on := 6, ground := Ground.phase }, { on := 7, ground := Ground.phase }, { on := 8, ground := Ground.phase }, { on := 9, ground := Ground.phase }, { on := 10, ground := Ground.phase }, { on := 11, ground := Ground.phase }, { on := 12, ground := Ground.phase }, { on := 13, ground := Ground.phase }, { on := 14, ground := Ground.phase }, { on := 15, ground := Ground.phase }], guard := none } : Oper)) rfl (fun K hK => ?_) ?_
                      · go_simp
                        refine hK.out _ _ ?_ (fun hHeld => ?_)
                        · exact HDX.out _ (HK5.out.far (p := ⟨w.heap.size + 2, 2, none⟩) HSO.out _)
                        clear hK K
                        (try simp only [Act.put])
                        refine wpAnyH_done (by kernel_rfl) ?_ _
                        refine NoPanic.normal ?_
                        have ho : Only w5 (w.heap.size + 2) 0 3 (w5.setCell ⟨w.heap.size + 2, 2, none⟩ (.slice (some ⟨g, 0, none⟩) (k + 1) cap)) := Only.setCell HM5.out (by omega) (by omega) _
                        have HGZ := Lib.hid (HG5.out.only ho HO4.out)
                        have HBZ : Hid (w4.grownBy (w5.setCell ⟨w.heap.size + 2, 2, none⟩ (.slice (some ⟨g, 0, none⟩) (k + 1) cap)) (some (w.heap.size + 2))) := Lib.hid (grownBy_trans (grownX_low HGS.out HB5.out (Nat.le_refl _)) (grownBy_setC _ _ _))
                        have HMZ := Lib.hid ho.mine
                        have HRZ : Hid ((w5.setCell ⟨w.heap.size + 2, 2, none⟩ (.slice (some ⟨g, 0, none⟩) (k + 1) cap)).rangeAt (w.heap.size + 2) 0 [.slice s1p s1l.length s1c, .slice g2.p g2.l.length g2.cap, .slice (some ⟨g, 0, none⟩) (k + 1) cap]) := Lib.hid (set_range (q := 0) HR5.out 2 _ (show 2 < 3 by decide) rfl)
                        clear ho y5 f5 x1 x2 x3 x3a xS HG5 HR5 HM5 hHeld
                        generalize w5.setCell ⟨w.heap.size + 2, 2, none⟩ (.slice (some ⟨g, 0, none⟩) (k + 1) cap) = w6 at HGZ HBZ HMZ HRZ ⊢
                        go_wp2_with fail
                        go_roundw
                        case rel => exact ⟨k + 1, _, by go_num, by omega, HGZ, HBZ, HMZ, HRZ⟩
                        case measure => simp [intOf]; omega
                      exact AllReadyH.nil
                    exact AllReadyH.nil
                  exact AllReadyH.nil
                exact AllReadyH.nil
              exact AllReadyH.nil
            refine AllReadyH.cons (o := ({ dst := some 58, op := Op.call { callee := Callee.value (Operand.func 48), args := #[Operand.tmp 57], argTypes := #[31] }, type := 31, pos := "ref.go:59", after := #[{ on := 8, ground := Ground.data }, { on := 6, ground := Ground.chain }], guard := none } : Oper)) rfl (fun K hK => ?_) ?_
            · (go_simp; go_at_call 48; (with_reducible refine (HDL.out _ HB1.out).mono ?_); rintro en w2 ⟨v2, rfl, a1, a2, a3, a4⟩; have C1 := Lib.hid a1; have C2 := Lib.hid a2; have C3 := Lib.hid a3; have B2 : Hid (Below w1.heap.size w1 w2) := Lib.hid a4; have HB2 := Lib.hid (HB1.out.trans (a4.mono HB1.out.size)); have x2 : w2.cell? ⟨w.heap.size + 2, 2, none⟩ = some v := (HB2.out.cell (p := ⟨w.heap.size + 2, 2, none⟩) HOS.out).trans xS; clear a1 a2 a3 a4; (try dsimp only))
              refine hK.out _ _ ?_ (fun hHeld => ?_)
              · exact HDV.out _ (HB2.out.mono HSS1.out)
              clear hK K
              (try simp only [Act.put])
              refine wpAnyH_ready (rs := [1, 12]) (by kernel_rfl) (by simp) ?_
              refine AllReadyH.cons (o := ({ dst := some 50, op := Op.load 32 (Operand.tmp 49), type := 32, pos := "ref.go:59", after := #[{ on := 0, ground := Ground.data }], guard := none } : Oper)) rfl (fun K hK => ?_) ?_
              · go_simp
                refine hK.out _ _ ?_ (fun hHeld => ?_)
                · exact HDV.out _ (HB2.out.mono HSS1.out)
                clear hK K
                (try simp only [Act.put])
                refine wpAnyH_ready (rs := [12]) (by kernel_rfl) (by simp) ?_
                refine AllReadyH.cons (o := ({ dst := some 61, op := Op.call { callee := Callee.value (Operand.func 49), args := #[Operand.tmp 60], argTypes := #[22] }, type := 22, pos := "ref.go:59", after := #[{ on := 11, ground := Ground.data }, { on := 9, ground := Ground.chain }], guard := none } : Oper)) rfl (fun K hK => ?_) ?_
                · (go_simp; go_at_call 49; (with_reducible refine (HDB.out _ HB2.out).mono ?_); rintro en w3 ⟨p3, k3, t3, rfl, a1, a2, a3, a4⟩; have D1 := Lib.hid a1; have D2 := Lib.hid a2; have D3 := Lib.hid a3; have B3 : Hid (Below w2.heap.size w2 w3) := Lib.hid a4; have HB3 := Lib.hid (HB2.out.trans (a4.mono HB2.out.size)); have HU3 := Lib.hid (own_below HUS.out HB3.out); have x3 : w3.cell? ⟨w.heap.size + 2, 2, none⟩ = some v := (HB3.out.cell (p := ⟨w.heap.size + 2, 2, none⟩) HOS.out).trans xS; have x3a : ∀ ob, (w3.alloc ob).cell? ⟨w.heap.size + 2, 2, none⟩ = some v := (fun ob => (World.cell?_alloc_lt _ _ _ (Nat.lt_of_lt_of_le HOS.out HB3.out.size)).trans x3); clear a1 a2 a3 a4; (try dsimp only))
                  refine hK.out _ _ ?_ (fun hHeld => ?_)
                  · exact HDV.out _ (HB3.out.mono HSS1.out)
                  clear hK K
                  (try simp only [Act.put])
                  refine wpAnyH_take (i := 13) (oi := ({ dst := some 62, op := Op.build 43 #[(0, Operand.tmp 52), (3, Operand.tmp 55), (4, Operand.tmp 58), (5, Operand.tmp 61)], type := 43, pos := "ref.go:59", after := #[{ on := 3, ground := Ground.data }, { on := 6, ground := Ground.data }, { on := 9, ground := Ground.data }, { on := 12, ground := Ground.data }], guard := none } : Oper)) (v := ?_) rfl (by kernel_rfl) (by kernel_rfl) (by kernel_rfl) (fun _ _ _ h => h) (Or.inl ⟨by rfl, ?_⟩) (by assumption) ?_
                  rotate_left
                  · (intro w hSw; (try dsimp only at hSw); go_simp; (try with_reducible rfl))
                  (try simp only [Act.put])
                  refine wpAnyH_ready (rs := [14]) (by kernel_rfl) (by simp) ?_
                  refine AllReadyH.cons (o := ({ dst := some 63, op := Op.buildSlice 32 1 #[(0, Operand.tmp 62)], type := 32, pos := "ref.go:59", after := #[{ on := 13, ground := Ground.data }], guard := none } : Oper)) rfl (fun K hK => ?_) ?_
                  · go_simp
                    refine hK.out _ _ ?_ (fun hHeld => ?_)
                    · exact HDV.out _ ((HB3.out.mono HSS1.out).alloc (Nat.le_trans HSS1.out HB3.out.size) _)
                    clear hK K
                    (try simp only [Act.put])
                    refine wpAnyH_ready (rs := [15]) (by kernel_rfl) (by simp) ?_
                    refine AllReadyH.cons (o := ({ dst := some 64, op := Op.call { callee := Callee.builtin Builtin.append, args := #[Operand.tmp 50, Operand.tmp 63], argTypes := #[32, 32] }, type := 32, pos := "ref.go:59", after := #[{ on := 1, ground := Ground.data }, { on := 14, ground := Ground.data }, { on := 12, ground := Ground.chain }], guard := none } : Oper)) rfl (fun K hK => ?_) ?_
                    · (refine step_append_lies _ rfl (.tmp 50) (.tmp 63) 32 rfl w4.heap.size 43 i0 (.agg #[.string ByteArray.empty, .int .i64 0, .int .i64 0, .slice none 0 0, .slice none 0 0, .slice none 0 0]) 6 104 Try.underlying32 HI.out HZ0.out HZ1.out HZ2.out rfl (by decide) v k _ rfl (HU3.out.alloc _) ⟨w3.heap.size, 0, none⟩ 1 1 [.string nm, .int .i64 0, .int .i64 0, .slice v1.p v1.l.length v1.cap, .slice v2.p v2.l.length v2.cap, .slice p3 t3.len k3] rfl rfl (World.news_of_block (heap_alloc_new _ _)) (one_of (kPc.one ⟨nm, 0, 0, v1, v2, p3, k3, t3⟩)) (by decide) HLB.out HLA.out (Nat.le_trans H4S.out (Nat.le_trans HB3.out.size (by simp))) _ rfl ?_; intro g cap w5 hown hgrow hat hlt; have HB5 : Hid (Below w4.heap.size wS w5) := Lib.hid (((HB3.out.mono H4S.out).alloc (Nat.le_trans H4S.out HB3.out.size) _).grown hgrow (Nat.le_trans H4S.out (Nat.le_trans HB3.out.size (by simp))) (fun q hq => (HVL.out q hq).1)); have HG5 : Hid (kPc.Grows w4.heap.size pl (k + 1) (.slice (some ⟨g, 0, none⟩) (k + 1) cap) w5) := Lib.hid (kPc.add (y := ⟨nm, 0, 0, v1, v2, p3, k3, t3⟩) HE1.out HE2.out HE3.out (fun q hq => kPc.ext q (rest_below (HB3.out.alloc HB3.out.size _)) (HE5.out q hq)) HXE.out hgrow hat hown (by show Pc.er _ = Pc.er _; simp only [Pc.er, A1.out, C1.out, D1.out]) ⟨rfl, rfl, A2.out, C2.out, D2.out⟩ ⟨declsLie_ext ((fresh_restv (w0 := wS) H4S.out (fun q hq => (HVL.out q hq).2)).trans (rest_below ((B2.out.trans (B3.out.mono B2.out.size)).alloc (Nat.le_trans B2.out.size B3.out.size) _))) A3.out, declsLie_ext ((fresh_restv (w0 := w1) (Nat.le_trans H4S.out HB1.out.size) (fun q hq => Nat.lt_of_lt_of_le (HVL.out q hq).2 HB1.out.size)).trans (rest_below (B3.out.alloc B3.out.size _))) C3.out, sLies_ext ((fresh_restv (w0 := w2) (Nat.le_trans H4S.out HB2.out.size) (fun q hq => Nat.lt_of_lt_of_le (HVL.out q hq).2 HB2.out.size)).trans (rest_below (Below.alloc (Below.refl _ _) (Nat.le_refl _) _))) D3.out⟩); have HM5 : Hid (Mine w5 (w.heap.size + 2)) := Lib.hid (HMS.out.low HB5.out HO4.out); have HR5 := Lib.hid (rangeAt_low HRS.out HB5.out HO4.out); have y5 := cell_at0 HR5.out 2 _ rfl; have f5 := HM5.out.frozen 2; have HK5 : Hid (Bk w5 S 43 cs) := Lib.hid ((hgrow.block S (Nat.lt_of_lt_of_le HSS1.out (Nat.le_trans HB3.out.size (by simp))) (fun e => Nat.lt_irrefl S (HVS.out S e.symm))).trans ((heap_alloc_old _ _ (Nat.lt_of_lt_of_le HSS1.out HB3.out.size)).trans (HKS.out.below HB3.out HSS1.out))); clear hown hgrow hat hlt)
                      refine hK.out _ _ ?_ (fun hHeld => ?_)
                      · exact HDX.out _ HK5.out
                      clear hK K
                      (try simp only [Act.put])
                      refine wpAnyH_take (i := 16) (oi := ({ dst := some 65, op := Op.fieldAddr 34 (Operand.tmp 3) 2, type := 0, pos := "ref.go:59", after := #[{ on := 0, ground := Ground.phase }, { on := 1, ground := Ground.phase }, { on := 2, ground := Ground.phase }, { on := 3, ground := Ground.phase }, { on := 4, ground := Ground.phase }, { on := 5, ground := Ground.phase }, { on := 6, ground := Ground.phase }, { on := 7, ground := Ground.phase }, { on := 8, ground := Ground.phase }, { on := 9, ground := Ground.phase }, { on := 10, ground := Ground.phase }, { on := 11, ground := Ground.phase }, { on := 12, ground := Ground.phase }, { on := 13, ground := Ground.phase }, { on := 14, ground := Ground.phase }, { on := 15, ground := Ground.phase }], guard := none } : Oper)) (v := ?_) rfl (by kernel_rfl) (by kernel_rfl) (by kernel_rfl) (fun _ _ _ h => h) (Or.inl ⟨by rfl, ?_⟩) (by assumption) ?_
                      rotate_left
                      · (intro w hSw; (try dsimp only at hSw); go_simp; (try with_reducible rfl))
                      (try simp only [Act.put])
                      refine wpAnyH_ready (rs := [17]) (by kernel_rfl) (by simp) ?_
                      refine AllReadyH.cons (o := ({ dst := none, op := Op.store 32 (Operand.tmp 65) (Operand.tmp 64), type := 0, pos := "ref.go:59", after := #[{ on := 16, ground := Ground.data }, { on := 15, ground := Ground.data }, { on := 15, ground := Ground.chain }, { on := 0, ground := Ground.phase }, { on := 1, ground := Ground.phase }, { on := 2, ground := Ground.phase }, { on := 3, ground := Ground.phase }, { on := 4, ground := Ground.phase }, { on := 5, ground := Ground.phase }, { on := 6, ground := Ground.phase }, { on := 7, ground := Ground.phase }, { on := 8, ground := Ground.phase }, { on := 9, ground := Ground.phase }, { on := 10, ground := Ground.phase }, { on := 11, ground := Ground.phase }, { on := 12, ground := Ground.phase }, { on := 13, ground := Ground.phase }, { on := 14, ground := Ground.phase }, { on := 15, ground := Ground.phase }], guard := none } : Oper)) rfl (fun K hK => ?_) ?_
                      · go_simp
                        refine hK.out _ _ ?_ (fun hHeld => ?_)
                        · exact HDX.out _ (HK5.out.far (p := ⟨w.heap.size + 2, 2, none⟩) HSO.out _)
                        clear hK K
                        (try simp only [Act.put])
                        refine wpAnyH_done (by kernel_rfl) ?_ _
                        refine NoPanic.normal ?_
                        have ho : Only w5 (w.heap.size + 2) 0 3 (w5.setCell ⟨w.heap.size + 2, 2, none⟩ (.slice (some ⟨g, 0, none⟩) (k + 1) cap)) := Only.setCell HM5.out (by omega) (by omega) _
                        have HGZ := Lib.hid (HG5.out.only ho HO4.out)
                        have HBZ : Hid (w4.grownBy (w5.setCell ⟨w.heap.size + 2, 2, none⟩ (.slice (some ⟨g, 0, none⟩) (k + 1) cap)) (some (w.heap.size + 2))) := Lib.hid (grownBy_trans (grownX_low HGS.out HB5.out (Nat.le_refl _)) (grownBy_setC _ _ _))
                        have HMZ := Lib.hid ho.mine
                        have HRZ : Hid ((w5.setCell ⟨w.heap.size + 2, 2, none⟩ (.slice (some ⟨g, 0, none⟩) (k + 1) cap)).rangeAt (w.heap.size + 2) 0 [.slice s1p s1l.length s1c, .slice g2.p g2.l.length g2.cap, .slice (some ⟨g, 0, none⟩) (k + 1) cap]) := Lib.hid (set_range (q := 0) HR5.out 2 _ (show 2 < 3 by decide) rfl)
                        clear ho y5 f5 x1 x2 x3 x3a xS HG5 HR5 HM5 hHeld
                        generalize w5.setCell ⟨w.heap.size + 2, 2, none⟩ (.slice (some ⟨g, 0, none⟩) (k + 1) cap) = w6 at HGZ HBZ HMZ HRZ ⊢
                        go_wp2_with fail
                        go_roundw
                        case rel => exact ⟨k + 1, _, by go_num, by omega, HGZ, HBZ, HMZ, HRZ⟩
                        case measure => simp [intOf]; omega
                      exact AllReadyH.nil
                    exact AllReadyH.nil
                  exact AllReadyH.nil
                exact AllReadyH.nil
              refine AllReadyH.cons (o := ({ dst := some 61, op := Op.call { callee := Callee.value (Operand.func 49), args := #[Operand.tmp 60], argTypes := #[22] }, type := 22, pos := "ref.go:59", after := #[{ on := 11, ground := Ground.data }, { on := 9, ground := Ground.chain }], guard := none } : Oper)) rfl (fun K hK => ?_) ?_
              · (go_simp; go_at_call 49; (with_reducible refine (HDB.out _ HB2.out).mono ?_); rintro en w3 ⟨p3, k3, t3, rfl, a1, a2, a3, a4⟩; have D1 := Lib.hid a1; have D2 := Lib.hid a2; have D3 := Lib.hid a3; have B3 : Hid (Below w2.heap.size w2 w3) := Lib.hid a4; have HB3 := Lib.hid (HB2.out.trans (a4.mono HB2.out.size)); have HU3 := Lib.hid (own_below HUS.out HB3.out); have x3 : w3.cell? ⟨w.heap.size + 2, 2, none⟩ = some v := (HB3.out.cell (p := ⟨w.heap.size + 2, 2, none⟩) HOS.out).trans xS; have x3a : ∀ ob, (w3.alloc ob).cell? ⟨w.heap.size + 2, 2, none⟩ = some v := (fun ob => (World.cell?_alloc_lt _ _ _ (Nat.lt_of_lt_of_le HOS.out HB3.out.size)).trans x3); clear a1 a2 a3 a4; (try dsimp only))
                refine hK.out _ _ ?_ (fun hHeld => ?_)
                · exact HDV.out _ (HB3.out.mono HSS1.out)
                clear hK K
                (try simp only [Act.put])
                refine wpAnyH_take (i := 13) (oi := ({ dst := some 62, op := Op.build 43 #[(0, Operand.tmp 52), (3, Operand.tmp 55), (4, Operand.tmp 58), (5, Operand.tmp 61)], type := 43, pos := "ref.go:59", after := #[{ on := 3, ground := Ground.data }, { on := 6, ground := Ground.data }, { on := 9, ground := Ground.data }, { on := 12, ground := Ground.data }], guard := none } : Oper)) (v := ?_) rfl (by kernel_rfl) (by kernel_rfl) (by kernel_rfl) (fun _ _ _ h => h) (Or.inl ⟨by rfl, ?_⟩) (by assumption) ?_
                rotate_left
                · (intro w hSw; (try dsimp only at hSw); go_simp; (try with_reducible rfl))
                (try simp only [Act.put])
                refine wpAnyH_ready (rs := [1, 14]) (by kernel_rfl) (by simp) ?_
                refine AllReadyH.cons (o := ({ dst := some 50, op := Op.load 32 (Operand.tmp 49), type := 32, pos := "ref.go:59", after := #[{ on := 0, ground := Ground.data }], guard := none } : Oper)) rfl (fun K hK => ?_) ?_
                · go_simp
                  refine hK.out _ _ ?_ (fun hHeld => ?_)
                  · exact HDV.out _ (HB3.out.mono HSS1.out)
                  clear hK K
                  (try simp only [Act.put])
                  refine wpAnyH_ready (rs := [14]) (by kernel_rfl) (by simp) ?_
                  refine AllReadyH.cons (o := ({ dst := some 63, op := Op.buildSlice 32 1 #[(0, Operand.tmp 62)], type := 32, pos := "ref.go:59", after := #[{ on := 13, ground := Ground.data }], guard := none } : Oper)) rfl (fun K hK => ?_) ?_
                  · go_simp
                    refine hK.out _ _ ?_ (fun hHeld => ?_)
                    · exact HDV.out _ ((HB3.out.mono HSS1.out).alloc (Nat.le_trans HSS1.out HB3.out.size) _)
                    clear hK K
                    (try simp only [Act.put])
                    refine wpAnyH_ready (rs := [15]) (by kernel_rfl) (by simp) ?_
                    refine AllReadyH.cons (o := ({ dst := some 64, op := Op.call { callee := Callee.builtin Builtin.append, args := #[Operand.tmp 50, Operand.tmp 63], argTypes := #[32, 32] }, type := 32, pos := "ref.go:59", after := #[{ on := 1, ground := Ground.data }, { on := 14, ground := Ground.data }, { on := 12, ground := Ground.chain }], guard := none } : Oper)) rfl (fun K hK => ?_) ?_
                    · (refine step_append_lies _ rfl (.tmp 50) (.tmp 63) 32 rfl w4.heap.size 43 i0 (.agg #[.string ByteArray.empty, .int .i64 0, .int .i64 0, .slice none 0 0, .slice none 0 0, .slice none 0 0]) 6 104 Try.underlying32 HI.out HZ0.out HZ1.out HZ2.out rfl (by decide) v k _ rfl (HU3.out.alloc _) ⟨w3.heap.size, 0, none⟩ 1 1 [.string nm, .int .i64 0, .int .i64 0, .slice v1.p v1.l.length v1.cap, .slice v2.p v2.l.length v2.cap, .slice p3 t3.len k3] rfl rfl (World.news_of_block (heap_alloc_new _ _)) (one_of (kPc.one ⟨nm, 0, 0, v1, v2, p3, k3, t3⟩)) (by decide) HLB.out HLA.out (Nat.le_trans H4S.out (Nat.le_trans HB3.out.size (by simp))) _ rfl ?_; intro g cap w5 hown hgrow hat hlt; have HB5 : Hid (Below w4.heap.size wS w5) := Lib.hid (((HB3.out.mono H4S.out).alloc (Nat.le_trans H4S.out HB3.out.size) _).grown hgrow (Nat.le_trans H4S.out (Nat.le_trans HB3.out.size (by simp))) (fun q hq => (HVL.out q hq).1)); have HG5 : Hid (kPc.Grows w4.heap.size pl (k + 1) (.slice (some ⟨g, 0, none⟩) (k + 1) cap) w5) := Lib.hid (kPc.add (y := ⟨nm, 0, 0, v1, v2, p3, k3, t3⟩) HE1.out HE2.out HE3.out (fun q hq => kPc.ext q (rest_below (HB3.out.alloc HB3.out.size _)) (HE5.out q hq)) HXE.out hgrow hat hown (by show Pc.er _ = Pc.er _; simp only [Pc.er, A1.out, C1.out, D1.out]) ⟨rfl, rfl, A2.out, C2.out, D2.out⟩ ⟨declsLie_ext ((fresh_restv (w0 := wS) H4S.out (fun q hq => (HVL.out q hq).2)).trans (rest_below ((B2.out.trans (B3.out.mono B2.out.size)).alloc (Nat.le_trans B2.out.size B3.out.size) _))) A3.out, declsLie_ext ((fresh_restv (w0 := w1) (Nat.le_trans H4S.out HB1.out.size) (fun q hq => Nat.lt_of_lt_of_le (HVL.out q hq).2 HB1.out.size)).trans (rest_below (B3.out.alloc B3.out.size _))) C3.out, sLies_ext ((fresh_restv (w0 := w2) (Nat.le_trans H4S.out HB2.out.size) (fun q hq => Nat.lt_of_lt_of_le (HVL.out q hq).2 HB2.out.size)).trans (rest_below (Below.alloc (Below.refl _ _) (Nat.le_refl _) _))) D3.out⟩); have HM5 : Hid (Mine w5 (w.heap.size + 2)) := Lib.hid (HMS.out.low HB5.out HO4.out); have HR5 := Lib.hid (rangeAt_low HRS.out HB5.out HO4.out); have y5 := cell_at0 HR5.out 2 _ rfl; have f5 := HM5.out.frozen 2; have HK5 : Hid (Bk w5 S 43 cs) := Lib.hid ((hgrow.block S (Nat.lt_of_lt_of_le HSS1.out (Nat.le_trans HB3.out.size (by simp))) (fun e => Nat.lt_irrefl S (HVS.out S e.symm))).trans ((heap_alloc_old _ _ (Nat.lt_of_lt_of_le HSS1.out HB3.out.size)).trans (HKS.out.below HB3.out HSS1.out))); clear hown hgrow hat hlt)
                      refine hK.out _ _ ?_ (fun hHeld => ?_)
                      · exact HDX.out _ HK5.out
                      clear hK K
                      (try simp only [Act.put])
                      refine wpAnyH_take (i := 16) (oi := ({ dst := some 65, op := Op.fieldAddr 34 (Operand.tmp 3) 2, type := 0, pos := "ref.go:59", after := #[{ on := 0, ground := Ground.phase }, { on := 1, ground := Ground.phase }, { on := 2, ground := Ground.phase }, { on := 3, ground := Ground.phase }, { on := 4, ground := Ground.phase }, { on := 5, ground := Ground.phase }, { on := 6, ground := Ground.phase }, { on := 7, ground := Ground.phase }, { on := 8, ground := Ground.phase }, { on := 9, ground := Ground.phase }, { on := 10, ground := Ground.phase }, { on := 11, ground := Ground.phase }, { on := 12, ground := Ground.phase }, { on := 13, ground := Ground.phase }, { on := 14, ground := Ground.phase }, { on := 15, ground := Ground.phase }], guard := none } : Oper)) (v := ?_) rfl (by kernel_rfl) (by kernel_rfl) (by kernel_rfl) (fun _ _ _ h => h) (Or.inl ⟨by rfl, ?_⟩) (by assumption) ?_
                      rotate_left
                      · (intro w hSw; (try dsimp only at hSw); go_simp; (try with_reducible rfl))
                      (try simp only [Act.put])
                      refine wpAnyH_ready (rs := [17]) (by kernel_rfl) (by simp) ?_
                      refine AllReadyH.cons (o := ({ dst := none, op := Op.store 32 (Operand.tmp 65) (Operand.tmp 64), type := 0, pos := "ref.go:59", after := #[{ on := 16, ground := Ground.data }, { on := 15, ground := Ground.data }, { on := 15, ground := Ground.chain }, { on := 0, ground := Ground.phase }, { on := 1, ground := Ground.phase }, { on := 2, ground := Ground.phase }, { on := 3, ground := Ground.phase }, { on := 4, ground := Ground.phase }, { on := 5, ground := Ground.phase }, { on := 6, ground := Ground.phase }, { on := 7, ground := Ground.phase }, { on := 8, ground := Ground.phase }, { on := 9, ground := Ground.phase }, { on := 10, ground := Ground.phase }, { on := 11, ground := Ground.phase }, { on := 12, ground := Ground.phase }, { on := 13, ground := Ground.phase }, { on := 14, ground := Ground.phase }, { on := 15, ground := Ground.phase }], guard := none } : Oper)) rfl (fun K hK => ?_) ?_
                      · go_simp
                        refine hK.out _ _ ?_ (fun hHeld => ?_)
                        · exact HDX.out _ (HK5.out.far (p := ⟨w.heap.size + 2, 2, none⟩) HSO.out _)
                        clear hK K
                        (try simp only [Act.put])
                        refine wpAnyH_done (by kernel_rfl) ?_ _
                        refine NoPanic.normal ?_
                        have ho : Only w5 (w.heap.size + 2) 0 3 (w5.setCell ⟨w.heap.size + 2, 2, none⟩ (.slice (some ⟨g, 0, none⟩) (k + 1) cap)) := Only.setCell HM5.out (by omega) (by omega) _
                        have HGZ := Lib.hid (HG5.out.only ho HO4.out)
                        have HBZ : Hid (w4.grownBy (w5.setCell ⟨w.heap.size + 2, 2, none⟩ (.slice (some ⟨g, 0, none⟩) (k + 1) cap)) (some (w.heap.size + 2))) := Lib.hid (grownBy_trans (grownX_low HGS.out HB5.out (Nat.le_refl _)) (grownBy_setC _ _ _))
                        have HMZ := Lib.hid ho.mine
                        have HRZ : Hid ((w5.setCell ⟨w.heap.size + 2, 2, none⟩ (.slice (some ⟨g, 0, none⟩) (k + 1) cap)).rangeAt (w.heap.size + 2) 0 [.slice s1p s1l.length s1c, .slice g2.p g2.l.length g2.cap, .slice (some ⟨g, 0, none⟩) (k + 1) cap]) := Lib.hid (set_range (q := 0) HR5.out 2 _ (show 2 < 3 by decide) rfl)
                        clear ho y5 f5 x1 x2 x3 x3a xS HG5 HR5 HM5 hHeld
                        generalize w5.setCell ⟨w.heap.size + 2, 2, none⟩ (.slice (some ⟨g, 0, none⟩) (k + 1) cap) = w6 at HGZ HBZ HMZ HRZ ⊢
                        go_wp2_with fail
                        go_roundw
                        case rel => exact ⟨k + 1, _, by go_num, by omega, HGZ, HBZ, HMZ, HRZ⟩
                        case measure => simp [intOf]; omega
                      exact AllReadyH.nil
                    exact AllReadyH.nil
                  exact AllReadyH.nil
                refine AllReadyH.cons (o := ({ dst := some 63, op := Op.buildSlice 32 1 #[(0, Operand.tmp 62)], type := 32, pos := "ref.go:59", after := #[{ on := 13, ground := Ground.data }], guard := none } : Oper)) rfl (fun K hK => ?_) ?_
                · go_simp
                  refine hK.out _ _ ?_ (fun hHeld => ?_)
                  · exact HDV.out _ ((HB3.out.mono HSS1.out).alloc (Nat.le_trans HSS1.out HB3.out.size) _)
                  clear hK K
                  (try simp only [Act.put])
                  refine wpAnyH_ready (rs := [1]) (by kernel_rfl) (by simp) ?_
                  refine AllReadyH.cons (o := ({ dst := some 50, op := Op.load 32 (Operand.tmp 49), type := 32, pos := "ref.go:59", after := #[{ on := 0, ground := Ground.data }], guard := none } : Oper)) rfl (fun K hK => ?_) ?_
                  · go_simp
                    refine hK.out _ _ ?_ (fun hHeld => ?_)
                    · exact HDV.out _ ((HB3.out.mono HSS1.out).alloc (Nat.le_trans HSS1.out HB3.out.size) _)
                    clear hK K
                    (try simp only [Act.put])
                    refine wpAnyH_ready (rs := [15]) (by kernel_rfl) (by simp) ?_
                    refine AllReadyH.cons (o := ({ dst := some 64, op := Op.call { callee := Callee.builtin Builtin.append, args := #[Operand.tmp 50, Operand.tmp 63], argTypes := #[32, 32] }, type := 32, pos := "ref.go:59", after := #[{ on := 1, ground := Ground.data }, { on := 14, ground := Ground.data }, { on := 12, ground := Ground.chain }], guard := none } : Oper)) rfl (fun K hK => ?_) ?_
                    · (refine step_append_lies _ rfl (.tmp 50) (.tmp 63) 32 rfl w4.heap.size 43 i0 (.agg #[.string ByteArray.empty, .int .i64 0, .int .i64 0, .slice none 0 0, .slice none 0 0, .slice none 0 0]) 6 104 Try.underlying32 HI.out HZ0.out HZ1.out HZ2.out rfl (by decide) v k _ rfl (HU3.out.alloc _) ⟨w3.heap.size, 0, none⟩ 1 1 [.string nm, .int .i64 0, .int .i64 0, .slice v1.p v1.l.length v1.cap, .slice v2.p v2.l.length v2.cap, .slice p3 t3.len k3] rfl rfl (World.news_of_block (heap_alloc_new _ _)) (one_of (kPc.one ⟨nm, 0, 0, v1, v2, p3, k3, t3⟩)) (by decide) HLB.out HLA.out (Nat.le_trans H4S.out (Nat.le_trans HB3.out.size (by simp))) _ rfl ?_; intro g cap w5 hown hgrow hat hlt; have HB5 : Hid (Below w4.heap.size wS w5) := Lib.hid (((HB3.out.mono H4S.out).alloc (Nat.le_trans H4S.out HB3.out.size) _).grown hgrow (Nat.le_trans H4S.out (Nat.le_trans HB3.out.size (by simp))) (fun q hq => (HVL.out q hq).1)); have HG5 : Hid (kPc.Grows w4.heap.size pl (k + 1) (.slice (some ⟨g, 0, none⟩) (k + 1) cap) w5) := Lib.hid (kPc.add (y := ⟨nm, 0, 0, v1, v2, p3, k3, t3⟩) HE1.out HE2.out HE3.out (fun q hq => kPc.ext q (rest_below (HB3.out.alloc HB3.out.size _)) (HE5.out q hq)) HXE.out hgrow hat hown (by show Pc.er _ = Pc.er _; simp only [Pc.er, A1.out, C1.out, D1.out]) ⟨rfl, rfl, A2.out, C2.out, D2.out⟩ ⟨declsLie_ext ((fresh_restv (w0 := wS) H4S.out (fun q hq => (HVL.out q hq).2)).trans (rest_below ((B2.out.trans (B3.out.mono B2.out.size)).alloc (Nat.le_trans B2.out.size B3.out.size) _))) A3.out, declsLie_ext ((fresh_restv (w0 := w1) (Nat.le_trans H4S.out HB1.out.size) (fun q hq => Nat.lt_of_lt_of_le (HVL.out q hq).2 HB1.out.size)).trans (rest_below (B3.out.alloc B3.out.size _))) C3.out, sLies_ext ((fresh_restv (w0 := w2) (Nat.le_trans H4S.out HB2.out.size) (fun q hq => Nat.lt_of_lt_of_le (HVL.out q hq).2 HB2.out.size)).trans (rest_below (Below.alloc (Below.refl _ _) (Nat.le_refl _) _))) D3.out⟩); have HM5 : Hid (Mine w5 (w.heap.size + 2)) := Lib.hid (HMS.out.low HB5.out HO4.out); have HR5 := Lib.hid (rangeAt_low HRS.out HB5.out HO4.out); have y5 := cell_at0 HR5.out 2 _ rfl; have f5 := HM5.out.frozen 2; have HK5 : Hid (Bk w5 S 43 cs) := Lib.hid ((hgrow.block S (Nat.lt_of_lt_of_le HSS1.out (Nat.le_trans HB3.out.size (by simp))) (fun e => Nat.lt_irrefl S (HVS.out S e.symm))).trans ((heap_alloc_old _ _ (Nat.lt_of_lt_of_le HSS1.out HB3.out.size)).trans (HKS.out.below HB3.out HSS1.out))); clear hown hgrow hat hlt)
                      refine hK.out _ _ ?_ (fun hHeld => ?_)
                      · exact HDX.out _ HK5.out
                      clear hK K
                      (try simp only [Act.put])
                      refine wpAnyH_take (i := 16) (oi := ({ dst := some 65, op := Op.fieldAddr 34 (Operand.tmp 3) 2, type := 0, pos := "ref.go:59", after := #[{ on := 0, ground := Ground.phase }, { on := 1, ground := Ground.phase }, { on := 2, ground := Ground.phase }, { on := 3, ground := Ground.phase }, { on := 4, ground := Ground.phase }, { on := 5, ground := Ground.phase }, { on := 6, ground := Ground.phase }, { on := 7, ground := Ground.phase }, { on := 8, ground := Ground.phase }, { on := 9, ground := Ground.phase }, { on := 10, ground := Ground.phase }, { on := 11, ground := Ground.phase }, { on := 12, ground := Ground.phase }, { on := 13, ground := Ground.phase }, { on := 14, ground := Ground.phase }, { on := 15, ground := Ground.phase }], guard := none } : Oper)) (v := ?_) rfl (by kernel_rfl) (by kernel_rfl) (by kernel_rfl) (fun _ _ _ h => h) (Or.inl ⟨by rfl, ?_⟩) (by assumption) ?_
                      rotate_left
                      · (intro w hSw; (try dsimp only at hSw); go_simp; (try with_reducible rfl))
                      (try simp only [Act.put])
                      refine wpAnyH_ready (rs := [17]) (by kernel_rfl) (by simp) ?_
                      refine AllReadyH.cons (o := ({ dst := none, op := Op.store 32 (Operand.tmp 65) (Operand.tmp 64), type := 0, pos := "ref.go:59", after := #[{ on := 16, ground := Ground.data }, { on := 15, ground := Ground.data }, { on := 15, ground := Ground.chain }, { on := 0, ground := Ground.phase }, { on := 1, ground := Ground.phase }, { on := 2, ground := Ground.phase }, { on := 3, ground := Ground.phase }, { on := 4, ground := Ground.phase }, { on := 5, ground := Ground.phase }, { on := 6, ground := Ground.phase }, { on := 7, ground := Ground.phase }, { on := 8, ground := Ground.phase }, { on := 9, ground := Ground.phase }, { on := 10, ground := Ground.phase }, { on := 11, ground := Ground.phase }, { on := 12, ground := Ground.phase }, { on := 13, ground := Ground.phase }, { on := 14, ground := Ground.phase }, { on := 15, ground := Ground.phase }], guard := none } : Oper)) rfl (fun K hK => ?_) ?_
                      · go_simp
                        refine hK.out _ _ ?_ (fun hHeld => ?_)
                        · exact HDX.out _ (HK5.out.far (p := ⟨w.heap.size + 2, 2, none⟩) HSO.out _)
                        clear hK K
                        (try simp only [Act.put])
                        refine wpAnyH_done (by kernel_rfl) ?_ _
                        refine NoPanic.normal ?_
                        have ho : Only w5 (w.heap.size + 2) 0 3 (w5.setCell ⟨w.heap.size + 2, 2, none⟩ (.slice (some ⟨g, 0, none⟩) (k + 1) cap)) := Only.setCell HM5.out (by omega) (by omega) _
                        have HGZ := Lib.hid (HG5.out.only ho HO4.out)
                        have HBZ : Hid (w4.grownBy (w5.setCell ⟨w.heap.size + 2, 2, none⟩ (.slice (some ⟨g, 0, none⟩) (k + 1) cap)) (some (w.heap.size + 2))) := Lib.hid (grownBy_trans (grownX_low HGS.out HB5.out (Nat.le_refl _)) (grownBy_setC _ _ _))
                        have HMZ := Lib.hid ho.mine
                        have HRZ : Hid ((w5.setCell ⟨w.heap.size + 2, 2, none⟩ (.slice (some ⟨g, 0, none⟩) (k + 1) cap)).rangeAt (w.heap.size + 2) 0 [.slice s1p s1l.length s1c, .slice g2.p g2.l.length g2.cap, .slice (some ⟨g, 0, none⟩) (k + 1) cap]) := Lib.hid (set_range (q := 0) HR5.out 2 _ (show 2 < 3 by decide) rfl)
                        clear ho y5 f5 x1 x2 x3 x3a xS HG5 HR5 HM5 hHeld
                        generalize w5.setCell ⟨w.heap.size + 2, 2, none⟩ (.slice (some ⟨g, 0, none⟩) (k + 1) cap) = w6 at HGZ HBZ HMZ HRZ ⊢
                        go_wp2_with fail
                        go_roundw
                        case rel => exact ⟨k + 1, _, by go_num, by omega, HGZ, HBZ, HMZ, HRZ⟩
                        case measure => simp [intOf]; omega
                      exact AllReadyH.nil
                    exact AllReadyH.nil
                  exact AllReadyH.nil
                exact AllReadyH.nil
              exact AllReadyH.nil
            exact AllReadyH.nil
          exact AllReadyH.nil
        · obtain rfl : k = pl.length := by omega
          obtain ⟨s3p, s3c, s3l, rfl, q1, q2, q3⟩ := kPc.fin HP.out.1 HGj.out
          have P1 := Lib.hid q1; have P2 := Lib.hid q2; have P3 := Lib.hid q3
          have o0 := cell_at0 HRj.out 0 _ rfl
          have o1 := cell_at0 HRj.out 1 _ rfl
          have o2 := cell_at0 HRj.out 2 _ rfl
          have HKR : Hid (Bk wr (w.heap.size + 1) 34 #[.slice none 0 0, .slice none 0 0, .slice none 0 0]) := Lib.hid (Bk.below HK1.out HBX.out (by omega))
          have r0 := HKR.out.cell 0
          have r1 := HKR.out.cell 1
          have r2 := HKR.out.cell 2
          have g0 := HKR.out.frozen 0
          have g1 := HKR.out.frozen 1
          have g3 := HKR.out.frozen 2
          clear q1 q2 q3
          go_wp2_with fail
          clear r0 r1 r2 g0 g1 g3 o0 o1 o2 p2
          have c0 : Only wr (w.heap.size + 1) 0 3 (wr.setCell ⟨w.heap.size + 1, 0, none⟩ (.slice s1p s1l.length s1c)) := Only.setCell HKR.out.mine (by omega) (by omega) _
          have c1 : Only (wr.setCell ⟨w.heap.size + 1, 0, none⟩ (.slice s1p s1l.length s1c)) (w.heap.size + 1) 0 3 ((wr.setCell ⟨w.heap.size + 1, 0, none⟩ (.slice s1p s1l.length s1c)).setCell ⟨w.heap.size + 1, 1, none⟩ (.slice g2.p g2.l.length g2.cap)) := Only.setCell c0.mine (by omega) (by omega) _
          have c2 : Only ((wr.setCell ⟨w.heap.size + 1, 0, none⟩ (.slice s1p s1l.length s1c)).setCell ⟨w.heap.size + 1, 1, none⟩ (.slice g2.p g2.l.length g2.cap)) (w.heap.size + 1) 0 3 (((wr.setCell ⟨w.heap.size + 1, 0, none⟩ (.slice s1p s1l.length s1c)).setCell ⟨w.heap.size + 1, 1, none⟩ (.slice g2.p g2.l.length g2.cap)).setCell ⟨w.heap.size + 1, 2, none⟩ (.slice s3p s3l.length s3c)) := Only.setCell c1.mine (by omega) (by omega) _
          have HOZ := Lib.hid (c0.trans (c1.trans c2))
          have hB : Bk (((wr.setCell ⟨w.heap.size + 1, 0, none⟩ (.slice s1p s1l.length s1c)).setCell ⟨w.heap.size + 1, 1, none⟩ (.slice g2.p g2.l.length g2.cap)).setCell ⟨w.heap.size + 1, 2, none⟩ (.slice s3p s3l.length s3c)) (w.heap.size + 1) 34 #[.slice s1p s1l.length s1c, .slice g2.p g2.l.length g2.cap, .slice s3p s3l.length s3c] := ((Bk.set_ HKR.out 0 _).set_ 1 _).set_ 2 _
          clear c0 c1 c2
          generalize ((wr.setCell ⟨w.heap.size + 1, 0, none⟩ (.slice s1p s1l.length s1c)).setCell ⟨w.heap.size + 1, 1, none⟩ (.slice g2.p g2.l.length g2.cap)).setCell ⟨w.heap.size + 1, 2, none⟩ (.slice s3p s3l.length s3c) = wz at HOZ hB ⊢
          have e0 := hB.cell 0
          have e1 := hB.cell 1
          have e2 := hB.cell 2
          refine bodyPost_ret (v := .agg #[.slice s1p s1l.length s1c, .slice g2.p g2.l.length g2.cap, .slice s3p s3l.length s3c]) (by simp [results, Try.results23, go_sem, e0, e1, e2]) rfl ?_
          have hRA : w.heap.size + 1 < wA.heap.size := by rw [HSA.out]; omega
          have hWA : w.heap.size ≤ wA.heap.size := by rw [HSA.out]; omega
          have zZ : Ext (fresh wA.heap.size wr) (fresh w.heap.size wz) := (fresh_only HOZ.out hRA).trans (fresh_mono hWA _)
          have z4 : Ext (fresh wA.heap.size w4) (fresh w.heap.size wz) := (fresh_grownX HGX.out HOA.out).trans zZ
          have z1 : Ext (fresh wA.heap.size w1) (fresh w.heap.size wz) := (fresh_only HO4X.out HOA.out).trans z4
          refine ⟨⟨⟨s1p, s1c, s1l⟩, g2, ⟨s3p, s3c, s3l⟩⟩, rfl, ?_, ⟨Q2.out, G2.out, P2.out⟩, ⟨?_, ?_, ?_⟩, HBA.out.trans ((HBX.out.mono (by omega)).trans (HOZ.out.to_below (by omega) (Nat.le_trans hWA (Nat.le_trans HA4.out HGX.out.size))))⟩
          · show Pg.er _ = Pg.er _
            simp only [Pg.er, Sl.er, show s1l.map Sr.er = sl.map Sr.er from Q1.out, show s3l.map Pc.er = pl.map Pc.er from P1.out]
            congr 1
          · exact srsLie_ext ((fresh_below G4.out).trans z1) Q3.out
          · exact declsLie_ext ((fresh_mono HAR.out _).trans z1) G3.out
          · exact pcsLie_ext ((fresh_mono HA4.out _).trans zZ) P3.out

end Go.Proofs.Ytpbjnjnmbglllaa
