/-
  DERIVED. Cut where there is no head.
-/
import Derived.Test.YtnkimfbdcghgpaaDoorXy
import Derived.Carry
import Derived.WideMake
namespace Go.Proofs.YtnkimfbdcghgpaaDoor
open Go.RowKit Go.Sort

theorem key_int (e : Bool) (n : Nat) (k : Int) (W : World) : (Instr.checkKey e (n + 1) 3 (.int .i64 k)).run Tryd.prog W = .ok () W := by
  unfold Instr.checkKey
  simp [go_sem]
theorem look_none {W : World} {B : Nat} (h : W.heap[B]? = some (.map #[] 0)) (k : Int) : (Instr.lookup 44 (.map (some B)) (.int .i64 k) true).run Tryd.prog W = .ok (.tuple #[.agg #[], .bool false]) W := by
  have hz : (zeroValue 45).run Tryd.prog W = .ok (.agg #[]) W := by
    have h0 : Tryd.t45.zero = some (.agg #[]) := by kernel_rfl
    simp [zeroValue, go_sem, h0]
  have hf : (Instr.findKey 3 (.int .i64 k) []).run Tryd.prog W = .ok none W := by
    simp [Instr.findKey, Instr.findNow, go_sem]
  have hk := fun e => key_int e 9999 k W
  simp only [Instr.lookup, Sem.run_bind, run_underlying Tryd.underlying44, Result.andThen_ok]
  simp only [getObj, Sem.run, h, Result.andThen_ok]
  simp only [Sem.run_bind, Sem.run_pure, Result.andThen_ok, show (10000 : Nat) = 9999 + 1 from rfl, hk, hf, hz]
  rfl
theorem oe_read {w : World} {B : Nat} {p : Option Addr} {n c : Nat} {l : List Ed} {x : Nat} (h : OE w B (.slice p n c) l) (hx : x < B) : ELies w x p l := by
  rcases h.2 with ⟨e, h0⟩ | ⟨g, cap, cur, e, hb, hg, hn, hc, hs, ht⟩
  · exact .inl (List.length_eq_zero_iff.1 h0)
  · injection e with e1 e2 e3
    subst e1; subst e2
    refine .inr ⟨g, 0, rfl, by omega, fun k e hk j u hu => ?_⟩
    have hkl := (List.getElem?_eq_some_iff.1 hk).1
    have hj : j < 14 := by
      have := (List.getElem?_eq_some_iff.1 hu).1
      simpa [Ed.cs] using this
    have hce : (ecells l)[k * 14 + j]? = some u := by
      have e1 : l = l.take k ++ (e :: l.drop (k + 1)) := by
        rw [← (List.getElem?_eq_some_iff.1 hk).2, List.getElem_cons_drop, List.take_append_drop]
      rw [e1, ecells_app]
      have e2 : (ecells (l.take k)).length = k * 14 := by rw [ecells_len, List.length_take]; congr 1; omega
      rw [List.getElem?_append_right (by omega), e2, show k * 14 + j - k * 14 = j by omega]
      show (e.cs.toList ++ ecells (l.drop (k + 1)))[j]? = some u
      rw [List.getElem?_append_left (by simp [Ed.cs]; exact hj)]
      exact hu
    have h2 := World.ownsRow.cellAt h (k * 14 + j) (by omega)
    rw [show 0 + k * 14 + j = k * 14 + j by omega, h2]
    exact hce
set_option maxHeartbeats 3200000 in
set_option maxRecDepth 100000 in
theorem cut_any (g : Gh) (n : Nat) (hp : g.pts = n) (h1 : 1 ≤ n) (h2 : n ≤ 2000) (he : g.es.length ≤ 4000) (hln : n * g.es.length ≤ 40000) (hh : g.hn = 0) (w : World) (hl : ELies w w.heap.size g.ep g.es) :
    Calls Tryd.prog 7 #[.agg g.cs] w fun e w' => ∃ r : Bool, e = .returned (.bool r) ∧ (r = false ↔ Circ (web g.es n)) ∧ Below w.heap.size w w' := by
  have hmm := @run_makeMap Tryd.prog
  obtain ⟨ie, hie, hze, hne, -⟩ := info_parts zinfo34
  have HIE := Lib.hid (And.intro hie (And.intro hze hne))
  clear hie hze hne
  have HK : Hid (Bk (w.alloc (.cells g.cs 26)) w.heap.size 26 g.cs) := Lib.hid (heap_alloc_new _ _)
  have HB : Hid (Below w.heap.size w (w.alloc (.cells g.cs 26))) := Lib.hid ((Below.refl _ _).alloc (Nat.le_refl _) _)
  have c5 : ∀ o, ((w.alloc (.cells g.cs 26)).alloc o).cell? ⟨w.heap.size, 5, none⟩ = some (.slice g.hp 0 g.hc) := fun o => by
    have := (HK.out.below ((Below.refl _ _).alloc (Nat.le_refl _) o) HK.out.lt).cell 5
    rw [this]; simp [Gh.cs, hh]
  have HL0 := Lib.hid hl
  have HN := Lib.hid (And.intro hp (And.intro h1 (And.intro h2 (And.intro he hln))))
  clear hl hp h1 h2 hln he hh
  go_enter Tryd.func7, Tryd.ntmps7
  go_wp2_with fail
  have g2 : Gr (w.alloc (.cells g.cs 26)) ((w.alloc (.cells g.cs 26)).alloc (.map #[] 0)) (fun _ => False) := Gr.new _
  have HK1 := Lib.hid (g2.bk HK.out id)
  have HB1 : Hid (Below w.heap.size w ((w.alloc (.cells g.cs 26)).alloc (.map #[] 0))) := Lib.hid (HB.out.alloc HB.out.size _)
  have HM1 : Hid (((w.alloc (.cells g.cs 26)).alloc (.map #[] 0)).heap[w.heap.size + 1]? = some (.map #[] 0)) := Lib.hid (by
    have := World.alloc_heap_new (w.alloc (.cells g.cs 26)) (.map #[] 0)
    rwa [World.size_alloc] at this)
  clear g2 HK HB c5
  have HGS : Hid (w.heap.size + 2 ≤ ((w.alloc (.cells g.cs 26)).alloc (.map #[] 0)).heap.size) := Lib.hid (by simp)
  generalize (w.alloc (.cells g.cs 26)).alloc (.map #[] 0) = w1 at *
  obtain ⟨gb, hgb⟩ : ∃ gb, gb = w.heap.size := ⟨_, rfl⟩
  have HGB := Lib.hid hgb
  rw [← hgb] at HK1 HM1 HGS ⊢
  clear hgb
  go_loopw [15] (fun si wr => si = .int .i64 0 ∧ wr = w1) (fun _ _ => 0)
  case atStart => exact ⟨rfl, rfl⟩
  case round =>
    obtain ⟨rfl, hww⟩ := hrel
    rw [hww]
    clear hww
    have c4 : w1.cell? ⟨gb, 4, none⟩ = some (.slice g.ep g.es.length g.ec) := HK1.out.cell 4
    go_wp2_with fail
    clear c4
    go_loopw [26, 6] (fun sk v w2 => ∃ k : Nat, sk = .int .i64 k ∧ k ≤ g.es.length ∧ Hid (OE w2 (gb + 2) v (g.es.take k)) ∧ (∃ p c, v = .slice p k c) ∧ Hid (Below (gb + 2) w1 w2)) (fun sk _ _ => g.es.length - (Lib.intOf sk).toNat)
    case atStart => exact ⟨0, rfl, Nat.zero_le _, Lib.hid (by rw [List.take_zero]; exact World.ownsRow_nil _ _ _ _), ⟨_, _, rfl⟩, Lib.hid (Below.refl _ _)⟩
    case round =>
      obtain ⟨k, rfl, hk, HO, ⟨p, c, rfl⟩, HBR⟩ := hrel
      have HBW : Hid (Below w.heap.size w wr) := Lib.hid (HB1.out.trans (HBR.out.mono (by have := HGB.out; omega)))
      have HKR := Lib.hid (HK1.out.below HBR.out (by omega))
      have HMR : Hid (wr.heap[gb + 1]? = some (.map #[] 0)) := Lib.hid ((HBR.out.block (gb + 1) (by omega)).trans HM1.out)
      by_cases hlt : k < g.es.length
      · obtain ⟨e, hek⟩ : ∃ e, g.es[k]? = some e := ⟨_, List.getElem?_eq_getElem hlt⟩
        obtain ⟨eb, eo, hep, -, hr⟩ := (HL0.out.gr (Gr.of_below (S := fun _ => False) HBW.out) (fun _ _ _ _ h => h)).at_ hek
        have HR34 := Lib.hid hr
        have HTK : Hid (g.es.take (k + 1) = g.es.take k ++ [e]) := Lib.hid (take_snocL hek)
        rw [hep]
        have hlt' : (k : Int) < (g.es.length : Int) := by omega
        have hen : g.es.length ≤ 4000 := HN.out.2.2.2.1
        clear hr hek hep
        have hlk : ∀ o q, (Instr.lookup 44 (.map (some (gb + 1))) (.int .i64 q) true).run Tryd.prog (wr.alloc o) = .ok (.tuple #[.agg #[], .bool false]) (wr.alloc o) := fun o q => look_none ((Below.heap_alloc wr o (gb + 1) (Array.getElem?_eq_some_iff.1 HMR.out).1).trans HMR.out) q
        have HEB : Hid (Bk (wr.alloc (.cells e.cs 34)) wr.heap.size 34 e.cs) := Lib.hid (heap_alloc_new _ _)
        have e1 : (wr.alloc (.cells e.cs 34)).cell? ⟨wr.heap.size, 1, none⟩ = some (.int .i64 e.t) := HEB.out.cell 1
        have HE2 : Hid (Bk ((wr.alloc (.cells e.cs 34)).alloc (.cells #[] 45)) wr.heap.size 34 e.cs) := Lib.hid ((Gr.new (A := wr.alloc (.cells e.cs 34)) (.cells #[] 45)).bk HEB.out id)
        have HO2 : Hid (OE ((wr.alloc (.cells e.cs 34)).alloc (.cells #[] 45)) (gb + 2) (.slice p k c) (g.es.take k)) := Lib.hid ((HO.out.alloc _).alloc _)
        go_wp2_with (first
          | ((with_reducible show wpList _ _ _ (Oper.mk _ (Op.load 34 _) _ _ _ _ :: _) _ _); refine wpList_load_arr rfl 34 _ rfl eb (eo + k * 14) (by simp [Act.eval]) e.cs _ HR34.out Tryd.underlying34 rfl size34 ?_)
          | ((with_reducible show wpList _ _ _ (Oper.mk _ (Op.load 34 _) _ _ _ _ :: _) _ _); refine wpList_load_arr rfl 34 _ rfl wr.heap.size 0 (by simp [Act.eval]) e.cs _ HE2.out.range Tryd.underlying34 rfl size34 ?_)
          | ((with_reducible show wpList _ _ _ (Oper.mk _ (Op.store 34 _ _) _ _ _ _ :: _) _ _); refine wpList_store_new rfl 34 _ _ rfl _ e.cs rfl rfl size34 rfl (Ed.one e) ?_)
          | ((with_reducible show wpList _ _ _ (Oper.mk _ (Op.buildSlice 22 1 _) _ _ _ _ :: _) _ _); refine wpList_one rfl 22 34 (.tmp 40) rfl e.cs rfl Tryd.underlying22 ie _ 14 HIE.out.1 HIE.out.2.1 HIE.out.2.2 (by decide) (by decide) rfl ?_)
          | ((with_reducible show wpList _ _ _ (Oper.mk _ (Op.call _) _ _ _ _ :: _) _ _); refine wpList_app_ed rfl (.tmp 39) (.tmp 41) rfl (gb + 2) (g.es.take k) (.slice p k c) rfl HO2.out (by have := HBR.out.size; have := HGS.out; simp; omega) e rfl (by have := HN.out.2.2.2.1; rw [List.length_take]; omega) ?_; intro v' w7 hO hsh hg hto; obtain ⟨g7, c7, rfl⟩ := hsh; have HO7 := Lib.hid hO; have HG7 := Lib.hid hg; clear hO hg hto)
          | fail)
        have htk : (g.es.take k).length = k := by rw [List.length_take]; omega
        have hO7 := HO7.out
        rw [htk, ← HTK.out] at hO7
        have hB7 : Below (gb + 2) w1 w7 := by
          have h1 : Below (gb + 2) w1 ((wr.alloc (.cells e.cs 34)).alloc (.cells #[] 45)) := (HBR.out.alloc (by have := HBR.out.size; have := HGS.out; omega) _).alloc (by have := HBR.out.size; have := HGS.out; simp; omega) _
          exact h1.grown HG7.out (by have := HBR.out.size; have := HGS.out; simp; omega) (fun q hq => (HO2.out.lt q hq).1)
        go_roundw
        case rel => exact ⟨k + 1, by go_num, by omega, Lib.hid hO7, ⟨_, _, rfl⟩, Lib.hid hB7⟩
        case measure => simp [Lib.intOf]; omega
      · have hke : k = g.es.length := by omega
        subst hke
        have c4 : wr.cell? ⟨gb, 4, none⟩ = some (.slice g.ep g.es.length g.ec) := HKR.out.cell 4
        have f4 : wr.frozen? ⟨gb, 4, none⟩ = false := HKR.out.frozen 4
        have HK3 : Hid (Bk (wr.setCell ⟨gb, 4, none⟩ (.slice p g.es.length c)) gb 26 (Gh.cs { g with ep := p, ec := c })) := Lib.hid (HKR.out.set_ 4 _)
        have HO3 : Hid (OE (wr.setCell ⟨gb, 4, none⟩ (.slice p g.es.length c)) (gb + 2) (.slice p g.es.length c) g.es) := Lib.hid (own_par (by have := HO.out; rwa [List.take_length] at this) (grownBy_setC wr ⟨gb, 4, none⟩ _) (by show gb < gb + 2; omega))
        have HB3 : Hid (Below w.heap.size w (wr.setCell ⟨gb, 4, none⟩ (.slice p g.es.length c))) := Lib.hid (HBW.out.setCell (p := ⟨gb, 4, none⟩) (by show w.heap.size ≤ gb; have := HGB.out; omega) _)
        have HLG := Lib.hid (loopsG_any { g with ep := p, ec := c } n HN.out.1 HN.out.2.1 HN.out.2.2.1 HN.out.2.2.2.1 HN.out.2.2.2.2 gb (wr.setCell ⟨gb, 4, none⟩ (.slice p g.es.length c)) (oe_read HO3.out (by omega)))
        go_wp2_with (first
          | ((with_reducible show wpList _ _ _ (Oper.mk _ (Op.load 26 _) _ _ _ _ :: _) _ _); refine wpList_load_bk rfl 26 _ rfl gb 26 (Gh.cs { g with ep := p, ec := c }) rfl _ HK3.out Tryd.underlying26 rfl size26 ?_)
          | fail)
        refine (HLG.out).mono ?_
        rintro en w4 ⟨rr, rfl, hr, hb⟩
        have HR := Lib.hid hr
        have HB4 := Lib.hid hb
        clear hr hb
        go_wp2_with fail
        go_ret
        exact ⟨_, rfl, by rw [← HR.out]; cases rr <;> simp, HB3.out.trans (HB4.out.mono HB3.out.size)⟩
end Go.Proofs.YtnkimfbdcghgpaaDoor
