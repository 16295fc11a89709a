/-
  DERIVED. The walks of the document's Plain: statements.
-/
import Derived.Test.YtpbjnjnmbglllaaRg
import Derived.Deep.DeepCutAuto
namespace Go.Proofs.Ytpbjnjnmbglllaa
open Go.RowKit Go.Sort

/-- A list of statements made plain, as the document says. -/
def RAll (s : SL) : Prop := ∀ (p : Option Addr) (c : Nat) (w : World), sLies w p s →
  Calls Try.prog 49 #[.slice p s.len c] w fun e w' => ∃ (p' : Option Addr) (c' : Nat) (s' : SL), e = .returned (.slice p' s'.len c') ∧ s'.er = s.er ∧ s'.flat ∧ sLies (fresh w.heap.size w') p' s' ∧ Below w.heap.size w w'
theorem cell_at0 {w : World} {b : Nat} {cs : List Value} (h : w.rangeAt b 0 cs) (j : Nat) (v : Value) (hv : cs[j]? = some v) : w.cell? ⟨b, j, none⟩ = some v := by
  have := h j v hv
  rwa [Nat.zero_add] at this
attribute [local go_sem ↓] build_o57 build_o54
attribute [local go_sem] run_o57 run_o54 shB_lit

set_option maxHeartbeats 12800000 in
set_option maxRecDepth 100000 in
theorem rlist_one (s : SL) (hP : s.each RAll) : RAll s := by
  intro p c w hl
  obtain ⟨hlen0, hl2⟩ := ly_of hl
  have hlen : s.len * 608 ≤ 140737488351232 := by rw [← SL.items_len]; exact hlen0
  have hlen' : s.len ≤ 300000000000 := by omega
  have HL := Lib.hid hl2
  have HP := Lib.hid (SL.each_items hP)
  have HLN := Lib.hid hlen
  have HIL := Lib.hid (SL.items_len s)
  clear hlen0 hlen hl hl2 hP
  go_enter Try.func49, Try.ntmps49
  go_wp2_with fail
  go_loopw [3, 4] (fun v i wr => ∃ k : Nat, i = .int .i64 k ∧ k ≤ s.len ∧ Hid (kIt.Grows w.heap.size s.items k v wr) ∧ Hid (Below w.heap.size w wr)) (fun _ i _ => s.len - (intOf i).toNat)
  case atStart => exact ⟨0, rfl, Nat.zero_le _, Lib.hid (Kd.Grows.nil kIt (World.ownsRow_nil _ _ _ _)), Lib.hid (Below.refl _ _)⟩
  case round =>
    obtain ⟨k, rfl, hk, HG, HB⟩ := hrel
    by_cases hkl : k < s.len
    · have hki : k < s.items.length := by rw [SL.items_len]; exact hkl
      obtain ⟨b, o, rfl, hx⟩ : ∃ b o, p = some ⟨b, o, none⟩ ∧ ∀ k x, s.items[k]? = some x → w.rangeAt b (o + k * 48) x.cells ∧ itLies w x := by
        rcases HL.out with h | h
        · rw [h] at hki; simp at hki
        · exact h
      have hx1 := hx k s.items[k] (List.getElem?_eq_getElem hki)
      have hPx := HP.out s.items[k] (List.getElem_mem _)
      have HXK := Lib.hid (List.getElem?_eq_getElem hki)
      generalize s.items[k] = x at hx1 hPx HXK
      obtain ⟨cs, hcs⟩ : ∃ cs, cs = x.cells.toArray := ⟨_, rfl⟩
      have HRG : Hid (wr.rangeAt b (o + k * 48) cs.toList) := Lib.hid (by rw [hcs]; exact rangeAt_below hx1.1 HB.out)
      have HSZ : Hid ((Try.prog.info? 57).map (·.size) = some cs.size) := Lib.hid (by rw [hcs]; exact size57)
      have HZ : Hid (48 = cs.size) := Lib.hid (by rw [hcs]; rfl)
      have HON : Hid (cs.all (·.oneCell') = true) := Lib.hid (by rw [hcs]; exact kIt.one x)
      have HCS := Lib.hid hcs
      have HX := Lib.hid hx1.2
      have HPX := Lib.hid hPx
      clear hcs hx1 hx hPx
      go_wp2_with (first | ((with_reducible show wpList _ _ _ (Oper.mk (some 17) _ _ _ _ _ :: _) _ _); refine wpList_load_arr rfl 57 (.tmp 16) rfl b (o + k * 48) rfl cs _ HRG.out Try.underlying57 rfl HSZ.out ?_) | ((with_reducible show wpList _ _ _ (Oper.mk none (Op.store _ _ _) _ _ _ _ :: _) _ _); refine wpList_store_new rfl 57 (.tmp 5) (.tmp 17) rfl _ cs rfl rfl HSZ.out HZ.out HON.out ?_))
      obtain ⟨⟨kind, pos, place, value, cond, name, ⟨ap, ac, al⟩, both⟩, tp, tc, t, ep, ec, e⟩ := x
      have HKS : Hid (Bk (wr.alloc (.cells cs 57)) wr.heap.size 57 cs) := Lib.hid (heap_alloc_new _ _)
      have HBS : Hid (Below w.heap.size w (wr.alloc (.cells cs 57))) := Lib.hid (HB.out.alloc HB.out.size _)
      have HBR : Hid (Below wr.heap.size wr (wr.alloc (.cells cs 57))) := Lib.hid (Below.alloc (Below.refl _ _) (Nat.le_refl _) _)
      have HZS : Hid ((wr.alloc (.cells cs 57)).heap.size = wr.heap.size + 1) := Lib.hid (by simp)
      obtain ⟨S, hS⟩ : ∃ S, S = wr.heap.size := ⟨_, rfl⟩
      rw [← hS] at HKS HZS ⊢
      have HSS := Lib.hid hS
      clear hS
      generalize wr.alloc (.cells cs 57) = wS at HKS HBS HBR HZS ⊢
      have HD6 : Hid (∀ w', Below (S + 1) wS w' → w'.cell? ⟨S, 0, none⟩ = some (.int .i64 kind) ∧ w'.cell? ⟨S, 2, none⟩ = some (.string place.name) ∧ w'.cell? ⟨S, 3, none⟩ = some (.int .i64 place.pos) ∧ w'.cell? ⟨S, 4, none⟩ = some (.slice place.hops.p place.hops.l.length place.hops.cap) ∧ w'.cell? ⟨S, 5, none⟩ = some (.int .i64 value.kind) ∧ w'.cell? ⟨S, 6, none⟩ = some (.int .i64 value.pos) ∧ w'.cell? ⟨S, 7, none⟩ = some (.string value.path.name) ∧ w'.cell? ⟨S, 8, none⟩ = some (.int .i64 value.path.pos) ∧ w'.cell? ⟨S, 9, none⟩ = some (.slice value.path.hops.p value.path.hops.l.length value.path.hops.cap) ∧ w'.cell? ⟨S, 10, none⟩ = some (.string value.type) ∧ w'.cell? ⟨S, 11, none⟩ = some (.string value.left.name) ∧ w'.cell? ⟨S, 12, none⟩ = some (.int .i64 value.left.n) ∧ w'.cell? ⟨S, 13, none⟩ = some (.int .i64 value.left.pos) ∧ w'.cell? ⟨S, 14, none⟩ = some (.string value.right.name) ∧ w'.cell? ⟨S, 15, none⟩ = some (.int .i64 value.right.n) ∧ w'.cell? ⟨S, 16, none⟩ = some (.int .i64 value.right.pos) ∧ w'.cell? ⟨S, 43, none⟩ = some (.string name) ∧ w'.cell? ⟨S, 47, none⟩ = some (.bool both)) := Lib.hid (fun w' hb => by
        have h := HKS.out.below hb (Nat.lt_succ_self _)
        rw [HCS.out] at h
        exact ⟨h.cell 0, h.cell 2, h.cell 3, h.cell 4, h.cell 5, h.cell 6, h.cell 7, h.cell 8, h.cell 9, h.cell 10, h.cell 11, h.cell 12, h.cell 13, h.cell 14, h.cell 15, h.cell 16, h.cell 43, h.cell 47⟩)
      have HD7 : Hid (∀ w', Below (S + 1) wS w' → w'.cell? ⟨S, 17, none⟩ = some (.int .i64 cond.kind) ∧ w'.cell? ⟨S, 19, none⟩ = some (.int .i64 cond.left.kind) ∧ w'.cell? ⟨S, 20, none⟩ = some (.int .i64 cond.left.pos) ∧ w'.cell? ⟨S, 21, none⟩ = some (.string cond.left.path.name) ∧ w'.cell? ⟨S, 22, none⟩ = some (.int .i64 cond.left.path.pos) ∧ w'.cell? ⟨S, 23, none⟩ = some (.slice cond.left.path.hops.p cond.left.path.hops.l.length cond.left.path.hops.cap) ∧ w'.cell? ⟨S, 24, none⟩ = some (.string cond.left.type) ∧ w'.cell? ⟨S, 25, none⟩ = some (.string cond.left.left.name) ∧ w'.cell? ⟨S, 26, none⟩ = some (.int .i64 cond.left.left.n) ∧ w'.cell? ⟨S, 27, none⟩ = some (.int .i64 cond.left.left.pos) ∧ w'.cell? ⟨S, 28, none⟩ = some (.string cond.left.right.name) ∧ w'.cell? ⟨S, 29, none⟩ = some (.int .i64 cond.left.right.n) ∧ w'.cell? ⟨S, 30, none⟩ = some (.int .i64 cond.left.right.pos) ∧ w'.cell? ⟨S, 31, none⟩ = some (.int .i64 cond.right.kind) ∧ w'.cell? ⟨S, 32, none⟩ = some (.int .i64 cond.right.pos) ∧ w'.cell? ⟨S, 33, none⟩ = some (.string cond.right.path.name) ∧ w'.cell? ⟨S, 34, none⟩ = some (.int .i64 cond.right.path.pos) ∧ w'.cell? ⟨S, 35, none⟩ = some (.slice cond.right.path.hops.p cond.right.path.hops.l.length cond.right.path.hops.cap) ∧ w'.cell? ⟨S, 36, none⟩ = some (.string cond.right.type) ∧ w'.cell? ⟨S, 37, none⟩ = some (.string cond.right.left.name) ∧ w'.cell? ⟨S, 38, none⟩ = some (.int .i64 cond.right.left.n) ∧ w'.cell? ⟨S, 39, none⟩ = some (.int .i64 cond.right.left.pos) ∧ w'.cell? ⟨S, 40, none⟩ = some (.string cond.right.right.name) ∧ w'.cell? ⟨S, 41, none⟩ = some (.int .i64 cond.right.right.n) ∧ w'.cell? ⟨S, 42, none⟩ = some (.int .i64 cond.right.right.pos)) := Lib.hid (fun w' hb => by
        have h := HKS.out.below hb (Nat.lt_succ_self _)
        rw [HCS.out] at h
        exact ⟨h.cell 17, h.cell 19, h.cell 20, h.cell 21, h.cell 22, h.cell 23, h.cell 24, h.cell 25, h.cell 26, h.cell 27, h.cell 28, h.cell 29, h.cell 30, h.cell 31, h.cell 32, h.cell 33, h.cell 34, h.cell 35, h.cell 36, h.cell 37, h.cell 38, h.cell 39, h.cell 40, h.cell 41, h.cell 42⟩)
      have HD8 : Hid (∀ w', Below (S + 1) wS w' → w'.cell? ⟨S, 44, none⟩ = some (.slice ap al.length ac) ∧ w'.cell? ⟨S, 45, none⟩ = some (.slice tp t.len tc) ∧ w'.cell? ⟨S, 46, none⟩ = some (.slice ep e.len ec)) := Lib.hid (fun w' hb => by
        have h := HKS.out.below hb (Nat.lt_succ_self _)
        rw [HCS.out] at h
        exact ⟨h.cell 44, h.cell 45, h.cell 46⟩)
      clear HCS HKS
      have HXX : Hid (∀ w', Below wS.heap.size wS w' → itLies w' ⟨⟨kind, pos, place, value, cond, name, ⟨ap, ac, al⟩, both⟩, tp, tc, t, ep, ec, e⟩) := Lib.hid (fun w' hb => itLies_below HX.out (HBS.out.trans (hb.mono HBS.out.size)))
      have HX1 : Hid (∀ w', Below wS.heap.size wS w' → hopsLie w' place.hops) := Lib.hid (fun w' hb => (HXX.out w' hb).1.1)
      have HX2 : Hid (∀ w', Below wS.heap.size wS w' → vlLies w' value) := Lib.hid (fun w' hb => (HXX.out w' hb).1.2.1)
      have HX3 : Hid (∀ w', Below wS.heap.size wS w' → vlLies w' cond.left) := Lib.hid (fun w' hb => (HXX.out w' hb).1.2.2.1)
      have HX4 : Hid (∀ w', Below wS.heap.size wS w' → vlLies w' cond.right) := Lib.hid (fun w' hb => (HXX.out w' hb).1.2.2.2.1)
      have HX5 : Hid (∀ w', Below wS.heap.size wS w' → argsLie w' ⟨ap, ac, al⟩) := Lib.hid (fun w' hb => (HXX.out w' hb).1.2.2.2.2.1)
      have HX6 : Hid (∀ w', Below wS.heap.size wS w' → sLies w' tp t) := Lib.hid (fun w' hb => (HXX.out w' hb).2.1)
      have HX7 : Hid (∀ w', Below wS.heap.size wS w' → sLies w' ep e) := Lib.hid (fun w' hb => (HXX.out w' hb).2.2)
      have HNM : Hid (name.size ≤ maxLen) := Lib.hid HX.out.1.2.2.2.2.2
      clear HXX
      have HLE : Hid (S + 1 ≤ wS.heap.size) := Lib.hid (Nat.le_of_eq HZS.out.symm)
      have HBA : Hid (∀ o, Below wS.heap.size wS (wS.alloc o).drew) := Lib.hid (fun o => below_drew ((Below.refl _ _).alloc (Nat.le_refl _) o))
      have HCA : Hid (∀ o, Below (S + 1) wS (wS.alloc o).drew) := Lib.hid (fun o => (HBA.out o).mono HLE.out)
      have HBD : Hid (Below wS.heap.size wS wS.drew) := Lib.hid (below_drew (Below.refl _ _))
      have HCD : Hid (Below (S + 1) wS wS.drew) := Lib.hid (HBD.out.mono HLE.out)
      simp only [Act.put]
      go_upto_region 6 with (fail)
      go_cut [6] (fun s6 wx => Reg6 wS kind place value name both s6 wx)
      case first =>
        go_region_held3 (fun w' => w'.cell? ⟨S, 0, none⟩ = some (.int .i64 kind) ∧ w'.cell? ⟨S, 2, none⟩ = some (.string place.name) ∧ w'.cell? ⟨S, 3, none⟩ = some (.int .i64 place.pos) ∧ w'.cell? ⟨S, 4, none⟩ = some (.slice place.hops.p place.hops.l.length place.hops.cap) ∧ w'.cell? ⟨S, 5, none⟩ = some (.int .i64 value.kind) ∧ w'.cell? ⟨S, 6, none⟩ = some (.int .i64 value.pos) ∧ w'.cell? ⟨S, 7, none⟩ = some (.string value.path.name) ∧ w'.cell? ⟨S, 8, none⟩ = some (.int .i64 value.path.pos) ∧ w'.cell? ⟨S, 9, none⟩ = some (.slice value.path.hops.p value.path.hops.l.length value.path.hops.cap) ∧ w'.cell? ⟨S, 10, none⟩ = some (.string value.type) ∧ w'.cell? ⟨S, 11, none⟩ = some (.string value.left.name) ∧ w'.cell? ⟨S, 12, none⟩ = some (.int .i64 value.left.n) ∧ w'.cell? ⟨S, 13, none⟩ = some (.int .i64 value.left.pos) ∧ w'.cell? ⟨S, 14, none⟩ = some (.string value.right.name) ∧ w'.cell? ⟨S, 15, none⟩ = some (.int .i64 value.right.n) ∧ w'.cell? ⟨S, 16, none⟩ = some (.int .i64 value.right.pos) ∧ w'.cell? ⟨S, 43, none⟩ = some (.string name) ∧ w'.cell? ⟨S, 47, none⟩ = some (.bool both)) (first | with_reducible exact HD6.out _ HC2.out | with_reducible exact HD6.out _ HC1.out | with_reducible exact HD6.out _ HCD.out | with_reducible exact HD6.out _ (HC2.out.alloc (Nat.le_trans (Nat.le_of_eq HZS.out.symm) HC2.out.size) _) | with_reducible exact HD6.out _ (HC1.out.alloc (Nat.le_trans (Nat.le_of_eq HZS.out.symm) HC1.out.size) _) | with_reducible exact HD6.out _ (HCA.out _) | with_reducible exact HD6.out _ HC3.out | fail)
          ((first
            | (go_at_call 77; (with_reducible refine (path_new place _ (HX1.out _ (by first | with_reducible exact HBD.out | with_reducible exact HBA.out _))).mono ?_); rintro en w1 ⟨y, rfl, a1, a2, a3, a4⟩; have A1 := Lib.hid a1; have A2 := Lib.hid a2; have A3 := Lib.hid a3; have A4 := Lib.hid a4; have HB1 : Hid (Below wS.heap.size wS w1) := Lib.hid (by first | with_reducible exact HBD.out.trans (a4.mono HBD.out.size) | with_reducible exact (HBA.out _).trans (a4.mono (HBA.out _).size)); have HC1 := Lib.hid (HB1.out.mono HLE.out); (try have HKX : Hid (Bk w1 wS.heap.size 57 #[.int .i64 0, .int .i64 0, .string ByteArray.empty, .int .i64 0, .slice none 0 0, .int .i64 0, .int .i64 0, .string ByteArray.empty, .int .i64 0, .slice none 0 0, .string ByteArray.empty, .string ByteArray.empty, .int .i64 0, .int .i64 0, .string ByteArray.empty, .int .i64 0, .int .i64 0, .int .i64 0, .int .i64 0, .int .i64 0, .int .i64 0, .string ByteArray.empty, .int .i64 0, .slice none 0 0, .string ByteArray.empty, .string ByteArray.empty, .int .i64 0, .int .i64 0, .string ByteArray.empty, .int .i64 0, .int .i64 0, .int .i64 0, .int .i64 0, .string ByteArray.empty, .int .i64 0, .slice none 0 0, .string ByteArray.empty, .string ByteArray.empty, .int .i64 0, .int .i64 0, .string ByteArray.empty, .int .i64 0, .int .i64 0, .string ByteArray.empty, .slice none 0 0, .slice none 0 0, .slice none 0 0, .bool false]) := Lib.hid (Bk.below (w := (wS.alloc _).drew) (heap_alloc_new wS _) a4 (by show _ < (wS.alloc _).heap.size; simp))); clear a1 a2 a3 a4)
            | (go_at_call 78; (with_reducible refine (value_new value _ (HX2.out _ (by first | with_reducible exact HB1.out | with_reducible exact HB1.out.alloc HB1.out.size _))).mono ?_); rintro en w2 ⟨z, rfl, a1, a2, a3, a4⟩; have Z1 := Lib.hid a1; have Z2 := Lib.hid a2; have Z3 := Lib.hid a3; have Z4 := Lib.hid a4; have HB2 : Hid (Below wS.heap.size wS w2) := Lib.hid (by first | with_reducible exact HB1.out.trans (a4.mono HB1.out.size) | with_reducible exact (HB1.out.alloc HB1.out.size _).trans (a4.mono (Nat.le_trans HB1.out.size (by simp)))); have HC2 := Lib.hid (HB2.out.mono HLE.out); obtain ⟨cs6, hmk⟩ : ∃ c, mkB Try.prog 57 #[(0, .int .i64 kind), (2, .agg #[.string y.name, .int .i64 y.pos, .slice y.hops.p y.hops.l.length y.hops.cap]), (3, .agg #[.int .i64 z.kind, .int .i64 z.pos, .string z.path.name, .int .i64 z.path.pos, .slice z.path.hops.p z.path.hops.l.length z.path.hops.cap, .string z.type, .string z.left.name, .int .i64 z.left.n, .int .i64 z.left.pos, .string z.right.name, .int .i64 z.right.n, .int .i64 z.right.pos]), (5, .string name), (9, .bool both)] = c := ⟨_, rfl⟩; have hc6 : cs6.toList = cells6 kind y z name both := (by rw [← hmk]; kernel_rfl); have hsz6 : cs6.size = 48 := (by rw [← Array.length_toList, hc6]; rfl); have HC6 := Lib.hid hc6; have HN6 : Hid (∀ u ∈ cs6.toList, u.oneCell' = true) := Lib.hid (by rw [hc6]; exact cells6_one _ _ _ _ _); clear hc6; (first | (have _t := HKX.out; have HKY : Hid (Bk w2 wS.heap.size 57 #[.int .i64 0, .int .i64 0, .string ByteArray.empty, .int .i64 0, .slice none 0 0, .int .i64 0, .int .i64 0, .string ByteArray.empty, .int .i64 0, .slice none 0 0, .string ByteArray.empty, .string ByteArray.empty, .int .i64 0, .int .i64 0, .string ByteArray.empty, .int .i64 0, .int .i64 0, .int .i64 0, .int .i64 0, .int .i64 0, .int .i64 0, .string ByteArray.empty, .int .i64 0, .slice none 0 0, .string ByteArray.empty, .string ByteArray.empty, .int .i64 0, .int .i64 0, .string ByteArray.empty, .int .i64 0, .int .i64 0, .int .i64 0, .int .i64 0, .string ByteArray.empty, .int .i64 0, .slice none 0 0, .string ByteArray.empty, .string ByteArray.empty, .int .i64 0, .int .i64 0, .string ByteArray.empty, .int .i64 0, .int .i64 0, .string ByteArray.empty, .slice none 0 0, .slice none 0 0, .slice none 0 0, .bool false]) := Lib.hid (HKX.out.below a4 (by have := HB1.out.size; have := (Array.getElem?_eq_some_iff.1 HKX.out).1; omega)); obtain ⟨w3, hst, ho3, hr3⟩ := st_put (P := Try.prog) cs6 _ HKY.out.mine HKY.out.range (by rw [hsz6]; rfl) HN6.out; rw [hsz6] at ho3; have HO3 := Lib.hid ho3; have HR3 := Lib.hid hr3; have HC3 : Hid (Below (S + 1) wS w3) := Lib.hid (HC2.out.trans (ho3.to_below HLE.out (Nat.le_trans HLE.out HB2.out.size))); clear ho3 hr3) | (have _c : Below w1.heap.size w1 w2 := (by with_reducible exact a4); have hst : ∀ c : Array Value, c.size = 48 → (storeCells ⟨w2.heap.size, 0, none⟩ cs6.toList 0).run Try.prog (w2.alloc (.cells c 57)) = .ok () (w2.alloc (.cells cs6 57)) := fun c hc => st_new w2 57 c cs6 (by rw [hc, hsz6]) HN6.out) | (have HKY : Hid (Bk w2 w1.heap.size 57 #[.int .i64 0, .int .i64 0, .string ByteArray.empty, .int .i64 0, .slice none 0 0, .int .i64 0, .int .i64 0, .string ByteArray.empty, .int .i64 0, .slice none 0 0, .string ByteArray.empty, .string ByteArray.empty, .int .i64 0, .int .i64 0, .string ByteArray.empty, .int .i64 0, .int .i64 0, .int .i64 0, .int .i64 0, .int .i64 0, .int .i64 0, .string ByteArray.empty, .int .i64 0, .slice none 0 0, .string ByteArray.empty, .string ByteArray.empty, .int .i64 0, .int .i64 0, .string ByteArray.empty, .int .i64 0, .int .i64 0, .int .i64 0, .int .i64 0, .string ByteArray.empty, .int .i64 0, .slice none 0 0, .string ByteArray.empty, .string ByteArray.empty, .int .i64 0, .int .i64 0, .string ByteArray.empty, .int .i64 0, .int .i64 0, .string ByteArray.empty, .slice none 0 0, .slice none 0 0, .slice none 0 0, .bool false]) := Lib.hid (Bk.below (heap_alloc_new w1 _) a4 (by simp)); obtain ⟨w3, hst, ho3, hr3⟩ := st_put (P := Try.prog) cs6 _ HKY.out.mine HKY.out.range (by rw [hsz6]; rfl) HN6.out; rw [hsz6] at ho3; have HO3 := Lib.hid ho3; have HR3 := Lib.hid hr3; have HC3 : Hid (Below (S + 1) wS w3) := Lib.hid (HC2.out.trans (ho3.to_below (Nat.le_trans HLE.out HB1.out.size) (Nat.le_trans HLE.out HB2.out.size))); clear ho3 hr3)); clear a1 a2 a3 a4)))
        · go_wp2_with fail
          go_meet
          have h := reg6C (wS := wS) A1.out A2.out A3.out Z1.out Z2.out Z3.out Z4.out HB1.out (kind := kind) (name := name) (both := both)
          rwa [← HC6.out] at h
        · go_wp2_with fail
          go_meet
          exact reg6B HO3.out (by rw [← HC6.out]; exact HR3.out) A1.out A2.out A3.out Z1.out Z2.out Z3.out Z4.out HB1.out
        · go_wp2_with fail
          go_meet
          exact reg6A (wA := (wS.alloc _).drew) HO3.out (by rw [← HC6.out]; exact HR3.out) (by show (wS.alloc _).heap.size = _; simp) (HBA.out _) A1.out A2.out A3.out A4.out Z1.out Z2.out Z3.out Z4.out
      case rest =>
        obtain ⟨X, y, z, rfl, hX, hM, hR, hy1, hy2, hz1, hz2, hy3, hz3, hB5⟩ := hcut
        have HGX : Hid (wS.heap.size ≤ X) := Lib.hid hX
        have HM5 := Lib.hid hM; have HR5 := Lib.hid hR; have Y1 := Lib.hid hy1; have Y2 := Lib.hid hy2; have Z1 := Lib.hid hz1; have Z2 := Lib.hid hz2; have Y3 := Lib.hid hy3; have Z3 := Lib.hid hz3; have HB5 := Lib.hid hB5
        have HB5D : Hid (Below wS.heap.size wS wc.drew) := Lib.hid (below_drew hB5)
        have HC5D : Hid (Below (S + 1) wS wc.drew) := Lib.hid (HB5D.out.mono HLE.out)
        clear hX hM hR hy1 hy2 hz1 hz2 hy3 hz3 hB5
        go_wp2_with fail
        go_region_held3 (fun w' => w'.cell? ⟨S, 17, none⟩ = some (.int .i64 cond.kind) ∧ w'.cell? ⟨S, 19, none⟩ = some (.int .i64 cond.left.kind) ∧ w'.cell? ⟨S, 20, none⟩ = some (.int .i64 cond.left.pos) ∧ w'.cell? ⟨S, 21, none⟩ = some (.string cond.left.path.name) ∧ w'.cell? ⟨S, 22, none⟩ = some (.int .i64 cond.left.path.pos) ∧ w'.cell? ⟨S, 23, none⟩ = some (.slice cond.left.path.hops.p cond.left.path.hops.l.length cond.left.path.hops.cap) ∧ w'.cell? ⟨S, 24, none⟩ = some (.string cond.left.type) ∧ w'.cell? ⟨S, 25, none⟩ = some (.string cond.left.left.name) ∧ w'.cell? ⟨S, 26, none⟩ = some (.int .i64 cond.left.left.n) ∧ w'.cell? ⟨S, 27, none⟩ = some (.int .i64 cond.left.left.pos) ∧ w'.cell? ⟨S, 28, none⟩ = some (.string cond.left.right.name) ∧ w'.cell? ⟨S, 29, none⟩ = some (.int .i64 cond.left.right.n) ∧ w'.cell? ⟨S, 30, none⟩ = some (.int .i64 cond.left.right.pos) ∧ w'.cell? ⟨S, 31, none⟩ = some (.int .i64 cond.right.kind) ∧ w'.cell? ⟨S, 32, none⟩ = some (.int .i64 cond.right.pos) ∧ w'.cell? ⟨S, 33, none⟩ = some (.string cond.right.path.name) ∧ w'.cell? ⟨S, 34, none⟩ = some (.int .i64 cond.right.path.pos) ∧ w'.cell? ⟨S, 35, none⟩ = some (.slice cond.right.path.hops.p cond.right.path.hops.l.length cond.right.path.hops.cap) ∧ w'.cell? ⟨S, 36, none⟩ = some (.string cond.right.type) ∧ w'.cell? ⟨S, 37, none⟩ = some (.string cond.right.left.name) ∧ w'.cell? ⟨S, 38, none⟩ = some (.int .i64 cond.right.left.n) ∧ w'.cell? ⟨S, 39, none⟩ = some (.int .i64 cond.right.left.pos) ∧ w'.cell? ⟨S, 40, none⟩ = some (.string cond.right.right.name) ∧ w'.cell? ⟨S, 41, none⟩ = some (.int .i64 cond.right.right.n) ∧ w'.cell? ⟨S, 42, none⟩ = some (.int .i64 cond.right.right.pos)) (first | with_reducible exact HD7.out _ HC5D.out | with_reducible exact HD7.out _ HC6.out | with_reducible exact HD7.out _ HC7.out | with_reducible exact HD7.out _ HC8.out | fail)
          ((first
            | (go_at_call 78; (with_reducible refine (value_new cond.left _ (HX3.out _ HB5D.out)).mono ?_); rintro en w6 ⟨cl, rfl, a1, a2, a3, a4⟩; have L1 := Lib.hid a1; have L2 := Lib.hid a2; have L3 := Lib.hid a3; have L4 : Hid (Below wc.heap.size wc w6) := Lib.hid ((below_drew (Below.refl _ _)).trans a4); have HB6 := Lib.hid (HB5D.out.trans (a4.mono HB5D.out.size)); have HC6 := Lib.hid (HB6.out.mono HLE.out); clear a1 a2 a3 a4)
            | (go_at_call 78; (with_reducible refine (value_new cond.right _ (HX4.out _ HB6.out)).mono ?_); rintro en w7 ⟨cr, rfl, a1, a2, a3, a4⟩; have R1 := Lib.hid a1; have R2 := Lib.hid a2; have R3 := Lib.hid a3; have R4 := Lib.hid a4; have HB7 := Lib.hid (HB6.out.trans (a4.mono HB6.out.size)); have HC7 := Lib.hid (HB7.out.mono HLE.out); obtain ⟨cs7, hmk⟩ : ∃ c, mkB Try.prog 54 #[(0, .int .i64 cond.kind), (2, .agg #[.int .i64 cl.kind, .int .i64 cl.pos, .string cl.path.name, .int .i64 cl.path.pos, .slice cl.path.hops.p cl.path.hops.l.length cl.path.hops.cap, .string cl.type, .string cl.left.name, .int .i64 cl.left.n, .int .i64 cl.left.pos, .string cl.right.name, .int .i64 cl.right.n, .int .i64 cl.right.pos]), (3, .agg #[.int .i64 cr.kind, .int .i64 cr.pos, .string cr.path.name, .int .i64 cr.path.pos, .slice cr.path.hops.p cr.path.hops.l.length cr.path.hops.cap, .string cr.type, .string cr.left.name, .int .i64 cr.left.n, .int .i64 cr.left.pos, .string cr.right.name, .int .i64 cr.right.n, .int .i64 cr.right.pos])] = c := ⟨_, rfl⟩; have hc7 : cs7.toList = Cd.cells ⟨cond.kind, 0, cl, cr⟩ := (by rw [← hmk]; kernel_rfl); have hsz7 : cs7.size = 26 := (by rw [← Array.length_toList, hc7]; rfl); have HM7 := Lib.hid (HM5.out.below (L4.out.trans (R4.out.mono L4.out.size))); have HR7 := Lib.hid (rangeAt_below HR5.out (L4.out.trans (R4.out.mono L4.out.size))); obtain ⟨w8, hst, ho8, hr8⟩ := st_put (P := Try.prog) (o := 17) cs7 _ HM7.out (by have h := rangeAt_sub HR7.out 17 26 rfl; rw [Nat.zero_add] at h; exact h) (by rw [hsz7]; rfl) (by rw [hc7]; exact one_of (kCd.one _)); rw [hsz7] at ho8; rw [hc7] at hr8; have HO8 := Lib.hid ho8; have HR8 := Lib.hid hr8; have HB8 := Lib.hid (HB7.out.trans (ho8.to_below HGX.out HB7.out.size)); have HC8 := Lib.hid (HB8.out.mono HLE.out); clear a1 a2 a3 a4 ho8 hr8 hc7)))
        have HM8 := Lib.hid HO8.out.mine
        have HR8F : Hid (w8.rangeAt X 0 (cells7 kind y z ⟨cond.kind, 0, cl, cr⟩ name both (.slice none 0 0))) := Lib.hid ((show Only w7 X (0 + 17) 26 w8 from HO8.out).put HR7.out HR8.out rfl (show 17 + 26 ≤ 48 by decide) rfl)
        have HXL : Hid (X < wc.heap.size) := Lib.hid HM5.out.lt
        have e1 : Ext (rest wS.heap.size (some X) wc) (rest wS.heap.size (some X) w8) := (rest_below (L4.out.trans (R4.out.mono L4.out.size))).trans (rest_only HO8.out)
        have HY8 := Lib.hid (hopsLie_ext e1 Y3.out)
        have HZ8 := Lib.hid (vlLies_ext e1 Z3.out)
        have HL8 : Hid (vlLies (rest wS.heap.size (some X) w8) cl) := Lib.hid (vlLies_ext ((fresh_rest (w0 := wc) HB5D.out.size HXL.out).trans ((rest_below R4.out).trans (rest_only HO8.out))) L3.out)
        have HRR8 : Hid (vlLies (rest wS.heap.size (some X) w8) cr) := Lib.hid (vlLies_ext ((fresh_rest (w0 := w6) HB6.out.size (Nat.lt_of_lt_of_le HXL.out L4.out.size)).trans (rest_only HO8.out)) R3.out)
        have HX8 : Hid (X < w8.heap.size) := Lib.hid HM8.out.lt
        clear hmk hst hsz7 e1 HD7 HO8 HR8 HR7 HM7 HR5 HM5 HC5D HB5D L3 R3 Y3 Z3 HC6 HC7 HC8 HB6 HB7 HB5 L4 R4
        go_wp2_with fail
        have hal : al.length ≤ 6000000000000 := by
          have h : al.length * 144 ≤ 140737488351232 := HX.out.1.2.2.2.2.1.1
          omega
        obtain ⟨wo, rfl⟩ : ∃ wo : World, wo = wr := ⟨_, rfl⟩
        go_loopw [7] (fun m wx => ∃ (j : Nat) (v : Value), m = .int .i64 j ∧ j ≤ al.length ∧ Hid (kVl.Grows w8.heap.size al j v wx) ∧ Hid (w8.grownBy wx (some X)) ∧ Hid (Mine wx X) ∧ Hid (wx.rangeAt X 0 (cells7 kind y z ⟨cond.kind, 0, cl, cr⟩ name both v))) (fun m _ => al.length - (intOf m).toNat)
        case atStart => exact ⟨0, _, rfl, Nat.zero_le _, Lib.hid (Kd.Grows.nil kVl (World.ownsRow_nil _ _ _ _)), Lib.hid ⟨rfl, rfl, rfl, Nat.le_refl _, fun _ _ _ => rfl⟩, HM8, HR8F⟩
        case round =>
          obtain ⟨j, v, rfl, hj, HGj, HGX8, HMj, HRj⟩ := hrel
          have HB8j : Hid (Below wS.heap.size wS wr) := Lib.hid (HB8.out.trans (grownX_below HGX8.out HGX.out HB8.out.size))
          obtain ⟨s44, s45, s46⟩ := HD8.out _ (HB8j.out.mono HLE.out)
          have x44 : wr.cell? ⟨X, 44, none⟩ = some v := cell_at0 HRj.out 44 _ rfl
          by_cases hjl : j < al.length
          · have hji : j < al.length := hjl
            obtain ⟨ba, oa, rfl, hxa⟩ : ∃ b o, ap = some ⟨b, o, none⟩ ∧ ∀ k x, al[k]? = some x → w.rangeAt b (o + k * 12) (Vl.cells x) ∧ vlLies w x := by
              rcases HX.out.1.2.2.2.2.1.2 with h | h
              · rw [show al = [] from h] at hjl; simp at hjl
              · exact h
            have hx1 := hxa j al[j] (List.getElem?_eq_getElem hji)
            have HXE := Lib.hid (List.getElem?_eq_getElem hji)
            generalize al[j] = xe at hx1 HXE
            have HBW : Hid (Below w.heap.size w wr) := Lib.hid (HBS.out.trans (HB8j.out.mono HBS.out.size))
            have HXV : Hid (∀ w', Below wr.heap.size wr w' → vlLies w' xe) := Lib.hid (fun w' hb => vlLies_below hx1.2 (HBW.out.trans (hb.mono HBW.out.size)))
            have HXR := Lib.hid hx1.1
            have hlen : al.length * 144 ≤ 140737488351232 := HX.out.1.2.2.2.2.1.1
            have hln2 : (j + 1) * 144 ≤ 140737488355328 := by omega
            have HLA := Lib.hid hln2
            have HLB : Hid (j + 1 ≤ maxLen) := Lib.hid (by unfold maxLen; omega)
            obtain ⟨ys, yl1, yl2, yl3, yl4, yl5⟩ := HGj.out
            have HE1 := Lib.hid yl1; have HE2 := Lib.hid yl2; have HE3 := Lib.hid yl3; have HE4 := Lib.hid yl4; have HE5 := Lib.hid yl5
            have HVL : Hid (∀ g, v.ownBlock = some g → w8.heap.size ≤ g ∧ g < wr.heap.size) := Lib.hid (fun g hg => yl4.lt g hg)
            have H88 : Hid (w8.heap.size ≤ wr.heap.size) := Lib.hid HGX8.out.size
            have HSB : Hid (S < w8.heap.size ∧ ba < w8.heap.size) := Lib.hid ⟨Nat.lt_of_lt_of_le HLE.out HB8.out.size, by
              have h0 := hx1.1 0 _ rfl
              have := World.block_lt_of_cell? w _ h0
              simp only at this
              have := HBS.out.size
              have := HB8.out.size
              omega⟩
            have HDV : Hid (∀ w', Below w8.heap.size wr w' → w'.cell? ⟨S, 44, none⟩ = some (.slice (some ⟨ba, oa, none⟩) al.length ac) ∧ w'.cell? ⟨ba, oa + j * 12, none⟩ = some (.int .i64 xe.kind) ∧ w'.cell? ⟨ba, oa + j * 12 + 1, none⟩ = some (.int .i64 xe.pos) ∧ w'.cell? ⟨ba, oa + j * 12 + 2, none⟩ = some (.string xe.path.name) ∧ w'.cell? ⟨ba, oa + j * 12 + 3, none⟩ = some (.int .i64 xe.path.pos) ∧ w'.cell? ⟨ba, oa + j * 12 + 4, none⟩ = some (.slice xe.path.hops.p xe.path.hops.l.length xe.path.hops.cap) ∧ w'.cell? ⟨ba, oa + j * 12 + 5, none⟩ = some (.string xe.type) ∧ w'.cell? ⟨ba, oa + j * 12 + 6, none⟩ = some (.string xe.left.name) ∧ w'.cell? ⟨ba, oa + j * 12 + 7, none⟩ = some (.int .i64 xe.left.n) ∧ w'.cell? ⟨ba, oa + j * 12 + 8, none⟩ = some (.int .i64 xe.left.pos) ∧ w'.cell? ⟨ba, oa + j * 12 + 9, none⟩ = some (.string xe.right.name) ∧ w'.cell? ⟨ba, oa + j * 12 + 10, none⟩ = some (.int .i64 xe.right.n) ∧ w'.cell? ⟨ba, oa + j * 12 + 11, none⟩ = some (.int .i64 xe.right.pos)) := Lib.hid (fun w' hb => by
              have hr := rangeAt_low (rangeAt_below HXR.out HBW.out) hb HSB.out.2
              refine ⟨(hb.cell (p := ⟨S, 44, none⟩) HSB.out.1).trans s44, by have := cell_at hr 0 _ rfl; rwa [Nat.add_zero] at this, cell_at hr 1 _ rfl, cell_at hr 2 _ rfl, cell_at hr 3 _ rfl, cell_at hr 4 _ rfl, cell_at hr 5 _ rfl, cell_at hr 6 _ rfl, cell_at hr 7 _ rfl, cell_at hr 8 _ rfl, cell_at hr 9 _ rfl, cell_at hr 10 _ rfl, cell_at hr 11 _ rfl⟩)
            clear hxa hx1 hlen hln2 yl1 yl2 yl3 yl4 yl5
            obtain ⟨i0, hi0, hz0, hz1, hz2⟩ := info_parts zinfoVl
            have HI := Lib.hid hi0; have HZ0 := Lib.hid hz0; have HZ1 := Lib.hid hz1; have HZ2 := Lib.hid hz2
            clear hi0 hz0 hz1 hz2
            have hj0 : (0 : Int) ≤ (j : Int) := Int.natCast_nonneg _
            have hj1 : (j : Int) < (al.length : Int) := by omega
            have HBJD : Hid (Below wr.heap.size wr wr.drew) := Lib.hid (below_drew (Below.refl _ _))
            have HBJ8 : Hid (Below w8.heap.size wr wr.drew) := Lib.hid (HBJD.out.mono H88.out)
            clear s45 s46
            go_wp2_with fail
            obtain ⟨_, e0, e1, e2, e3, e4, e5, e6, e7, e8, e9, e10, e11⟩ := HDV.out _ (Below.refl _ _)
            clear HDV
            go_region_law
              ((first
                | (go_simp; go_at_call 78; (with_reducible refine (value_new xe _ (HXV.out _ HBJD.out)).mono ?_); rintro en w9 ⟨ye, rfl, a1, a2, a3, a4⟩; have E1 := Lib.hid a1; have E2 := Lib.hid a2; have E3 : Hid (vlLies (fresh wr.heap.size w9) ye) := Lib.hid a3; have HB9 := Lib.hid (HBJD.out.trans a4); have HB98 := Lib.hid (HB9.out.mono H88.out); have HO9 := Lib.hid (own_below HE4.out HB9.out); have x9 : w9.cell? ⟨X, 44, none⟩ = some v := (HB98.out.cell (p := ⟨X, 44, none⟩) HX8.out).trans x44; have x9a : ∀ o, (w9.alloc o).cell? ⟨X, 44, none⟩ = some v := (fun o => (World.cell?_alloc_lt _ _ _ (Nat.lt_of_lt_of_le HX8.out (Nat.le_trans H88.out HB9.out.size))).trans x9); clear a1 a2 a3 a4; (try dsimp only))
                | (refine step_append_lies _ rfl (.tmp 52) (.tmp 59) 55 rfl w8.heap.size 52 i0 (.agg #[.int .i64 0, .int .i64 0, .string ByteArray.empty, .int .i64 0, .slice none 0 0, .string ByteArray.empty, .string ByteArray.empty, .int .i64 0, .int .i64 0, .string ByteArray.empty, .int .i64 0, .int .i64 0]) 12 144 Try.underlying55 HI.out HZ0.out HZ1.out HZ2.out rfl (by decide) v j _ rfl (HO9.out.alloc _) ⟨w9.heap.size, 0, none⟩ 1 1 [.int .i64 ye.kind, .int .i64 ye.pos, .string ye.path.name, .int .i64 ye.path.pos, .slice ye.path.hops.p ye.path.hops.l.length ye.path.hops.cap, .string ye.type, .string ye.left.name, .int .i64 ye.left.n, .int .i64 ye.left.pos, .string ye.right.name, .int .i64 ye.right.n, .int .i64 ye.right.pos] rfl rfl (World.news_of_block (heap_alloc_new _ _)) (one_of (kVl.one ye)) (by decide) HLB.out HLA.out (Nat.le_trans H88.out (Nat.le_trans HB9.out.size (by simp))) _ rfl ?_; intro g cap w10 hown hgrow hat hlt; have HB10 : Hid (Below w8.heap.size wr w10) := Lib.hid ((HB98.out.alloc (Nat.le_trans H88.out HB98.out.size) _).grown hgrow (Nat.le_trans H88.out (Nat.le_trans HB9.out.size (by simp))) (fun q hq => (HVL.out q hq).1)); have HG10 : Hid (kVl.Grows w8.heap.size al (j + 1) (.slice (some ⟨g, 0, none⟩) (j + 1) cap) w10) := Lib.hid (kVl.add HE1.out HE2.out HE3.out (fun q hq => kVl.ext q (rest_below (HB9.out.alloc HB9.out.size _)) (HE5.out q hq)) HXE.out hgrow hat hown E1.out E2.out (vlLies_ext ((fresh_restv H88.out (fun q hq => (HVL.out q hq).2)).trans (rest_below (Below.alloc (Below.refl _ _) (Nat.le_refl _) _))) E3.out)); have y10 : w10.cell? ⟨X, 44, none⟩ = some v := (HB10.out.cell (p := ⟨X, 44, none⟩) HX8.out).trans x44; have HM10 : Hid (Mine w10 X) := Lib.hid (HMj.out.low HB10.out HX8.out); have f10 := HM10.out.frozen 44; have HR10 := Lib.hid (rangeAt_low HRj.out HB10.out HX8.out); clear hown hgrow hat hlt)))
            all_goals
              have ho : Only w10 X 0 48 (w10.setCell ⟨X, 44, none⟩ (.slice (some ⟨g, 0, none⟩) (j + 1) cap)) := Only.setCell HM10.out (by omega) (by omega) _
              have HGZ := Lib.hid (HG10.out.only ho HX8.out)
              have HBZ : Hid (w8.grownBy (w10.setCell ⟨X, 44, none⟩ (.slice (some ⟨g, 0, none⟩) (j + 1) cap)) (some X)) := Lib.hid (grownBy_trans (grownX_low HGX8.out HB10.out (Nat.le_refl _)) (grownBy_setC _ _ _))
              have HMZ := Lib.hid ho.mine
              have HRZ : Hid ((w10.setCell ⟨X, 44, none⟩ (.slice (some ⟨g, 0, none⟩) (j + 1) cap)).rangeAt X 0 (cells7 kind y z ⟨cond.kind, 0, cl, cr⟩ name both (.slice (some ⟨g, 0, none⟩) (j + 1) cap))) := Lib.hid (set_range (q := 0) HR10.out 44 _ (show 44 < 48 by decide) rfl)
              clear ho y10 f10 x9 x9a x44 e0 e1 e2 e3 e4 e5 e6 e7 e8 e9 e10 e11 s44 HG10 HR10 HM10
              generalize w10.setCell ⟨X, 44, none⟩ (.slice (some ⟨g, 0, none⟩) (j + 1) cap) = w11 at HGZ HBZ HMZ HRZ ⊢
              go_wp2_with fail
              go_roundw
              case rel => exact ⟨j + 1, _, by go_num, by omega, HGZ, HBZ, HMZ, HRZ⟩
              case measure => simp [intOf]; omega
          · have hjl2 : j = al.length := by omega
            subst hjl2
            obtain ⟨p5, k5, l5, rfl, q1, q2, q3⟩ := kVl.fin (show al.length * 144 ≤ 140737488351232 from HX.out.1.2.2.2.2.1.1) HGj.out
            have Q1 := Lib.hid q1; have Q2 := Lib.hid q2
            have HR12 : Hid (wr.rangeAt X 0 (scells ⟨kind, 0, y, z, ⟨cond.kind, 0, cl, cr⟩, name, ⟨p5, k5, l5⟩, both⟩ none 0 0 none 0 0)) := Lib.hid HRj.out
            have HA12 : Hid (argsLie (rest wS.heap.size (some X) wr) ⟨p5, k5, l5⟩) := Lib.hid (argsLie_ext (fresh_rest (w0 := w8) HB8.out.size HX8.out) q3)
            have HY12 := Lib.hid (hopsLie_ext (rest_grownX HGX8.out) HY8.out)
            have HZ12 := Lib.hid (vlLies_ext (rest_grownX HGX8.out) HZ8.out)
            have HL12 := Lib.hid (vlLies_ext (rest_grownX HGX8.out) HL8.out)
            have HRR12 := Lib.hid (vlLies_ext (rest_grownX HGX8.out) HRR8.out)
            have HTT : Hid (∀ w', Below wS.heap.size wS w' → Calls Try.prog 49 #[.slice tp t.len tc] w' fun en w'' => ∃ (p' : Option Addr) (c' : Nat) (s' : SL), en = .returned (.slice p' s'.len c') ∧ s'.er = t.er ∧ s'.flat ∧ sLies (fresh w'.heap.size w'') p' s' ∧ Below w'.heap.size w' w'') := Lib.hid (fun w' hb => HPX.out.1 tp tc w' (HX6.out _ hb))
            have HEE : Hid (∀ w', Below wS.heap.size wS w' → Calls Try.prog 49 #[.slice ep e.len ec] w' fun en w'' => ∃ (p' : Option Addr) (c' : Nat) (s' : SL), en = .returned (.slice p' s'.len c') ∧ s'.er = e.er ∧ s'.flat ∧ sLies (fresh w'.heap.size w'') p' s' ∧ Below w'.heap.size w' w'') := Lib.hid (fun w' hb => HPX.out.2 ep ec w' (HX7.out _ hb))
            have HD9 : Hid (∀ w', Below (S + 1) wS w' → w'.cell? ⟨S, 45, none⟩ = some (.slice tp t.len tc) ∧ w'.cell? ⟨S, 46, none⟩ = some (.slice ep e.len ec)) := Lib.hid (fun w' hb => (HD8.out w' hb).2)
            have HBRD : Hid (Below wS.heap.size wS wr.drew) := Lib.hid (below_drew HB8j.out)
            have HCRD : Hid (Below (S + 1) wS wr.drew) := Lib.hid (HBRD.out.mono HLE.out)
            clear q1 q2 q3 HRj HGj HY8 HZ8 HL8 HRR8 HR8F s45 s46 x44
            go_wp2_with fail
            clear s44
            go_region_held3 (fun w' => w'.cell? ⟨S, 45, none⟩ = some (.slice tp t.len tc) ∧ w'.cell? ⟨S, 46, none⟩ = some (.slice ep e.len ec)) (first | with_reducible exact HD9.out _ HC13.out | with_reducible exact HD9.out _ HC12.out | with_reducible exact HD9.out _ HCRD.out | with_reducible exact HD9.out _ HCSX.out | with_reducible exact HD9.out _ HCSY.out | with_reducible exact HD9.out _ (HCSX.out.setCell (p := ⟨X, 46, none⟩) HXG.out _) | with_reducible exact HD9.out _ (HCSY.out.setCell (p := ⟨X, 45, none⟩) HXG.out _) | fail)
              ((first
                | (go_at_call 49; (with_reducible refine (HTT.out _ HBRD.out).mono ?_); rintro en w12 ⟨p6, k6, t6, rfl, a1, a2, a3, a4⟩; have T1 := Lib.hid a1; have T2 := Lib.hid a2; have T3 := Lib.hid a3; have T4 : Hid (Below wr.heap.size wr w12) := Lib.hid ((below_drew (Below.refl _ _)).trans a4); have HB12 := Lib.hid (HBRD.out.trans (a4.mono HBRD.out.size)); have HC12 := Lib.hid (HB12.out.mono HLE.out); clear a1 a2 a3 a4)
                | (go_at_call 49; (with_reducible refine (HEE.out _ HB12.out).mono ?_); rintro en w13 ⟨p7, k7, t7, rfl, a1, a2, a3, a4⟩; have E1 := Lib.hid a1; have E2 := Lib.hid a2; have E3 := Lib.hid a3; have E4 := Lib.hid a4; have HB13 := Lib.hid (HB12.out.trans (a4.mono HB12.out.size)); have HC13 := Lib.hid (HB13.out.mono HLE.out); have HM13 := Lib.hid (HMj.out.below (T4.out.trans (E4.out.mono T4.out.size))); have HR13 := Lib.hid (rangeAt_below HR12.out (T4.out.trans (E4.out.mono T4.out.size))); have z45 := cell_at0 HR13.out 45 _ rfl; have z46 := cell_at0 HR13.out 46 _ rfl; have f45 := HM13.out.frozen 45; have f46 := HM13.out.frozen 46; have HXG : Hid (S + 1 ≤ X) := Lib.hid (Nat.le_trans HLE.out HGX.out); have HCSX : Hid (Below (S + 1) wS (w13.setCell ⟨X, 45, none⟩ (.slice p6 t6.len k6))) := Lib.hid (HC13.out.setCell (p := ⟨X, 45, none⟩) HXG.out _); have HCSY : Hid (Below (S + 1) wS (w13.setCell ⟨X, 46, none⟩ (.slice p7 t7.len k7))) := Lib.hid (HC13.out.setCell (p := ⟨X, 46, none⟩) HXG.out _); clear a1 a2 a3 a4)))
            all_goals
              clear z45 z46 f45 f46
              have o1 : Only w13 X 0 48 (w13.setCell ⟨X, 45, none⟩ (.slice p6 t6.len k6)) := Only.setCell HM13.out (by omega) (by omega) _
              have o2 : Only (w13.setCell ⟨X, 45, none⟩ (.slice p6 t6.len k6)) X 0 48 ((w13.setCell ⟨X, 45, none⟩ (.slice p6 t6.len k6)).setCell ⟨X, 46, none⟩ (.slice p7 t7.len k7)) := Only.setCell o1.mine (by omega) (by omega) _
              have r1 : (w13.setCell ⟨X, 45, none⟩ (.slice p6 t6.len k6)).rangeAt X 0 (scells ⟨kind, 0, y, z, ⟨cond.kind, 0, cl, cr⟩, name, ⟨p5, k5, l5⟩, both⟩ p6 t6.len k6 none 0 0) := set_range (q := 0) HR13.out 45 _ (show 45 < 48 by decide) rfl
              have r2 : ((w13.setCell ⟨X, 45, none⟩ (.slice p6 t6.len k6)).setCell ⟨X, 46, none⟩ (.slice p7 t7.len k7)).rangeAt X 0 (scells ⟨kind, 0, y, z, ⟨cond.kind, 0, cl, cr⟩, name, ⟨p5, k5, l5⟩, both⟩ p6 t6.len k6 p7 t7.len k7) := set_range (q := 0) r1 46 _ (show 46 < 48 by decide) rfl
              have HO14 := Lib.hid (o1.trans o2)
              have HR14 := Lib.hid r2
              clear o1 o2 r1 r2 HR13 HD9 HCSX HCSY HC13 HC12 HTT HEE
              generalize (w13.setCell ⟨X, 45, none⟩ (.slice p6 t6.len k6)).setCell ⟨X, 46, none⟩ (.slice p7 t7.len k7) = w14 at HO14 HR14 ⊢
              have HB14 : Hid (Below wS.heap.size wS w14) := Lib.hid (HB13.out.trans (HO14.out.to_below HGX.out HB13.out.size))
              have HXR : Hid (X < wr.heap.size) := Lib.hid HMj.out.lt
              have eA : Ext (rest wS.heap.size (some X) wr) (rest wS.heap.size (some X) w14) := (rest_below (T4.out.trans (E4.out.mono T4.out.size))).trans (rest_only HO14.out)
              have HIT : Hid (itLies (rest wS.heap.size (some X) w14) ⟨⟨kind, 0, y, z, ⟨cond.kind, 0, cl, cr⟩, name, ⟨p5, k5, l5⟩, both⟩, p6, k6, t6, p7, k7, t7⟩) := Lib.hid ⟨⟨hopsLie_ext eA HY12.out, vlLies_ext eA HZ12.out, vlLies_ext eA HL12.out, vlLies_ext eA HRR12.out, argsLie_ext eA HA12.out, HNM.out⟩, sLies_ext ((fresh_rest (w0 := wr) HBRD.out.size HXR.out).trans ((rest_below E4.out).trans (rest_only HO14.out))) T3.out, sLies_ext ((fresh_rest (w0 := w12) HB12.out.size (Nat.lt_of_lt_of_le HXR.out T4.out.size)).trans (rest_only HO14.out)) E3.out⟩
              have HWB : Hid (Below wo.heap.size wo w14) := Lib.hid (HBR.out.trans (HB14.out.mono HBR.out.size))
              have HG14 := Lib.hid (HG.out.below HWB.out)
              have HUL : Hid (∀ g, u3.ownBlock = some g → g < wS.heap.size) := Lib.hid (fun g hg => Nat.lt_of_lt_of_le (HG.out.lt g hg) HBR.out.size)
              have HW14 : Hid (Below w.heap.size w w14) := Lib.hid (HBS.out.trans (HB14.out.mono HBS.out.size))
              obtain ⟨us, us1, us2, us3, us4, us5⟩ := HG14.out
              have U1 := Lib.hid us1; have U2 := Lib.hid us2; have U3 := Lib.hid us3; have U4 := Lib.hid us4; have U5 := Lib.hid us5
              obtain ⟨cz, hcz⟩ : ∃ cz : Array Value, cz = (scells ⟨kind, 0, y, z, ⟨cond.kind, 0, cl, cr⟩, name, ⟨p5, k5, l5⟩, both⟩ p6 t6.len k6 p7 t7.len k7).toArray := ⟨_, rfl⟩
              have HZR : Hid (w14.rangeAt X 0 cz.toList) := Lib.hid (by rw [hcz]; exact HR14.out)
              have HZS : Hid ((Try.prog.info? 57).map (·.size) = some cz.size) := Lib.hid (by rw [hcz]; exact size57)
              have HZ8 : Hid (48 = cz.size) := Lib.hid (by rw [hcz]; rfl)
              have HZO : Hid (∀ u ∈ cz.toList, u.oneCell' = true) := Lib.hid (by rw [hcz]; exact one_of (scells_one _ _ _ _ _ _ _))
              have HZL : Hid (cz.toList.length = 1 * 48) := Lib.hid (by rw [hcz]; rfl)
              have HZC := Lib.hid hcz
              obtain ⟨i0, hi0, hz0, hzz1, hzz2⟩ := info_parts zinfoIt
              have HI := Lib.hid hi0; have HZ0 := Lib.hid hz0; have HZZ1 := Lib.hid hzz1; have HZZ2 := Lib.hid hzz2
              have HUA := Lib.hid (World.ownsRow.alloc us4 (.cells cz 57))
              have HKM : Hid (k + 1 ≤ maxLen) := Lib.hid (by unfold maxLen; omega)
              have HKB : Hid ((k + 1) * 608 ≤ 140737488355328) := Lib.hid (by have := HLN.out; have := Nat.mul_le_mul_right 608 hkl; omega)
              have HWA : Hid (Below w.heap.size w (w14.alloc (.cells cz 57))) := Lib.hid (HW14.out.alloc HW14.out.size _)
              clear us1 us2 us3 us4 us5 hcz hi0 hz0 hzz1 hzz2 eA
              go_wp2_with (first
                | ((with_reducible show wpList _ _ _ (Oper.mk _ (Op.load 57 _) _ _ _ _ :: _) _ _); refine wpList_load_arr rfl 57 _ rfl X 0 rfl cz _ HZR.out Try.underlying57 rfl HZS.out ?_)
                | ((with_reducible show wpList _ _ _ (Oper.mk _ (Op.buildSlice _ _ _) _ _ _ _ :: _) _ _); refine wpList_one rfl 22 57 (.tmp 71) rfl cz rfl Try.underlying22 i0 _ 48 HI.out HZ0.out HZZ1.out (by decide) (by decide) HZ8.out ?_)
                | (at_builtin; go_must (refine wpList_append_lies _ rfl (.tmp 70) (.tmp 72) 22 rfl w.heap.size 57 i0 (.agg #[.int .i64 0, .int .i64 0, .string ByteArray.empty, .int .i64 0, .slice none 0 0, .int .i64 0, .int .i64 0, .string ByteArray.empty, .int .i64 0, .slice none 0 0, .string ByteArray.empty, .string ByteArray.empty, .int .i64 0, .int .i64 0, .string ByteArray.empty, .int .i64 0, .int .i64 0, .int .i64 0, .int .i64 0, .int .i64 0, .int .i64 0, .string ByteArray.empty, .int .i64 0, .slice none 0 0, .string ByteArray.empty, .string ByteArray.empty, .int .i64 0, .int .i64 0, .string ByteArray.empty, .int .i64 0, .int .i64 0, .int .i64 0, .int .i64 0, .string ByteArray.empty, .int .i64 0, .slice none 0 0, .string ByteArray.empty, .string ByteArray.empty, .int .i64 0, .int .i64 0, .string ByteArray.empty, .int .i64 0, .int .i64 0, .string ByteArray.empty, .slice none 0 0, .slice none 0 0, .slice none 0 0, .bool false]) 48 608 Try.underlying22 HI.out HZ0.out HZZ1.out HZZ2.out rfl (by decide) u3 k _ rfl HUA.out ⟨w14.heap.size, 0, none⟩ 1 1 cz.toList rfl HZL.out (World.news_of_block (heap_alloc_new _ _)) HZO.out (by decide) HKM.out HKB.out HWA.out.size (w14.heap.size + 1) (by simp) ?_); intro g cap w15 hown hgrow hat hlt; have HO15 := Lib.hid hown; have HGR := Lib.hid hgrow; have HAT := Lib.hid hat; clear hown hgrow hat hlt))
              have HB15 : Hid (Below w.heap.size w w15) := Lib.hid (HWA.out.grown HGR.out HWA.out.size (fun q hq => (HUA.out.lt q hq).1))
              have HGF : Hid (kIt.Grows w.heap.size s.items (k + 1) (.slice (some ⟨g, 0, none⟩) (k + 1) cap) w15) := Lib.hid (kIt.add (y := ⟨⟨kind, 0, y, z, ⟨cond.kind, 0, cl, cr⟩, name, ⟨p5, k5, l5⟩, both⟩, p6, k6, t6, p7, k7, t7⟩) U1.out U2.out U3.out (fun q hq => kIt.ext q (rest_below (Below.alloc (Below.refl _ _) (Nat.le_refl _) _)) (U5.out q hq)) HXK.out HGR.out (by rw [World.size_alloc]; exact HAT.out) (by have h := HO15.out; rw [HZC.out] at h; exact h) (by
                show It.er _ = It.er _
                simp only [It.er, Hd.er, Cd.er, Sl.er, show y.er = place.er from Y1.out, show z.er = value.er from Z1.out, show cl.er = cond.left.er from L1.out, show cr.er = cond.right.er from R1.out, show l5.map Vl.er = al.map Vl.er from Q1.out, show t6.er = t.er from T1.out, show t7.er = e.er from E1.out]) ⟨⟨rfl, Y2.out, Z2.out, ⟨rfl, L2.out, R2.out⟩, Q2.out⟩, T2.out, E2.out⟩ (itLies_ext ((rest_older HBS.out.size HUL.out).trans (rest_below (Below.alloc (Below.refl _ _) (Nat.le_refl _) _))) HIT.out))
              go_wp2_with fail
              go_roundw
              case rel => exact ⟨k + 1, by go_num, by omega, HGF, HB15⟩
              case measure => simp [intOf]; omega
    · obtain rfl : k = s.len := by omega
      have hg := HG.out
      rw [← HIL.out] at hg
      obtain ⟨p3, c3, l3, rfl, h1, h2, h3⟩ := kIt.fin (by rw [HIL.out]; exact HLN.out) hg
      have H1 := Lib.hid h1; have H2 := Lib.hid h2; have H3 := Lib.hid h3
      clear h1 h2 h3 hg
      go_wp2_with fail
      go_ret
      exact ⟨p3, c3, SL.of l3, by rw [SL.len_of]; rfl, er_of H1.out, flat_of H2.out, sLies_of H3.out, HB.out⟩
theorem rlist (s : SL) : RAll s := (SL.all (P := RAll) (fun l h => rlist_one l h) s).1

end Go.Proofs.Ytpbjnjnmbglllaa
