/-
  Plain: where nothing comes to itself one can always be told; one order alone. The walk of the document's Order. The walk of the document's Cost. The walk of the document's Cost. The walks of 'are they the same': the law's own 'small'. The walk of the law's few. What the bound on the arguments gives:
-/
import Derived.Test.YtmhpaacjioeknaaGreatP12
import Derived.Test.YtmhpaacjioeknaaGreatP01
import Derived.Test.YtmhpaacjioeknaaGreatRows
import Derived.SizedLaws
import Derived.ChangeArms
set_option maxHeartbeats 6400000
set_option maxRecDepth 100000
namespace Go.Proofs.YtmhpaacjioeknaaGreat
theorem lft_zero {os xs : List Int} : lft os xs = 0 ↔ ∀ e ∈ xs, e ∈ os := by
 unfold lft
 rw [List.countP_eq_zero]
 simp
/-- The next one of those that are not told. -/
theorem not_all {n : Nat} {os : List Int} (hl : os.length < n) : ∃ c : Nat, c < n ∧ (c : Int) ∉ os := by
 apply Classical.byContradiction
 intro h
 have h1 : ∀ c : Nat, c < n → (c : Int) ∈ os := by
  intro c hc
  apply Classical.byContradiction
  intro h2
  exact h ⟨c, hc, h2⟩
 have h2 : ∀ (m : Nat) (l : List Int), (∀ c : Nat, c < m → (c : Int) ∈ l) → m ≤ l.length := by
  intro m
  induction m with
  | zero => intro l _; exact Nat.zero_le _
  | succ m ih =>
   intro l hl
   have h3 := ih (l.erase (m : Int)) (by
    intro c hc
    exact (List.mem_erase_of_ne (by omega)).2 (hl c (by omega)))
   rw [List.length_erase_of_mem (hl m (Nat.lt_succ_self _))] at h3
   have h4 := List.length_pos_of_mem (hl m (Nat.lt_succ_self _))
   omega
 have := h2 n os h1
 omega
theorem ready_of {XS : List (List Int)} {os : List Int} (hr : InR XS) (hl : os.length < XS.length) (hc : ∀ i, i < XS.length → ¬ Rt XS i i) : ∃ k, Rdy XS os k := by
 apply Classical.byContradiction
 intro hno
 have hstep : ∀ c : {c : Nat // c < XS.length ∧ (c : Int) ∉ os}, ∃ d : {c : Nat // c < XS.length ∧ (c : Int) ∉ os}, (d.1 : Int) ∈ XS.getD c.1 [] := by
  rintro ⟨c, h1, h2⟩
  apply Classical.byContradiction
  intro h3
  refine hno ⟨c, h1, h2, lft_zero.2 ?_⟩
  intro e he
  apply Classical.byContradiction
  intro h4
  have h5 := inr_at hr he
  refine h3 ⟨⟨e.toNat, by omega, ?_⟩, ?_⟩
  ·rw [show ((e.toNat : Nat) : Int) = e by omega]; exact h4
  ·show ((e.toNat : Nat) : Int) ∈ XS.getD c []
   rw [show ((e.toNat : Nat) : Int) = e by omega]; exact he
 obtain ⟨c0, h0, h0'⟩ := not_all hl
 let g := fun c => Classical.choose (hstep c)
 have hg : ∀ c, ((g c).1 : Int) ∈ XS.getD c.1 [] := fun c => Classical.choose_spec (hstep c)
 let f : Nat → {c : Nat // c < XS.length ∧ (c : Int) ∉ os} := fun k => Nat.rec ⟨c0, h0, h0'⟩ (fun _ c => g c) k
 have hf : ∀ k, f (k + 1) = g (f k) := fun _ => rfl
 have hrt : ∀ a d, Rt XS (f a).1 (f (a + d + 1)).1 := by
  intro a d
  induction d with
  | zero => rw [Nat.add_zero, hf]; exact .one _ (hg _)
  | succ d ih =>
   refine .step _ _ ih ?_
   show ((f (a + (d + 1) + 1)).1 : Int) ∈ _
   rw [hf]; exact hg _
 have hinj : ∀ a b, a < b → (f a).1 ≠ (f b).1 := by
  intro a b hab e
  have h1 := hrt a (b - a - 1)
  rw [show a + (b - a - 1) + 1 = b by omega, ← e] at h1
  exact hc _ (f a).2.1 h1
 have hnd : ((List.range (XS.length + 1)).map fun k => (f k).1).Nodup := by
  rw [List.nodup_iff_pairwise_ne, List.pairwise_map]
  exact List.pairwise_lt_range.imp fun h => hinj _ _ h
 have h2 := Go.nodup_lt_length XS.length _ hnd (by
  intro x hx
  obtain ⟨k, _, rfl⟩ := List.mem_map.1 hx
  exact (f k).2.1)
 rw [List.length_map, List.length_range] at h2
 omega
/-- What one told calls stands ahead of it. -/
theorem told_ahead {XS : List (List Int)} {os : List Int} (h : Told XS os) : ∀ c : Nat, (c : Int) ∈ os → ∀ e ∈ XS.getD c [], e ∈ os ∧ os.idxOf e < os.idxOf (c : Int) := by
 induction h with
 | nil => intro c hc; cases hc
 | snoc os i _ hr _ ih =>
  intro c hc e he
  by_cases hci : (c : Int) ∈ os
  ·obtain ⟨h1, h2⟩ := ih c hci e he
   refine ⟨by simp [h1], ?_⟩
   rw [List.idxOf_append, List.idxOf_append, if_pos h1, if_pos hci]; exact h2
  ·have h3 : c = i := by
    rw [List.mem_append, List.mem_singleton] at hc
    rcases hc with h | h
    ·exact absurd h hci
    ·omega
   subst h3
   have h1 := lft_zero.1 hr.2.2 e he
   refine ⟨by simp [h1], ?_⟩
   rw [List.idxOf_append, List.idxOf_append, if_pos h1, if_neg hci]
   have := List.idxOf_lt_length_of_mem h1
   omega
theorem rt_ahead {XS : List (List Int)} {os : List Int} (h : Told XS os) {i c : Nat} (hi : (i : Int) ∈ os) (hr : Rt XS i c) : (c : Int) ∈ os ∧ os.idxOf (c : Int) < os.idxOf (i : Int) := by
 induction hr with
 | one c hc => exact told_ahead h i hi _ hc
 | step c d _ hd ih =>
  obtain ⟨h1, h2⟩ := told_ahead h c ih.1 _ hd
  exact ⟨h1, by omega⟩
/-- All told: nothing comes to itself. -/
theorem told_all {XS : List (List Int)} {os : List Int} (h : Told XS os) (hl : os.length = XS.length) : ∀ i, i < XS.length → ¬ Rt XS i i := by
 intro i hi hr
 have hm : (i : Int) ∈ os := by
  apply Classical.byContradiction
  intro hn
  have h1 := told_at h
  have h2 : ((i : Int) :: os).length ≤ XS.length := nodup_len (List.nodup_cons.2 ⟨hn, h1.1⟩) (by
   intro x hx
   rcases List.mem_cons.1 hx with rfl | hx
   ·exact ⟨i, rfl, hi⟩
   ·obtain ⟨c, h3, h4, _⟩ := h1.2 x hx; exact ⟨c, h3, h4⟩)
  rw [List.length_cons] at h2
  omega
 have := (rt_ahead h hm hr).2
 omega
theorem told_take {XS : List (List Int)} {os : List Int} (h : Told XS os) : ∀ k, Told XS (os.take k) := by
 induction h with
 | nil => intro k; rw [List.take_nil]; exact .nil
 | snoc os i ht hr hm ih =>
  intro k
  by_cases hk : k ≤ os.length
  ·rw [List.take_append_of_le_length hk]; exact ih k
  ·rw [List.take_of_length_le (by rw [List.length_append, List.length_singleton]; omega)]; exact .snoc os i ht hr hm
theorem told_last {XS : List (List Int)} {os : List Int} {x : Int} (h : Told XS (os ++ [x])) : ∃ i : Nat, x = (i : Int) ∧ Rdy XS os i ∧ ∀ k, Rdy XS os k → i ≤ k := by
 generalize hq : os ++ [x] = qs at h
 cases h with
 | nil => simp at hq
 | snoc os' i _ hr hm =>
  obtain ⟨h1, h2⟩ := List.append_inj' hq rfl
  injection h2 with h2
  subst h1
  exact ⟨i, h2, hr, hm⟩
/-- There is one order alone. -/
theorem told_one {XS : List (List Int)} {os qs : List Int} (h : Told XS os) (h' : Told XS qs) : os.length ≤ qs.length → os = qs.take os.length := by
 induction h with
 | nil => intro _; rfl
 | snoc os i _ hr hm ih =>
  intro hl
  rw [List.length_append, List.length_singleton] at hl ⊢
  have h1 := ih (by omega)
  have hlt : os.length < qs.length := by omega
  have h2 := told_take h' (os.length + 1)
  rw [List.take_succ_eq_append_getElem hlt, ← h1] at h2
  obtain ⟨j, hj, hrj, hmj⟩ := told_last h2
  have h3 := hm j hrj
  have h4 := hmj i hr
  have : i = j := by omega
  subst this
  rw [List.take_succ_eq_append_getElem hlt, ← h1, hj]
end Go.Proofs.YtmhpaacjioeknaaGreat
namespace Go.Proofs.YtmhpaacjioeknaaGreat
open Go.RowKit Go.Maps Go.Sort Go.WideMaps
/-- While the document's order is made. -/
structure Dn (W w : World) (db n : Nat) (vo : Value) (ds : List Bool) (os : List Int) : Prop where
 bel : Below db W w
 blk : Bk w db 4 (ds.map Value.bool).toArray
 ord : OR w (db + 1) vo os
 len : ds.length = n
 tel : ∀ c : Nat, c < n → (ds[c]? = some true ↔ (c : Int) ∈ os)
theorem Dn.below {W w w' : World} {db n : Nat} {vo : Value} {ds : List Bool} {os : List Int} (h : Dn W w db n vo ds os) (hb : Below w.heap.size w w') : Dn W w' db n vo ds os :=
 ⟨h.bel.trans (hb.mono (Nat.le_of_lt h.blk.lt)), h.blk.below hb h.blk.lt, own_below h.ord hb, h.len, h.tel⟩
theorem Dn.cell {W w : World} {db n : Nat} {vo : Value} {ds : List Bool} {os : List Int} (h : Dn W w db n vo ds os) {c : Nat} (hc : c < n) : w.cell? ⟨db, c, none⟩ = some (.bool (os.contains (c : Int))) := by
 have hl : c < ds.length := by rw [h.len]; exact hc
 rw [h.blk.cell]
 simp only [List.getElem?_toArray, List.getElem?_map, List.getElem?_eq_getElem hl, Option.map_some]
 congr 2
 have h1 := h.tel c hc
 rw [List.getElem?_eq_getElem hl] at h1
 rw [Bool.eq_iff_iff]
 simpa using h1
theorem Dn.take {W w w' : World} {db n : Nat} {vo vo' : Value} {ds : List Bool} {os : List Int} (h : Dn W w db n vo ds os) {c : Nat} (hc : c < n) (hO : OR w' (db + 1) vo' (os ++ [(c : Int)])) (hg : (w.setCell ⟨db, c, none⟩ (.bool true)).grownBy w' vo.ownBlock) : Dn W w' db n vo' (ds.set c true) (os ++ [(c : Int)]) := by
 have hl : c < ds.length := by rw [h.len]; exact hc
 have hb := below_set h.bel ⟨db, c, none⟩ (.bool true) (Nat.le_refl _)
 have hk : Bk (w.setCell ⟨db, c, none⟩ (.bool true)) db 4 ((ds.set c true).map Value.bool).toArray := by
  have h1 := h.blk.set_ c (.bool true)
  rw [List.setIfInBounds_toArray] at h1
  rw [List.map_set]
  exact h1
 have hlt : ∀ q, vo.ownBlock = some q → db + 1 ≤ q := fun q hq => (h.ord.lt q hq).1
 refine ⟨hb.grown hg (Nat.le_of_lt hk.lt) (fun q hq => by have := hlt q hq; omega), hk.grown hg (fun q hq => by have := hlt q hq; omega), hO, by rw [List.length_set]; exact h.len, ?_⟩
 intro d hd
 rw [List.mem_append, List.mem_singleton, ← h.tel d hd]
 by_cases hdc : d = c
 ·subst hdc; rw [List.getElem?_set_self hl]; simp
 ·rw [List.getElem?_set_ne (fun e => hdc e.symm)]
  constructor
  ·intro h1; exact .inl h1
  ·rintro (h1 | h1)
   ·exact h1
   ·omega
theorem Dn.start (w : World) (n : Nat) : Dn w (w.alloc (.cells (madeCells #[.bool false] n) 4)) w.heap.size n (.slice none 0 0) (List.replicate n false) [] := by
 refine ⟨(Below.refl _ _).alloc (Nat.le_refl _) _, made_bools w n, World.ownsRow_nil _ _ _ _, by simp, ?_⟩
 intro c _
 rw [List.getElem?_replicate]
 split <;> simp
/-- Can it be told? -/
def rb (os : List Int) (i : Nat) (xs : List Int) : Bool := !os.contains (i : Int) && xs.all fun e => os.contains e
theorem rb_snoc (os : List Int) (i : Nat) (xs : List Int) (e : Int) : rb os i (xs ++ [e]) = (rb os i xs && os.contains e) := by
 unfold rb
 rw [List.all_append]
 simp [Bool.and_assoc]
theorem rb_rdy {XS : List (List Int)} {os : List Int} {i : Nat} (hi : i < XS.length) : rb os i (XS.getD i []) = true ↔ Rdy XS os i := by
 unfold rb Rdy
 rw [lft_zero]
 simp [hi]
/-- What the document's Order answers. -/
def ROrd (l : List Pc) (w w' : World) (v : Value) : Prop :=
 Below w.heap.size w w' ∧ (((∃ i, i < l.length ∧ Rt (web l) i i) ∧ v = .slice none 0 0) ∨ ((∀ i, i < l.length → ¬ Rt (web l) i i) ∧ ∃ os, Told (web l) os ∧ os.length = l.length ∧ OR w' w.heap.size v os))
theorem rorder_any (sv_ gv : Value) (s : Sl Pc) (w : World) (h : pcsLie w s) (hP : PsOk s.l) :
  Calls Tryz.prog 12 #[.agg #[sv_, gv, .slice s.p s.l.length s.cap]] w fun e w' => ∃ v, e = .returned v ∧ ROrd s.l w w' v := by
 have HBA : Hid (Below w.heap.size w (w.alloc (.cells #[sv_, gv, .slice s.p s.l.length s.cap] 26))) := hdn ((Below.refl _ _).alloc (Nat.le_refl _) _)
 have HX := hdn (prog_box w sv_ gv (.slice s.p s.l.length s.cap))
 have HPS : Hid (pcsLie (w.alloc (.cells #[sv_, gv, .slice s.p s.l.length s.cap] 26)) s) := hdn (pcsLie_below h HBA.out)
 have HP := hdn hP
 have HLL : Hid (s.l.length ≤ 1000) := hdn hP.len
 have hl' : (s.l.length : Int) ≤ 1000 := by have := hP.len; omega
 have HCY := rcycle_any sv_ gv s _ HPS.out hP
 obtain ⟨ir, hir, hz0, hz1, hz2⟩ := info_parts info4
 have HIR := hdn (And.intro hir (And.intro hz0 (And.intro hz1 hz2)))
 clear h hP hir hz0 hz1 hz2
 by_cases hcy : ∃ i, i < s.l.length ∧ Rt (web s.l) i i
 ·have HC := hdn hcy
  have HCC : Hid (Calls Tryz.prog 7 #[.agg #[sv_, gv, .slice s.p s.l.length s.cap]] (w.alloc (.cells #[sv_, gv, .slice s.p s.l.length s.cap] 26)) fun e w' => (∃ a, e = .returned (.tuple #[.int .i64 a, .int .i64 10])) ∧ Below (w.alloc (.cells #[sv_, gv, .slice s.p s.l.length s.cap] 26)).heap.size (w.alloc (.cells #[sv_, gv, .slice s.p s.l.length s.cap] 26)) w') := hdn (HCY.mono (by
   rintro e w' ⟨a, er, rfl, hp, hb⟩
   rcases hp with ⟨_, _, h1⟩ | ⟨rfl, _⟩
   ·obtain ⟨i, h2, h3⟩ := hcy
    exact absurd h3 (h1 i h2)
   ·exact ⟨⟨a, rfl⟩, hb⟩))
  clear HCY hcy
  go_enter Tryz.func12, Tryz.ntmps12
  go_wp2_with (go_at_call 7; refine (HCC.out).mono ?_; rintro en w2 ⟨⟨a, rfl⟩, hb⟩; have HB2 := hdn hb; clear hb)
  go_ret
  exact ⟨_, rfl, HBA.out.trans (HB2.out.mono HBA.out.size), .inl ⟨HC.out, rfl⟩⟩
 ·have hnc : ∀ i, i < s.l.length → ¬ Rt (web s.l) i i := fun i h1 h2 => hcy ⟨i, h1, h2⟩
  have HC := hdn hnc
  have HCC : Hid (Calls Tryz.prog 7 #[.agg #[sv_, gv, .slice s.p s.l.length s.cap]] (w.alloc (.cells #[sv_, gv, .slice s.p s.l.length s.cap] 26)) fun e w' => e = .returned (.tuple #[.int .i64 0, .int .i64 0]) ∧ Below (w.alloc (.cells #[sv_, gv, .slice s.p s.l.length s.cap] 26)).heap.size (w.alloc (.cells #[sv_, gv, .slice s.p s.l.length s.cap] 26)) w') := hdn (HCY.mono (by
   rintro e w' ⟨a, er, rfl, hp, hb⟩
   rcases hp with ⟨rfl, rfl, _⟩ | ⟨_, i, x, h1, h2, _⟩
   ·exact ⟨rfl, hb⟩
   ·exact absurd h2 (hnc i (List.getElem?_eq_some_iff.1 h1).1)))
  clear HCY hcy hnc
  go_enter Tryz.func12, Tryz.ntmps12
  go_wp2_with (first | (go_at_call 7; refine (HCC.out).mono ?_; rintro en w2 ⟨rfl, hb⟩; have HB2 := hdn hb; have c2 := (HX.out.below hb HX.out.lt).cell 2; simp only [List.getElem?_toArray, List.getElem?_cons_zero, List.getElem?_cons_succ] at c2; clear hb) | (at_make; refine wpList_make_row _ rfl _ _ 48 rfl 4 ir (.bool false) Tryz.underlying48 HIR.out.1 HIR.out.2.1 HIR.out.2.2.1 rfl .i64 .i64 s.l.length rfl rfl (by rw [HIR.out.2.2.2]; have := HLL.out; omega) (by have := HLL.out; omega) ?_))
  have HD3 := hdn (Dn.start w2 s.l.length)
  have HX2 : Hid (Bk w2 w.heap.size 26 #[sv_, gv, .slice s.p s.l.length s.cap]) := hdn (HX.out.below HB2.out HX.out.lt)
  have HPS2 : Hid (pcsLie w2 s) := hdn (pcsLie_below HPS.out HB2.out)
  have HBW : Hid (Below w.heap.size w w2) := hdn (HBA.out.trans (HB2.out.mono HBA.out.size))
  have HIN := hdn (web_inR HP.out)
  have HWL := hdn (web_len s.l)
  generalize w2.alloc (.cells (madeCells #[.bool false] s.l.length) 4) = w3 at HD3 ⊢
  obtain ⟨db, hdb⟩ : ∃ db, db = w2.heap.size := ⟨_, rfl⟩
  have HDB := hdn hdb
  rw [← hdb] at HD3 ⊢
  have HBX := hdn HX2.out.lt
  generalize w.heap.size = bx at HX2 HBX ⊢
  clear hdb c2 HX HPS HBA HB2 HIR HCC
  go_loopw [5, 7, 8, 9, 10] (fun so s7 s8 s9 s10 wr => ∃ (os : List Int) (ao : Option Addr) (co : Nat) (ds : List Bool), so = .slice ao os.length co ∧ Hid (Dn w2 wr db s.l.length (.slice ao os.length co) ds os) ∧ Hid (Told (web s.l) os)) (fun so _ _ _ _ _ => s.l.length - slen so)
  case atStart => exact ⟨[], _, _, _, rfl, HD3, hdn .nil⟩
  case round =>
   clear HD3
   obtain ⟨os, ao, co, ds, rfl, HD, HTO⟩ := hrel
   have HB := hdn HD.out.bel
   have hbk : Bk wr bx 26 #[sv_, gv, .slice s.p s.l.length s.cap] := HX2.out.below HB.out (by rw [HDB.out]; exact HBX.out)
   have b2 : wr.cell? ⟨bx, 2, none⟩ = some (.slice s.p s.l.length s.cap) := hbk.cell 2
   clear hbk
   have hol : os.length ≤ s.l.length := by have := told_len HTO.out; rwa [HWL.out] at this
   have hol' : (os.length : Int) ≤ 1000 := by omega
   by_cases hful : os.length < s.l.length
   ·have HRY := hdn (ready_of HIN.out (by rw [HWL.out]; exact hful) (by rw [HWL.out]; exact HC.out))
    go_wp2_with fail
    go_loopw [5, 7, 8, 9, 10] (fun so si s8 s9 s10 wr => ∃ (i : Nat), so = .slice ao os.length co ∧ si = .int .i64 i ∧ i ≤ s.l.length ∧ Hid (∀ k, k < i → ¬ Rdy (web s.l) os k) ∧ Hid (Dn w2 wr db s.l.length (.slice ao os.length co) ds os)) (fun _ si _ _ _ _ => s.l.length - (Lib.intOf si).toNat)
    case atStart => exact ⟨0, rfl, rfl, Nat.zero_le _, hdn (by intro k hk; omega), HD⟩
    case round =>
     clear HD HB b2
     obtain ⟨i, rfl, rfl, hi, HNO, HD⟩ := hrel
     have HB := hdn HD.out.bel
     have hbk : Bk wr bx 26 #[sv_, gv, .slice s.p s.l.length s.cap] := HX2.out.below HB.out (by rw [HDB.out]; exact HBX.out)
     have b0 : wr.cell? ⟨bx, 0, none⟩ = some sv_ := hbk.cell 0
     have b1 : wr.cell? ⟨bx, 1, none⟩ = some gv := hbk.cell 1
     have b2 : wr.cell? ⟨bx, 2, none⟩ = some (.slice s.p s.l.length s.cap) := hbk.cell 2
     clear hbk
     by_cases hlt : i < s.l.length
     ·obtain ⟨x, hx⟩ : ∃ x, s.l[i]? = some x := ⟨_, List.getElem?_eq_getElem hlt⟩
      have HXA := hdn (web_at hx)
      have HCA := hdn (called_any sv_ gv s i x wr (pcsLie_below HPS2.out (HDB.out ▸ HB.out)) HP.out hx)
      have HRB : Hid (rb os i (calls s.l x) = true ↔ Rdy (web s.l) os i) := hdn (by rw [← HXA.out]; exact rb_rdy (by rw [HWL.out]; exact hlt))
      have HXR : Hid (∀ e ∈ calls s.l x, ∃ c : Nat, e = (c : Int) ∧ c < s.l.length) := hdn (by
       intro e he
       rw [← HXA.out] at he
       have h1 := inr_at HIN.out he
       rw [HWL.out] at h1
       exact ⟨e.toNat, by omega, by omega⟩)
      have HXL : Hid ((calls s.l x).length ≤ 10000) := hdn ((web_in HP.out _ (List.mem_map.2 ⟨x, List.mem_of_getElem? hx, rfl⟩)).1)
      have hdi := HD.out.cell hlt
      have hlt' : (i : Int) < (s.l.length : Int) := by omega
      have HR0 : Hid ((!os.contains (i : Int)) = rb os i ((calls s.l x).take 0)) := hdn (by simp [rb])
      clear hx HXA
      generalize calls s.l x = xs at *
      have hxl' : (xs.length : Int) ≤ 10000 := by have := HXL.out; omega
      generalize os.contains (i : Int) = oi at hdi HR0
      go_wp2_with (go_at_call 23; refine (HCA.out).mono ?_; rintro en w4 ⟨v4, rfl, ho, hb⟩; have HO4 := hdn ho; have HD4 := hdn (HD.out.below hb); obtain ⟨a4, c4, rfl⟩ := ho.shape; clear ho hb)
      have HR1 : Hid (Value.bool (!oi) = .bool (rb os i (xs.take 0))) := hdn (by rw [HR0.out])
      clear HR0 hdi b0 b1 b2
      go_loopw [8, 10] (fun s8 sj wr => ∃ (j : Nat), sj = .int .i64 j ∧ j ≤ xs.length ∧ s8 = .bool (rb os i (xs.take j)) ∧ wr = w4) (fun _ sj _ => xs.length - (Lib.intOf sj).toNat)
      case atStart => exact ⟨0, rfl, Nat.zero_le _, HR1.out, rfl⟩
      case round =>
       clear HR1
       obtain ⟨j, rfl, hj, rfl, rfl⟩ := hrel
       by_cases hjl : j < xs.length
       ·obtain ⟨g4, c4', hsh, _⟩ := HO4.out.block (by omega)
        injection hsh with e1 e2 e3
        subst e1; subst e3
        have hcx := HO4.out.cell j hjl
        obtain ⟨t, ht, htl⟩ := HXR.out (fn xs j) (by rw [fn_get xs j hjl]; exact List.getElem_mem hjl)
        rw [ht] at hcx
        have HRS : Hid (rb os i (xs.take (j + 1)) = (rb os i (xs.take j) && os.contains (t : Int))) := hdn (by
         rw [take_snocL (List.getElem?_eq_getElem hjl), rb_snoc, ← fn_get xs j hjl, ht])
        have hdt := HD4.out.cell htl
        have htl' : (t : Int) < (s.l.length : Int) := by omega
        generalize os.contains (t : Int) = ot at hdt HRS
        clear ht e2
        rcases hb : rb os i (xs.take j) with _ | _
        ·rw [hb] at HRS
         have HRT : Hid (Value.bool false = .bool (rb os i (xs.take (j + 1)))) := hdn (by rw [HRS.out]; rfl)
         clear hb
         go_wp2_with fail
         go_roundw
         case rel => exact ⟨j + 1, by go_num, by omega, HRT.out, trivial⟩
         case measure => simp [Lib.intOf]; omega
        ·rw [hb] at HRS
         have HRT : Hid (Value.bool ot = .bool (rb os i (xs.take (j + 1)))) := hdn (by rw [HRS.out]; simp)
         clear hb
         go_wp2_with fail
         go_roundw
         case rel => exact ⟨j + 1, by go_num, by omega, HRT.out, trivial⟩
         case measure => simp [Lib.intOf]; omega
       ·have HJE : Hid (xs.take j = xs) := hdn (List.take_of_length_le (by omega))
        rcases hb : rb os i (xs.take j) with _ | _
        ·have HNN : Hid (∀ k, k < i + 1 → ¬ Rdy (web s.l) os k) := hdn (by
          intro k hk
          by_cases h1 : k = i
          ·subst h1
           intro h2
           have h3 := HRB.out.2 h2
           rw [HJE.out] at hb
           rw [hb] at h3
           cases h3
          ·exact HNO.out k (by omega))
         clear hb
         go_wp2_with fail
         go_roundw
         case rel => exact ⟨i + 1, rfl, by go_num, by omega, HNN, HD4⟩
         case measure => simp [Lib.intOf]; omega
        ·have HTN : Hid (Told (web s.l) (os ++ [(i : Int)])) := hdn (.snoc os i HTO.out (HRB.out.1 (by rw [HJE.out] at hb; exact hb)) (by
          intro k hk
          apply Classical.byContradiction
          intro h1
          exact HNO.out k (by omega) hk))
         clear hb
         have hdi := HD4.out.cell hlt
         have hdf := HD4.out.blk.frozen i
         have HOS : Hid (OR (wr.setCell ⟨db, i, none⟩ (.bool true)) (db + 1) (.slice ao os.length co) os) := hdn (own_par HD4.out.ord (grownBy_setC wr ⟨db, i, none⟩ (.bool true)) (Nat.lt_succ_self _))
         have HSE : Hid ((wr.setCell ⟨db, i, none⟩ (.bool true)).heap.size = wr.heap.size) := hdn (by simp [World.setCell])
         have HSS : Hid (db + 1 ≤ (wr.setCell ⟨db, i, none⟩ (.bool true)).heap.size) := hdn (by have h9 := HD4.out.blk.lt; simp [World.setCell]; omega)
         go_wp2_with ((with_reducible show wpList _ _ _ (Oper.mk (some 66) _ _ _ _ _ :: _) _ _); (refine wpList_app_int rfl 33 und33 (.tmp 63) (.tmp 65) rfl (db + 1) os (.slice ao os.length co) rfl HOS.out HSS.out (i : Int) (by rw [HSE.out]; rfl) (by have := HLL.out; omega) ?_; intro v' w5 hO hsh hg hto; have HD5 := hdn (HD4.out.take hlt hO hg); obtain ⟨g5, c5, rfl⟩ := hsh; clear hO hg hto))
         go_roundw
         case rel => exact ⟨os ++ [(i : Int)], _, _, _, by rw [List.length_append]; rfl, hdn (by rw [List.length_append]; exact HD5.out), HTN⟩
         case measure => simp [slen]; omega
     ·exfalso
      obtain ⟨k, hk⟩ := HRY.out
      exact HNO.out k (by have := hk.1; rw [HWL.out] at this; omega) hk
   ·have HOE : Hid (os.length = s.l.length) := hdn (by omega)
    go_wp2_with fail
    go_ret
    exact ⟨_, rfl, HBW.out.trans (HB.out.mono (by rw [HDB.out]; exact HBW.out.size)), .inr ⟨HC.out, os, HTO.out, HOE.out, own_down HD.out.ord (by rw [HDB.out]; have := HBW.out.size; omega)⟩⟩
end Go.Proofs.YtmhpaacjioeknaaGreat
namespace Go.Proofs.YtmhpaacjioeknaaGreat
open Go.RowKit Go.Maps Go.Sort Go.WideMaps
theorem uq_mem (y : ByteArray) : ∀ (xs out : List ByteArray), y ∈ uq out xs ↔ y ∈ out ∨ y ∈ xs
 | [], out => by simp [uq]
 | x :: xs, out => by
  rw [uq, uq_mem y xs]
  by_cases hx : YtmhpaacjioeknaaGreat.has out x = true
  ·rw [if_pos hx]
   have hm : x ∈ out := by
    unfold YtmhpaacjioeknaaGreat.has at hx
    rw [List.any_eq_true] at hx
    obtain ⟨z, hz, he⟩ := hx
    have h1 : z = x := by
     unfold eqs at he
     have h2 := eq_of_beq he
     first
      | exact h2
      | exact ByteArray.ext (Array.toList_inj.1 h2)
      | (rw [toList_data, toList_data] at h2; exact ByteArray.ext (Array.toList_inj.1 h2))
    rw [← h1]; exact hz
   constructor
   ·rintro (h | h)
    ·exact .inl h
    ·exact .inr (by simp [h])
   ·rintro (h | h)
    ·exact .inl h
    ·rcases List.mem_cons.1 h with rfl | h
     ·exact .inl hm
     ·exact .inr h
  ·rw [if_neg hx]
   simp only [List.mem_append, List.mem_cons, List.not_mem_nil, or_false]
   constructor
   ·rintro ((h | h) | h)
    ·exact .inl h
    ·exact .inr (.inl h)
    ·exact .inr (.inr h)
   ·rintro (h | h | h)
    ·exact .inl (.inl h)
    ·exact .inl (.inr h)
    ·exact .inr h
theorem cal_mem (ns : List ByteArray) {y : ByteArray} (hi : isIn ns y = true) : ∀ {l : List ByteArray}, y ∈ l → (plc ns y : Int) ∈ cal ns l
 | [], h => by cases h
 | x :: r, h => by
  rw [cal, List.mem_append]
  rcases List.mem_cons.1 h with rfl | h
  ·left; rw [if_pos hi]; simp
  ·exact .inr (cal_mem ns hi h)
/-- A body's callees stand ahead of it: none is itself. -/
theorem callee_ne {l : List Pc} {os : List Int} (h : Told (web l) os) {k : Nat} (hk : (k : Int) ∈ os) {x : Pc} (hx : l[k]? = some x) {y : ByteArray} (hy : y ∈ x.body.every) (hi : isIn (nms l) y = true) : plc (nms l) y ≠ k := by
 intro e
 have h1 : (plc (nms l) y : Int) ∈ (web l).getD k [] := by
  rw [web_at hx]
  exact cal_mem _ hi ((uq_mem y _ _).2 (.inr hy))
 have h2 := told_ahead h k hk _ h1
 rw [e] at h2
 omega
theorem capp_min {a b : Int} (_ : 0 ≤ a) : min 1073741824 (a + b) = capp a b := by
 unfold capp
 split <;> omega
theorem pay_take {ns : List ByteArray} {cs : List Int} {l : List ByteArray} {j : Nat} {y : ByteArray} (h : l[j]? = some y) (a : Int) : payAll ns cs (l.take (j + 1)) a = payN ns cs y (payAll ns cs (l.take j) a) := by
 rw [take_snocL h, payAll_append]; rfl
/-- What the document's Cost answers. -/
def RCost (l : List Pc) (v : Int) : Prop :=
 if isIn (nms l) mainB = true then ((∃ i, i < l.length ∧ Rt (web l) i i) ∧ v = 0) ∨ ((∀ i, i < l.length → ¬ Rt (web l) i i) ∧ ∃ os, Told (web l) os ∧ os.length = l.length ∧ v = fn (pays l os (List.replicate l.length 0)) (plc (nms l) mainB)) else v = 0
def RCPost (l : List Pc) (w w' : World) (v : Int) : Prop := RCost l v ∧ Below w.heap.size w w'
/-- Both tell the same. -/
theorem costs_alike {l : List Pc} (hP : PsOk l) {a b : Int} (ha : CostIs l a) (hb : RCost l b) : a = b := by
 unfold CostIs at ha
 unfold RCost at hb
 by_cases hm : isIn (nms l) mainB = true
 ·rw [if_pos hm] at ha hb
  obtain ⟨os, ht, hr, ha⟩ := ha
  have hle := told_len ht
  rw [web_len] at hle
  have hz : fn (List.replicate l.length (0 : Int)) (plc (nms l) mainB) = 0 := by
   unfold fn
   rw [List.getD_eq_getElem?_getD, List.getElem?_replicate]
   split <;> rfl
  rcases hb with ⟨⟨i, hi, hri⟩, hb⟩ | ⟨hno, qs, hq, hql, hb⟩
  ·have hlt : os.length < l.length := by
    apply Classical.byContradiction
    intro h
    exact told_all ht (by rw [web_len]; omega) i (by rw [web_len]; exact hi) hri
   rw [if_pos hlt] at ha
   rw [ha, hb]; exact hz
  ·have hfl : ¬ os.length < l.length := by
    intro h
    obtain ⟨k, hk⟩ := ready_of (os := os) (web_inR hP) (by rw [web_len]; exact h) (by rw [web_len]; exact hno)
    exact hr k hk
   rw [if_neg hfl] at ha
   have h1 := told_one ht hq (by omega)
   rw [List.take_of_length_le (by omega)] at h1
   rw [ha, hb, h1]
 ·rw [if_neg hm] at ha hb
  rw [ha, hb]
/-- While the document's costs are told. -/
structure Rc (W w : World) (cb n : Nat) (cs : List Int) : Prop where
 bel : Below cb W w
 blk : Bk w cb 3 (cs.map iv).toArray
 len : cs.length = n
theorem Rc.below {W w w' : World} {cb n : Nat} {cs : List Int} (h : Rc W w cb n cs) (hb : Below w.heap.size w w') : Rc W w' cb n cs :=
 ⟨h.bel.trans (hb.mono (Nat.le_of_lt h.blk.lt)), h.blk.below hb h.blk.lt, h.len⟩
theorem Rc.cell {W w : World} {cb n : Nat} {cs : List Int} (h : Rc W w cb n cs) {c : Nat} (hc : c < n) : w.cell? ⟨cb, c, none⟩ = some (.int .i64 (fn cs c)) := by
 have hl : c < cs.length := by rw [h.len]; exact hc
 rw [h.blk.cell]
 simp only [List.getElem?_toArray, List.getElem?_map, List.getElem?_eq_getElem hl, Option.map_some]
 rw [fn_get cs c hl]; rfl
theorem Rc.put {W w : World} {cb n : Nat} {cs : List Int} (h : Rc W w cb n cs) (c : Nat) (x : Int) : Rc W (w.setCell ⟨cb, c, none⟩ (.int .i64 x)) cb n (cs.set c x) := by
 refine ⟨below_set h.bel _ _ (Nat.le_refl _), ?_, by rw [List.length_set]; exact h.len⟩
 have h1 := h.blk.set_ c (.int .i64 x)
 rw [List.setIfInBounds_toArray] at h1
 rw [List.map_set]
 exact h1
theorem Rc.start (w : World) (n : Nat) : Rc w (w.alloc (.cells (madeCells #[.int .i64 0] n) 3)) w.heap.size n (List.replicate n 0) := by
 refine ⟨(Below.refl _ _).alloc (Nat.le_refl _) _, ?_, by simp⟩
 have h1 : madeCells #[.int .i64 0] n = ((List.replicate n (0 : Int)).map iv).toArray := by
  apply Array.ext'
  rw [toList_madeCells_one, List.map_replicate]; rfl
 rw [← h1]; exact heap_alloc_new w _
end Go.Proofs.YtmhpaacjioeknaaGreat
namespace Go.Proofs.YtmhpaacjioeknaaGreat
open Go.RowKit Go.Maps Go.Sort Go.WideMaps
end Go.Proofs.YtmhpaacjioeknaaGreat
namespace Go.Proofs.YtmhpaacjioeknaaGreat
open Go.RowKit Go.Maps Go.Sort Go.WideMaps
/-- No part of a program is huge. -/
structure PgBd (x : Pg) : Prop where
 sn : x.structs.l.length ≤ 1048576
 st : ∀ r ∈ x.structs.l, r.fields.l.length ≤ 1048576 ∧ r.name.size ≤ 1048576
 gn : x.globals.l.length ≤ 1048576
 pn : x.procs.l.length ≤ 1048576
 pt : ∀ p ∈ x.procs.l, p.params.l.length ≤ 1048576 ∧ p.locals_.l.length ≤ 1048576
/-- What small says where it says yes. -/
def SmallOk (m : List Pc) : Prop := m.length ≤ 1000 ∧ ∀ (k : Nat) (p : Pc), m[k]? = some p → wt p.body 0 ≤ 1000
theorem small_any (x : Pg) (w : World) (rx : pgLies w x) (hB : PgBd x) : Calls Tryz.prog 13 #[.agg #[.slice x.structs.p x.structs.l.length x.structs.cap, .slice x.globals.p x.globals.l.length x.globals.cap, .slice x.procs.p x.procs.l.length x.procs.cap]] w fun e w' => ∃ b : Bool, e = .returned (.bool b) ∧ Below w.heap.size w w' ∧ Hid (b = true → SmallOk x.procs.l) := by
 have ha : Below w.heap.size w (w.alloc (.cells #[.slice x.structs.p x.structs.l.length x.structs.cap, .slice x.globals.p x.globals.l.length x.globals.cap, .slice x.procs.p x.procs.l.length x.procs.cap] 26)) := (Below.refl _ _).alloc (Nat.le_refl _) _
 have K : ∀ w', Below (w.alloc (.cells #[.slice x.structs.p x.structs.l.length x.structs.cap, .slice x.globals.p x.globals.l.length x.globals.cap, .slice x.procs.p x.procs.l.length x.procs.cap] 26)).heap.size (w.alloc (.cells #[.slice x.structs.p x.structs.l.length x.structs.cap, .slice x.globals.p x.globals.l.length x.globals.cap, .slice x.procs.p x.procs.l.length x.procs.cap] 26)) w' → w'.cell? ⟨w.heap.size, 0, none⟩ = some (.slice x.structs.p x.structs.l.length x.structs.cap) ∧ w'.cell? ⟨w.heap.size, 2, none⟩ = some (.slice x.procs.p x.procs.l.length x.procs.cap) := fun w' hb =>
  ⟨(hb.cell (p := ⟨w.heap.size, 0, none⟩) (by simp)).trans (cell_of_row _ _ 0 _ _ _ (heap_alloc_new w _)), (hb.cell (p := ⟨w.heap.size, 2, none⟩) (by simp)).trans (cell_of_row _ _ 2 _ _ _ (heap_alloc_new w _))⟩
 have h1 := rx.1
 have h2 := rx.2.2
 have hg := hB.gn
 have HSB := hdn hB.st
 have HPB := hdn hB.pt
 have hsn := hB.sn
 have hpn := hB.pn
 obtain ⟨hl1, h1⟩ := h1
 obtain ⟨hl2, h2⟩ := h2
 have HA := hdn ha
 have HK := hdn K
 have H1 := hdn h1
 have H2 := hdn h2
 clear ha K h1 h2 rx hB
 generalize x.structs.l = l at *
 generalize x.procs.l = m at *
 generalize x.structs.p = p1 at *
 generalize x.procs.p = p2 at *
 generalize x.structs.cap = c1 at *
 generalize x.procs.cap = c2 at *
 generalize x.globals.l = gl at *
 generalize x.globals.p = gp at *
 generalize x.globals.cap = gc at *
 go_enter Tryz.func13, Tryz.ntmps13
 go_wp2_with fail
 generalize (w.alloc (.cells #[.slice p1 l.length c1, .slice gp gl.length gc, .slice p2 m.length c2] 26)) = wA at HA HK ⊢
 go_loopw [3, 4] (fun v i wr => ∃ (k : Nat) (n : Int), i = .int .i64 k ∧ k ≤ l.length ∧ v = .int .i64 n ∧ (m.length : Int) ≤ n ∧ n ≤ 3145728 + 2097152 * (k : Int) ∧ Hid (Below wA.heap.size wA wr)) (fun _ i _ => l.length - (intOf i).toNat)
 case atStart => exact ⟨0, _, rfl, Nat.zero_le _, rfl, by omega, by omega, hdn (Below.refl _ _)⟩
 case round =>
  obtain ⟨k, n, rfl, hk, rfl, hn1, hn2, HB⟩ := hrel
  have hm0 : (0 : Int) ≤ (m.length : Int) := Int.natCast_nonneg _
  have hlk : (k : Int) ≤ 1048576 := by omega
  obtain ⟨ka, kb⟩ := HK.out wr HB.out
  have HBW : Hid (Below w.heap.size w wr) := hdn (HA.out.trans (HB.out.mono HA.out.size))
  by_cases hkl : k < l.length
  ·obtain ⟨b1, o1, hp1, h1x⟩ : ∃ b o, p1 = some ⟨b, o, none⟩ ∧ ∀ k x, l[k]? = some x → w.rangeAt b (o + k * 3) (Sr.cells x) ∧ declsLie w x.fields := by
    rcases H1.out with h | h
    ·rw [h] at hkl; simp at hkl
    ·exact h
   subst hp1
   have hx1 := h1x k l[k] (List.getElem?_eq_getElem hkl)
   have cx0 := cell_at (rangeAt_below hx1.1 HBW.out) 0 _ rfl
   have cx2 := cell_at (rangeAt_below hx1.1 HBW.out) 2 _ rfl
   rw [Nat.add_zero] at cx0
   have hk0 : (0 : Int) ≤ (k : Int) := Int.natCast_nonneg _
   have hk1 : (k : Int) < (l.length : Int) := by omega
   obtain ⟨hs1, hs2⟩ := HSB.out l[k] (List.getElem_mem hkl)
   generalize l[k] = xk at hx1 cx0 cx2 hs1 hs2
   have hs1' : (xk.fields.l.length : Int) ≤ 1048576 := by omega
   have hs2' : (xk.name.size : Int) ≤ 1048576 := by omega
   clear h1x hx1
   go_wp2_with fail
   go_quiet (fail)
   go_wp2_with fail
   go_roundw
   case rel => exact ⟨k + 1, _, by go_num, by omega, rfl, by omega, by omega, hdn (below_drewN_ HB.out _)⟩
   case measure => simp [intOf]; omega
  ·go_wp2_with fail
   obtain ⟨wo, rfl⟩ : ∃ wo : World, wo = wr := ⟨_, rfl⟩
   go_loopw [3, 5] (fun v i wr => ∃ (k : Nat) (n : Int), i = .int .i64 k ∧ k ≤ m.length ∧ v = .int .i64 n ∧ (m.length : Int) ≤ n ∧ n ≤ 2199026401280 + 2100000 * (k : Int) ∧ Hid (∀ (j : Nat) (p : Pc), j < k → m[j]? = some p → wt p.body 0 ≤ n) ∧ Hid (Below wA.heap.size wA wr)) (fun _ i _ => m.length - (intOf i).toNat)
   case atStart => exact ⟨0, _, rfl, Nat.zero_le _, rfl, hn1, by omega, hdn (by intro j p hj; omega), HB⟩
   case round =>
    clear ka kb hkl hk HBW
    clear hn1 hn2 hlk
    obtain ⟨k, n, rfl, hk, rfl, hn1, hn2, HWT, HC⟩ := hrel
    have hlk : (k : Int) ≤ 1048576 := by omega
    obtain ⟨ka, kb⟩ := HK.out wr HC.out
    have HBW : Hid (Below w.heap.size w wr) := hdn (HA.out.trans (HC.out.mono HA.out.size))
    by_cases hkl : k < m.length
    ·obtain ⟨b2, o2, hp2, h2x⟩ : ∃ b o, p2 = some ⟨b, o, none⟩ ∧ ∀ k x, m[k]? = some x → w.rangeAt b (o + k * 6) (Pc.cells x) ∧ pcLies w x := by
      rcases H2.out with h | h
      ·rw [h] at hkl; simp at hkl
      ·exact h
     subst hp2
     have hx1 := h2x k m[k] (List.getElem?_eq_getElem hkl)
     have lx3 := cell_regrown (cell_at (rangeAt_below hx1.1 HBW.out) 3 _ rfl)
     have lx4 := cell_regrown (cell_at (rangeAt_below hx1.1 HBW.out) 4 _ rfl)
     have lx5 := cell_regrown (cell_at (rangeAt_below hx1.1 HBW.out) 5 _ rfl)
     have qb := cell_regrown kb
     have hk0 : (0 : Int) ≤ (k : Int) := Int.natCast_nonneg _
     have hk1 : (k : Int) < (m.length : Int) := by omega
     obtain ⟨hs1, hs2⟩ := HPB.out m[k] (List.getElem_mem hkl)
     have HMK : Hid (m[k]? = some m[k]) := hdn (List.getElem?_eq_getElem hkl)
     generalize m[k] = xk at hx1 lx3 lx4 lx5 hs1 hs2 HMK
     have hs1' : (xk.params.l.length : Int) ≤ 1048576 := by omega
     have hs2' : (xk.locals_.l.length : Int) ≤ 1048576 := by omega
     have hw1 := wt_nonneg xk.body 0
     have hw2 := wt_le xk.body 0
     have CV : ∀ dd os, Calls Tryz.prog 24 #[.slice xk.bp xk.body.len xk.bc, .int .i64 0] (grow (redrawn wr dd) os) fun en w'' => en = .returned (.int .i64 (wt xk.body 0)) ∧ ∃ p : Regrown, w'' = grow (redrawn wr p.d) p.os :=
      fun dd os => Calls.regrown_of (weight_any xk.body xk.bp xk.bc 0 _ (Int.le_refl _) (by omega) (sLies_below (sLies_below hx1.2.2.2 HBW.out) (below_regrown _ _ _)))
     have HWB : Hid (∀ (p : Pc), m[k]? = some p → wt p.body 0 = wt xk.body 0) := hdn (by intro p hp; rw [HMK.out] at hp; injection hp with hp; rw [hp])
     generalize wt xk.body 0 = wb at CV hw1 hw2 HWB
     clear h2x hx1
     go_wp2_with fail
     refine wp_region_quiet_below (by kernel_rfl) (by kernel_rfl) ?_
     repeat (go_big_quiet_step (with_reducible exact CV _ _))
     refine wpQuiet_nil ?_
     intro _ hw'
     obtain ⟨⟨dq, osq⟩, hw''⟩ := hw'
     subst hw''
     have HB3 := hdn (below_regrown wr dq osq)
     generalize grow (redrawn wr dq) osq = w3 at HB3 ⊢
     go_wp2_with fail
     go_roundw
     case rel => exact ⟨k + 1, _, by go_num, by omega, rfl, by omega, by omega, hdn (by
      intro j p hj hp
      by_cases h9 : j = k
      ·subst h9; have := HWB.out p hp; omega
      ·have := HWT.out j p (by omega) hp; omega), hdn (HC.out.trans (HB3.out.mono HC.out.size))⟩
     case measure => simp [intOf]; omega
    ·go_wp2_with fail
     all_goals
      go_ret
      refine ⟨_, rfl, HBW.out, hdn fun h9 => ?_⟩
      have h8 := of_decide_eq_true h9
      exact ⟨by omega, fun j p hj => by
       have := HWT.out j p (by have := (List.getElem?_eq_some_iff.1 hj).1; omega) hj
       omega⟩
end Go.Proofs.YtmhpaacjioeknaaGreat
namespace Go.Proofs.YtmhpaacjioeknaaGreat
open Go.RowKit Go.Maps Go.Sort Go.WideMaps
def FewPost (x : Pg) (w w' : World) (b : Bool) : Prop := Below w.heap.size w w' ∧ (b = true → SmallOk x.procs.l)
theorem prog_regrown {w : World} {g : Nat} {x y z : Value} (h : Bk w g 26 #[x, y, z]) (d : Nat) (os : Array Obj) : (grow (redrawn w d) os).cell? ⟨g, 0, none⟩ = some x ∧ (grow (redrawn w d) os).cell? ⟨g, 1, none⟩ = some y ∧ (grow (redrawn w d) os).cell? ⟨g, 2, none⟩ = some z :=
 ⟨cell_regrown (h.cell 0) d os, cell_regrown (h.cell 1) d os, cell_regrown (h.cell 2) d os⟩
theorem few_any (x : Pg) (w : World) (rx : pgLies w x) (hB : PgBd x) : Calls Tryz.prog 4 #[.agg #[.slice x.structs.p x.structs.l.length x.structs.cap, .slice x.globals.p x.globals.l.length x.globals.cap, .slice x.procs.p x.procs.l.length x.procs.cap]] w fun e w' => ∃ b : Bool, e = .returned (.bool b) ∧ FewPost x w w' b := by
 have HBA : Hid (Below w.heap.size w (w.alloc (.cells #[.slice x.structs.p x.structs.l.length x.structs.cap, .slice x.globals.p x.globals.l.length x.globals.cap, .slice x.procs.p x.procs.l.length x.procs.cap] 26))) := hdn ((Below.refl _ _).alloc (Nat.le_refl _) _)
 have HX := hdn (prog_box w (.slice x.structs.p x.structs.l.length x.structs.cap) (.slice x.globals.p x.globals.l.length x.globals.cap) (.slice x.procs.p x.procs.l.length x.procs.cap))
 have HSM := hdn (small_any x (w.alloc (.cells #[.slice x.structs.p x.structs.l.length x.structs.cap, .slice x.globals.p x.globals.l.length x.globals.cap, .slice x.procs.p x.procs.l.length x.procs.cap] 26)) (pgLies_below rx HBA.out) hB)
 clear rx hB
 go_enter Tryz.func4, Tryz.ntmps4
 go_wp2_with fail
 refine (HSM.out).mono ?_
 rintro en w2 ⟨b, rfl, hb, hs⟩
 have HB2 := hdn hb
 have HS2 := hs
 have c2 := (HX.out.below hb HX.out.lt).cell 2
 simp only [List.getElem?_toArray, List.getElem?_cons_zero, List.getElem?_cons_succ] at c2
 clear hb hs
 rcases b with _ | _
 all_goals
  go_wp2_with fail
  go_ret
  first
   | exact ⟨_, rfl, HBA.out.trans (HB2.out.mono HBA.out.size), fun _ => HS2.out rfl⟩
   | exact ⟨_, rfl, HBA.out.trans (HB2.out.mono HBA.out.size), fun _ => HS2.out⟩
   | exact ⟨_, rfl, HBA.out.trans (HB2.out.mono HBA.out.size), fun _ => HS2.out trivial⟩
   | exact ⟨false, rfl, HBA.out.trans (HB2.out.mono HBA.out.size), fun h9 => absurd h9 Bool.false_ne_true⟩
end Go.Proofs.YtmhpaacjioeknaaGreat
namespace Go.Proofs.YtmhpaacjioeknaaGreat.bulks
theorem pos {H : Type} : ∀ d : DataW H, 1 ≤ Rows.uptoBulk d
 | .lit (.bool _) | .lit (.int _ _) | .lit (.float _ _) | .lit (.string _) | .lit .nil => by simp [Rows.uptoBulk]
 | .nil | .ptr _ | .slice _ _ | .agg _ | .iface _ _ | .map _ | .held _ => by simp [Rows.uptoBulk]
theorem part_le {H : Type} {d : DataW H} : ∀ {l : List (DataW H)}, d ∈ l → Rows.uptoBulk d ≤ Rows.uptoBulkAll l
 | x :: r, h => by
  simp only [Rows.uptoBulkAll]
  rcases List.mem_cons.1 h with rfl | h
  ·omega
  ·have := part_le h; omega
theorem len_le {H : Type} : ∀ l : List (DataW H), l.length ≤ Rows.uptoBulkAll l
 | [] => by simp
 | x :: r => by
  have := pos x
  have := len_le r
  simp only [Rows.uptoBulkAll, List.length_cons]; omega
theorem slice_le {H : Type} (es rs : List (DataW H)) : es.length + rs.length + 1 ≤ Rows.uptoBulk (.slice es rs) := by
 have := len_le es
 have := len_le rs
 simp only [Rows.uptoBulk]; omega
theorem slice_elems {H : Type} (es rs : List (DataW H)) : Rows.uptoBulkAll es + 1 ≤ Rows.uptoBulk (.slice es rs) := by
 simp only [Rows.uptoBulk]; omega
end Go.Proofs.YtmhpaacjioeknaaGreat.bulks
namespace Go.Proofs.YtmhpaacjioeknaaGreat.opn
open Go.RowKit Go.Sort
def declsLie (w : World) (s : Sl Dc) : Prop := YtmhpaacjioeknaaGreat.declsLie w s ∧ s.l.length ≤ 1048576
def srLies (w : World) (x : Sr) : Prop := declsLie w x.fields ∧ x.name.size ≤ 1048576
def srsLie (w : World) (s : Sl Sr) : Prop := slLies w 3 48 Sr.cells (srLies w) s ∧ s.l.length ≤ 1048576
def pcLies (w : World) (x : Pc) : Prop := declsLie w x.params ∧ declsLie w x.locals_ ∧ sLies w x.bp x.body ∧ x.name.size ≤ maxLen
def pcsLie (w : World) (s : Sl Pc) : Prop := slLies w 6 104 Pc.cells (pcLies w) s ∧ s.l.length ≤ 1048576
def pgLies (w : World) (p : Pg) : Prop := srsLie w p.structs ∧ declsLie w p.globals ∧ pcsLie w p.procs
theorem chunk {cs c : List Value} {o n m : Nat} (h : (cs.drop o).take n = c) (hm : o + n = m) : cs.drop o = c ++ cs.drop m := by
 rw [← h, ← hm, ← List.drop_drop]; exact (List.take_append_drop n _).symm
theorem choose_lt {α : Type} {n : Nat} {p : Nat → α → Prop} (d : α) (h : ∀ i, i < n → ∃ x, p i x) : ∃ f : Nat → α, ∀ i, i < n → p i (f i) := by
 classical
 exact ⟨fun i => if hi : i < n then (h i hi).choose else d, fun i hi => by simp only [dif_pos hi]; exact (h i hi).choose_spec⟩
section
variable {H : Type} {enc : TypeId × Value → H} {w : World} {base : Nat} {spare : Nat → Bool} {held : Bool}
/-- What a reading weighs is within the reach. -/
def Wt (_ : TypeId) (d : DataW H) : Prop := Rows.uptoBulk d ≤ 1048576
theorem fld {T : TypeId} {fs : Array Field} {fuel : Nat} {cs : List Value} {x : DataW H × List MemPlace} (hu : Tryz.prog.underlying T = some (.struct fs)) (h : DataW.trod enc Tryz.prog w base spare held fuel T cs = some x) (hw : Wt T x.1) :
  ∃ n, fuel = n + 1 ∧ cs.length = Tryz.prog.cellsOf T ∧ ∀ (i t o c : Nat), fs[i]?.map (fun f => (f.type, f.offset)) = some (t, o) → Tryz.prog.cellsOf t = c → ∃ y, DataW.trod enc Tryz.prog w base spare held n t ((cs.drop o).take c) = some y ∧ Wt t y.1 := by
 obtain ⟨xs, n, rfl, rfl, hl, hx, hf⟩ := DataW.trod_struct hu h
 refine ⟨n, rfl, hl, fun i t o c hi0 hc => ?_⟩
 obtain ⟨f, hi, he⟩ := Option.map_eq_some_iff.1 hi0
 injection he with e1 e2
 subst e1; subst e2; subst hc
 have hlt : i < xs.length := by rw [hx]; exact (Array.getElem?_eq_some_iff.1 hi).1
 refine ⟨xs[i], (hf i f hi).trans (List.getElem?_eq_getElem hlt), ?_⟩
 have h1 := bulks.part_le (d := xs[i].1) (l := xs.map (·.1)) (List.mem_map.2 ⟨_, List.getElem_mem _, rfl⟩)
 have h2 : Rows.uptoBulk (DataW.agg (xs.map (·.1))) ≤ 1048576 := hw
 simp only [Rows.uptoBulk] at h2
 unfold Wt
 omega
theorem slice_open {t e : TypeId} {size fuel : Nat} {cs : List Value} {x : DataW H × List MemPlace} (ht : Tryz.prog.underlying t = some (.slice e)) (hc : Tryz.prog.cellsOf e = size) (hs : 0 < size)
  (h : DataW.trod enc Tryz.prog w base spare held fuel t cs = some x) (hw : Wt t x.1) :
  ∃ p len cap, cs = [.slice p len cap] ∧ len ≤ 1048576 ∧ (len = 0 ∨ ∃ b o n, p = some ⟨b, o, none⟩ ∧ n < fuel ∧ ∀ i, i < len → ∃ cs' y, w.rangeAt b (o + i * size) cs' ∧ DataW.trod enc Tryz.prog w base spare held n e cs' = some y ∧ Wt e y.1) := by
 rcases DataW.trod_slice ht h with ⟨rfl, rfl⟩ | ⟨a, len, cap, elems, rest, n, rfl, rfl, rfl, _, _, _, hlen, hel, _, _⟩
 ·exact ⟨none, 0, 0, rfl, by simp, .inl rfl⟩
 ·have h1 := bulks.slice_le (elems.map (·.1)) (rest.map (·.1))
  have h2 := bulks.slice_elems (elems.map (·.1)) (rest.map (·.1))
  have hw' : Rows.uptoBulk (DataW.slice (elems.map (·.1)) (rest.map (·.1))) ≤ 1048576 := hw
  simp only [List.length_map] at h1
  refine ⟨some a, len, cap, rfl, by omega, ?_⟩
  ·by_cases h0 : len = 0
   ·exact .inl h0
   ·have hcells : ∀ i, i < len → ∃ cs', w.cells? base (a.add (i * size)) size = some cs' ∧ DataW.trod enc Tryz.prog w base spare held n e cs' = elems[i]? := fun i hi => by
     have h1 := hel i hi
     rw [hc] at h1
     have hsome : elems[i]? = some (elems[i]'(by omega)) := List.getElem?_eq_getElem (by omega)
     rw [hsome] at h1
     cases hq : w.cells? base (a.add (i * size)) size with
     | none => rw [hq] at h1; simp at h1
     | some cs' => rw [hq] at h1; exact ⟨cs', rfl, by rw [hsome]; simpa using h1⟩
    obtain ⟨c0, hc0, _⟩ := hcells 0 (by omega)
    obtain ⟨_, hl0, hat0⟩ := World.cells?_some hc0
    obtain ⟨b, off, sp⟩ := a
    have hsp : sp = none := by
     have h2 := hat0 0 hs
     have h3 : c0[0]? = some (c0[0]'(by omega)) := List.getElem?_eq_getElem (by omega)
     rw [h3] at h2
     cases sp with
     | none => rfl
     | some s => simp [World.cell?, Addr.add] at h2; split at h2 <;> simp at h2
    subst hsp
    refine .inr ⟨b, off, n, rfl, by omega, fun i hi => ?_⟩
    obtain ⟨cs', hcs, htr⟩ := hcells i hi
    obtain ⟨_, hl, hat⟩ := World.cells?_some hcs
    refine ⟨cs', elems[i]'(by omega), fun j v hj => ?_, by rw [htr]; exact List.getElem?_eq_getElem (by omega), ?_⟩
    ·have hjl : j < size := by rw [← hl]; exact (List.getElem?_eq_some_iff.1 hj).1
     have h4 := hat j hjl
     rw [hj] at h4
     rw [← h4]
     rw [Addr.add_mid, Addr.add_mid]
    ·have h3 := bulks.part_le (d := (elems[i]'(by omega)).1) (l := elems.map (·.1)) (List.mem_map.2 ⟨_, List.getElem_mem _, rfl⟩)
     unfold Wt
     omega
/-- A slice whose items each read. -/
theorem sl_openB {α : Type} (d0 : α) {t e : TypeId} {size bytes fuel : Nat} {cs : List Value} {x : DataW H × List MemPlace} {cells : α → List Value} {R : α → Prop} (ht : Tryz.prog.underlying t = some (.slice e)) (hc : Tryz.prog.cellsOf e = size) (hs : 0 < size) (_ : Tryz.prog.bytesOf e = bytes) (hbb : bytes ≤ 1000)
  (hel : ∀ n cs y, n < fuel → DataW.trod enc Tryz.prog w base spare held n e cs = some y → Wt e y.1 → ∃ v : α, cs = cells v ∧ R v)
  (h : DataW.trod enc Tryz.prog w base spare held fuel t cs = some x) (hw : Wt t x.1) : ∃ s : Sl α, cs = [.slice s.p s.l.length s.cap] ∧ slLies w size bytes cells R s ∧ s.l.length ≤ 1048576 := by
 obtain ⟨p, len, cap, rfl, hl, h2⟩ := slice_open ht hc hs h hw
 rcases h2 with rfl | ⟨b, o, n, rfl, hn, hx⟩
 ·exact ⟨⟨p, cap, []⟩, rfl, ⟨by simp, .inl rfl⟩, Nat.zero_le _⟩
 ·have hx' : ∀ i, i < len → ∃ v : α, w.rangeAt b (o + i * size) (cells v) ∧ R v := fun i hi => by
   obtain ⟨cs', y, h1, h2, h3⟩ := hx i hi
   obtain ⟨v, rfl, hv⟩ := hel n cs' y hn h2 h3
   exact ⟨v, h1, hv⟩
  obtain ⟨f, hf⟩ := choose_lt d0 hx'
  refine ⟨⟨some ⟨b, o, none⟩, cap, (List.range len).map f⟩, by simp, ⟨by
   simp only [List.length_map, List.length_range]
   exact Nat.le_trans (Nat.mul_le_mul hl hbb) (by decide), .inr ⟨b, o, rfl, fun k v hk => ?_⟩⟩, by simpa using hl⟩
  simp only [List.getElem?_map, Option.map_eq_some_iff] at hk
  obtain ⟨j, hj, rfl⟩ := hk
  have hjl := (List.getElem?_eq_some_iff.1 hj)
  obtain ⟨hlt, he⟩ := hjl
  simp only [List.length_range] at hlt
  simp only [List.getElem_range] at he
  subst he
  exact hf k hlt
theorem sl_open {α : Type} (d0 : α) {t e : TypeId} {size bytes fuel : Nat} {cs : List Value} {x : DataW H × List MemPlace} {cells : α → List Value} {R : α → Prop} (ht : Tryz.prog.underlying t = some (.slice e)) (hc : Tryz.prog.cellsOf e = size) (hs : 0 < size) (hb : Tryz.prog.bytesOf e = bytes) (hbb : bytes ≤ 1000)
  (hel : ∀ n cs y, n < fuel → DataW.trod enc Tryz.prog w base spare held n e cs = some y → Wt e y.1 → ∃ v : α, cs = cells v ∧ R v)
  (h : DataW.trod enc Tryz.prog w base spare held fuel t cs = some x) (hw : Wt t x.1) : ∃ s : Sl α, cs = [.slice s.p s.l.length s.cap] ∧ slLies w size bytes cells R s := by
 obtain ⟨s, h1, h2, _⟩ := sl_openB d0 ht hc hs hb hbb hel h hw
 exact ⟨s, h1, h2⟩
theorem cells3 : Tryz.prog.cellsOf 3 = 1 := by kernel_rfl
theorem cells9 : Tryz.prog.cellsOf 9 = 1 := by kernel_rfl
theorem cells4 : Tryz.prog.cellsOf 4 = 1 := by kernel_rfl
theorem cells82 : Tryz.prog.cellsOf 92 = 1 := by kernel_rfl
theorem cells91 : Tryz.prog.cellsOf 101 = 1 := by kernel_rfl
theorem cells47 : Tryz.prog.cellsOf 35 = 1 := by kernel_rfl
theorem cells23 : Tryz.prog.cellsOf 23 = 1 := by kernel_rfl
theorem cells84 : Tryz.prog.cellsOf 94 = 3 := by kernel_rfl
theorem cells86 : Tryz.prog.cellsOf 96 = 3 := by kernel_rfl
theorem cells88 : Tryz.prog.cellsOf 98 = 12 := by kernel_rfl
theorem cells90 : Tryz.prog.cellsOf 100 = 26 := by kernel_rfl
theorem cells93 : Tryz.prog.cellsOf 103 = 48 := by kernel_rfl
theorem cells118 : Tryz.prog.cellsOf 163 = 2 := by kernel_rfl
theorem cells46 : Tryz.prog.cellsOf 72 = 3 := by kernel_rfl
theorem cells44 : Tryz.prog.cellsOf 57 = 3 := by kernel_rfl
theorem cells49 : Tryz.prog.cellsOf 37 = 6 := by kernel_rfl
theorem cells22 : Tryz.prog.cellsOf 22 = 1 := by kernel_rfl
theorem cells24 : Tryz.prog.cellsOf 24 = 1 := by kernel_rfl
theorem cells26 : Tryz.prog.cellsOf 26 = 3 := by kernel_rfl
theorem bytes118 : Tryz.prog.bytesOf 163 = 24 := by kernel_rfl
theorem bytes88 : Tryz.prog.bytesOf 98 = 144 := by kernel_rfl
theorem bytes46 : Tryz.prog.bytesOf 72 = 40 := by kernel_rfl
theorem bytes44 : Tryz.prog.bytesOf 57 = 48 := by kernel_rfl
theorem bytes49 : Tryz.prog.bytesOf 37 = 104 := by kernel_rfl
theorem hop_open {fuel : Nat} {cs : List Value} {x : DataW H × List MemPlace} (h : DataW.trod enc Tryz.prog w base spare held fuel 163 cs = some x) (hw : Wt 163 x.1) :
  ∃ v : Hp, cs = v.cells := by
 obtain ⟨n, rfl, hl, hf⟩ := fld Tryz.underlying163 h hw
 rw [cells118] at hl
 obtain ⟨y0, t0, w0⟩ := hf 0 9 0 _ rfl cells9
 obtain ⟨nm, k0, _, z0⟩ := DataW.trod_string Tryz.underlying9 t0
 obtain ⟨y1, t1, w1⟩ := hf 1 3 1 _ rfl cells3
 obtain ⟨a, k1, _⟩ := DataW.trod_int Tryz.underlying3 t1
 have e : cs.drop 0 = cs.drop 0 := rfl
 conv at e => rhs; rw [chunk k0 (show _ = 1 from rfl), chunk k1 (show _ = 2 from rfl), List.drop_eq_nil_of_le (show cs.length ≤ 2 by omega)]
 exact ⟨⟨nm, a⟩, e⟩
theorem hops_open {fuel : Nat} {cs : List Value} {x : DataW H × List MemPlace} (h : DataW.trod enc Tryz.prog w base spare held fuel 92 cs = some x) (hw : Wt 92 x.1) : ∃ s : Sl Hp, cs = [.slice s.p s.l.length s.cap] ∧ hopsLie w s :=
 sl_open ⟨ByteArray.empty, 0⟩ Tryz.underlying92 cells118 (by decide) bytes118 (by decide) (fun n cs y _ h hw => by obtain ⟨v, hv⟩ := hop_open h hw; exact ⟨v, hv, trivial⟩) h hw
theorem path_open {fuel : Nat} {cs : List Value} {x : DataW H × List MemPlace} (h : DataW.trod enc Tryz.prog w base spare held fuel 94 cs = some x) (hw : Wt 94 x.1) :
  ∃ v : Pth, cs = v.cells ∧ hopsLie w v.hops := by
 obtain ⟨n, rfl, hl, hf⟩ := fld Tryz.underlying94 h hw
 rw [cells84] at hl
 obtain ⟨y0, t0, w0⟩ := hf 0 9 0 _ rfl cells9
 obtain ⟨nm, k0, _, z0⟩ := DataW.trod_string Tryz.underlying9 t0
 obtain ⟨y1, t1, w1⟩ := hf 1 3 1 _ rfl cells3
 obtain ⟨a, k1, _⟩ := DataW.trod_int Tryz.underlying3 t1
 obtain ⟨y2, t2, w2⟩ := hf 2 92 2 _ rfl cells82
 obtain ⟨s, k2, l2⟩ := hops_open t2 w2
 have e : cs.drop 0 = cs.drop 0 := rfl
 conv at e => rhs; rw [chunk k0 (show _ = 1 from rfl), chunk k1 (show _ = 2 from rfl), chunk k2 (show _ = 3 from rfl), List.drop_eq_nil_of_le (show cs.length ≤ 3 by omega)]
 exact ⟨⟨nm, a, s⟩, e, l2⟩
theorem term_open {fuel : Nat} {cs : List Value} {x : DataW H × List MemPlace} (h : DataW.trod enc Tryz.prog w base spare held fuel 96 cs = some x) (hw : Wt 96 x.1) :
  ∃ v : Tm, cs = v.cells ∧ True := by
 obtain ⟨n, rfl, hl, hf⟩ := fld Tryz.underlying96 h hw
 rw [cells86] at hl
 obtain ⟨y0, t0, w0⟩ := hf 0 9 0 _ rfl cells9
 obtain ⟨nm, k0, _, z0⟩ := DataW.trod_string Tryz.underlying9 t0
 obtain ⟨y1, t1, w1⟩ := hf 1 3 1 _ rfl cells3
 obtain ⟨a, k1, _⟩ := DataW.trod_int Tryz.underlying3 t1
 obtain ⟨y2, t2, w2⟩ := hf 2 3 2 _ rfl cells3
 obtain ⟨b, k2, _⟩ := DataW.trod_int Tryz.underlying3 t2
 have e : cs.drop 0 = cs.drop 0 := rfl
 conv at e => rhs; rw [chunk k0 (show _ = 1 from rfl), chunk k1 (show _ = 2 from rfl), chunk k2 (show _ = 3 from rfl), List.drop_eq_nil_of_le (show cs.length ≤ 3 by omega)]
 exact ⟨⟨nm, a, b⟩, e, trivial⟩
theorem value_open {fuel : Nat} {cs : List Value} {x : DataW H × List MemPlace} (h : DataW.trod enc Tryz.prog w base spare held fuel 98 cs = some x) (hw : Wt 98 x.1) :
  ∃ v : Vl, cs = v.cells ∧ vlLies w v := by
 obtain ⟨n, rfl, hl, hf⟩ := fld Tryz.underlying98 h hw
 rw [cells88] at hl
 obtain ⟨y0, t0, w0⟩ := hf 0 3 0 _ rfl cells3
 obtain ⟨a, k0, _⟩ := DataW.trod_int Tryz.underlying3 t0
 obtain ⟨y1, t1, w1⟩ := hf 1 3 1 _ rfl cells3
 obtain ⟨b, k1, _⟩ := DataW.trod_int Tryz.underlying3 t1
 obtain ⟨y2, t2, w2⟩ := hf 2 94 2 _ rfl cells84
 obtain ⟨p, k2, l2⟩ := path_open t2 w2
 obtain ⟨y3, t3, w3⟩ := hf 3 9 5 _ rfl cells9
 obtain ⟨ty, k3, _, z3⟩ := DataW.trod_string Tryz.underlying9 t3
 obtain ⟨y4, t4, w4⟩ := hf 4 96 6 _ rfl cells86
 obtain ⟨l, k4, l4⟩ := term_open t4 w4
 obtain ⟨y5, t5, w5⟩ := hf 5 96 9 _ rfl cells86
 obtain ⟨r, k5, l5⟩ := term_open t5 w5
 have e : cs.drop 0 = cs.drop 0 := rfl
 conv at e => rhs; rw [chunk k0 (show _ = 1 from rfl), chunk k1 (show _ = 2 from rfl), chunk k2 (show _ = 5 from rfl), chunk k3 (show _ = 6 from rfl), chunk k4 (show _ = 9 from rfl), chunk k5 (show _ = 12 from rfl), List.drop_eq_nil_of_le (show cs.length ≤ 12 by omega)]
 exact ⟨⟨a, b, p, ty, l, r⟩, e, l2⟩
theorem args_open {fuel : Nat} {cs : List Value} {x : DataW H × List MemPlace} (h : DataW.trod enc Tryz.prog w base spare held fuel 101 cs = some x) (hw : Wt 101 x.1) : ∃ s : Sl Vl, cs = [.slice s.p s.l.length s.cap] ∧ argsLie w s :=
 sl_open ⟨0, 0, ⟨ByteArray.empty, 0, ⟨none, 0, []⟩⟩, ByteArray.empty, ⟨ByteArray.empty, 0, 0⟩, ⟨ByteArray.empty, 0, 0⟩⟩ Tryz.underlying101 cells88 (by decide) bytes88 (by decide) (fun n cs y _ h hw => value_open h hw) h hw
theorem cond_open {fuel : Nat} {cs : List Value} {x : DataW H × List MemPlace} (h : DataW.trod enc Tryz.prog w base spare held fuel 100 cs = some x) (hw : Wt 100 x.1) :
  ∃ v : Cd, cs = v.cells ∧ vlLies w v.left ∧ vlLies w v.right := by
 obtain ⟨n, rfl, hl, hf⟩ := fld Tryz.underlying100 h hw
 rw [cells90] at hl
 obtain ⟨y0, t0, w0⟩ := hf 0 3 0 _ rfl cells3
 obtain ⟨a, k0, _⟩ := DataW.trod_int Tryz.underlying3 t0
 obtain ⟨y1, t1, w1⟩ := hf 1 3 1 _ rfl cells3
 obtain ⟨b, k1, _⟩ := DataW.trod_int Tryz.underlying3 t1
 obtain ⟨y2, t2, w2⟩ := hf 2 98 2 _ rfl cells88
 obtain ⟨l, k2, l2⟩ := value_open t2 w2
 obtain ⟨y3, t3, w3⟩ := hf 3 98 14 _ rfl cells88
 obtain ⟨r, k3, l3⟩ := value_open t3 w3
 have e : cs.drop 0 = cs.drop 0 := rfl
 conv at e => rhs; rw [chunk k0 (show _ = 1 from rfl), chunk k1 (show _ = 2 from rfl), chunk k2 (show _ = 14 from rfl), chunk k3 (show _ = 26 from rfl), List.drop_eq_nil_of_le (show cs.length ≤ 26 by omega)]
 exact ⟨⟨a, b, l, r⟩, e, l2, l3⟩
theorem decl_open {fuel : Nat} {cs : List Value} {x : DataW H × List MemPlace} (h : DataW.trod enc Tryz.prog w base spare held fuel 72 cs = some x) (hw : Wt 72 x.1) :
  ∃ v : Dc, cs = v.cells ∧ True := by
 obtain ⟨n, rfl, hl, hf⟩ := fld Tryz.underlying72 h hw
 rw [cells46] at hl
 obtain ⟨y0, t0, w0⟩ := hf 0 9 0 _ rfl cells9
 obtain ⟨ty, k0, _, z0⟩ := DataW.trod_string Tryz.underlying9 t0
 obtain ⟨y1, t1, w1⟩ := hf 1 9 1 _ rfl cells9
 obtain ⟨nm, k1, _, z1⟩ := DataW.trod_string Tryz.underlying9 t1
 obtain ⟨y2, t2, w2⟩ := hf 2 3 2 _ rfl cells3
 obtain ⟨a, k2, _⟩ := DataW.trod_int Tryz.underlying3 t2
 have e : cs.drop 0 = cs.drop 0 := rfl
 conv at e => rhs; rw [chunk k0 (show _ = 1 from rfl), chunk k1 (show _ = 2 from rfl), chunk k2 (show _ = 3 from rfl), List.drop_eq_nil_of_le (show cs.length ≤ 3 by omega)]
 exact ⟨⟨ty, nm, a⟩, e, trivial⟩
theorem decls_open {fuel : Nat} {cs : List Value} {x : DataW H × List MemPlace} (h : DataW.trod enc Tryz.prog w base spare held fuel 23 cs = some x) (hw : Wt 23 x.1) : ∃ s : Sl Dc, cs = [.slice s.p s.l.length s.cap] ∧ declsLie w s :=
 sl_openB ⟨ByteArray.empty, ByteArray.empty, 0⟩ Tryz.underlying23 cells46 (by decide) bytes46 (by decide) (fun n cs y _ h hw => decl_open h hw) h hw
theorem struct_open {fuel : Nat} {cs : List Value} {x : DataW H × List MemPlace} (h : DataW.trod enc Tryz.prog w base spare held fuel 57 cs = some x) (hw : Wt 57 x.1) :
  ∃ v : Sr, cs = v.cells ∧ srLies w v := by
 obtain ⟨n, rfl, hl, hf⟩ := fld Tryz.underlying57 h hw
 rw [cells44] at hl
 obtain ⟨y0, t0, w0⟩ := hf 0 9 0 _ rfl cells9
 obtain ⟨nm, k0, q0, _⟩ := DataW.trod_string Tryz.underlying9 t0
 have z0 : nm.size ≤ 1048576 := by
  rw [q0] at w0
  have h9 : nm.data.toList.length + 1 ≤ 1048576 := by simpa [Wt, Rows.uptoBulk] using w0
  have h8 : nm.size = nm.data.toList.length := by rw [Array.length_toList]; rfl
  omega
 obtain ⟨y1, t1, w1⟩ := hf 1 3 1 _ rfl cells3
 obtain ⟨a, k1, _⟩ := DataW.trod_int Tryz.underlying3 t1
 obtain ⟨y2, t2, w2⟩ := hf 2 23 2 _ rfl cells23
 obtain ⟨s, k2, l2⟩ := decls_open t2 w2
 have e : cs.drop 0 = cs.drop 0 := rfl
 conv at e => rhs; rw [chunk k0 (show _ = 1 from rfl), chunk k1 (show _ = 2 from rfl), chunk k2 (show _ = 3 from rfl), List.drop_eq_nil_of_le (show cs.length ≤ 3 by omega)]
 exact ⟨⟨nm, a, s⟩, e, l2, z0⟩
theorem structs_open {fuel : Nat} {cs : List Value} {x : DataW H × List MemPlace} (h : DataW.trod enc Tryz.prog w base spare held fuel 22 cs = some x) (hw : Wt 22 x.1) : ∃ s : Sl Sr, cs = [.slice s.p s.l.length s.cap] ∧ srsLie w s :=
 sl_openB ⟨ByteArray.empty, 0, ⟨none, 0, []⟩⟩ Tryz.underlying22 cells44 (by decide) bytes44 (by decide) (fun n cs y _ h hw => struct_open h hw) h hw
theorem stmt_open {fuel : Nat} {cs : List Value} {x : DataW H × List MemPlace} (h : DataW.trod enc Tryz.prog w base spare held fuel 103 cs = some x) (hw : Wt 103 x.1)
  (hS : ∀ m cs y, m < fuel → DataW.trod enc Tryz.prog w base spare held m 35 cs = some y → Wt 35 y.1 → ∃ p c l, cs = [.slice p (SL.len l) c] ∧ sLies w p l) :
  ∃ (h : Hd) (tp : Option Addr) (tc : Nat) (t : SL) (ep : Option Addr) (ec : Nat) (e : SL), cs = scells h tp t.len tc ep e.len ec ∧ hdLies w h ∧ sLies w tp t ∧ sLies w ep e := by
 obtain ⟨n, rfl, hl, hf⟩ := fld Tryz.underlying103 h hw
 rw [cells93] at hl
 obtain ⟨y0, t0, w0⟩ := hf 0 3 0 _ rfl cells3
 obtain ⟨a, k0, _⟩ := DataW.trod_int Tryz.underlying3 t0
 obtain ⟨y1, t1, w1⟩ := hf 1 3 1 _ rfl cells3
 obtain ⟨b, k1, _⟩ := DataW.trod_int Tryz.underlying3 t1
 obtain ⟨y2, t2, w2⟩ := hf 2 94 2 _ rfl cells84
 obtain ⟨p, k2, l2⟩ := path_open t2 w2
 obtain ⟨y3, t3, w3⟩ := hf 3 98 5 _ rfl cells88
 obtain ⟨v, k3, l3⟩ := value_open t3 w3
 obtain ⟨y4, t4, w4⟩ := hf 4 100 17 _ rfl cells90
 obtain ⟨c, k4, l4⟩ := cond_open t4 w4
 obtain ⟨y5, t5, w5⟩ := hf 5 9 43 _ rfl cells9
 obtain ⟨nm, k5, _, z5⟩ := DataW.trod_string Tryz.underlying9 t5
 obtain ⟨y6, t6, w6⟩ := hf 6 101 44 _ rfl cells91
 obtain ⟨s, k6, l6⟩ := args_open t6 w6
 obtain ⟨y7, t7, w7⟩ := hf 7 35 45 _ rfl cells47
 obtain ⟨tp, tc, t, k7, l7⟩ := hS _ _ _ (Nat.lt_succ_self _) t7 w7
 obtain ⟨y8, t8, w8⟩ := hf 8 35 46 _ rfl cells47
 obtain ⟨up, uc, u, k8, l8⟩ := hS _ _ _ (Nat.lt_succ_self _) t8 w8
 obtain ⟨y9, t9, w9⟩ := hf 9 4 47 _ rfl cells4
 obtain ⟨z, k9, _⟩ := DataW.trod_bool Tryz.underlying4 t9
 have e : cs.drop 0 = cs.drop 0 := rfl
 conv at e => rhs; rw [chunk k0 (show _ = 1 from rfl), chunk k1 (show _ = 2 from rfl), chunk k2 (show _ = 5 from rfl), chunk k3 (show _ = 17 from rfl), chunk k4 (show _ = 43 from rfl), chunk k5 (show _ = 44 from rfl), chunk k6 (show _ = 45 from rfl), chunk k7 (show _ = 46 from rfl), chunk k8 (show _ = 47 from rfl), chunk k9 (show _ = 48 from rfl), List.drop_eq_nil_of_le (show cs.length ≤ 48 by omega)]
 exact ⟨⟨a, b, p, v, c, nm, s, z⟩, tp, tc, t, up, uc, u, e, ⟨l2, l3, l4.1, l4.2, l6, z5⟩, l7, l8⟩
theorem build_SL {b : Nat} : ∀ (len o : Nat), (∀ i, i < len → ∃ (h : Hd) (tp : Option Addr) (tc : Nat) (t : SL) (ep : Option Addr) (ec : Nat) (e : SL), w.rangeAt b (o + i * 48) (scells h tp t.len tc ep e.len ec) ∧ hdLies w h ∧ sLies w tp t ∧ sLies w ep e) → ∃ l : SL, l.len = len ∧ lies w l b o
 | 0, o, _ => ⟨.nil, rfl, trivial⟩
 | len + 1, o, hx => by
  obtain ⟨h, tp, tc, t, ep, ec, e, h1, h2, h3, h4⟩ := hx 0 (by omega)
  obtain ⟨r, hr, hl⟩ := build_SL len (o + 48) (fun i hi => by
   have := hx (i + 1) (by omega)
   rwa [show o + (i + 1) * 48 = o + 48 + i * 48 by omega] at this)
  exact ⟨.cons h tp tc t ep ec e r, by simp only [SL.len, hr], by simpa using h1, h2, h3, h4, hl⟩
theorem stmts_any : ∀ (fuel : Nat) (cs : List Value) (x : DataW H × List MemPlace), DataW.trod enc Tryz.prog w base spare held fuel 35 cs = some x → Wt 35 x.1 → ∃ p c l, cs = [.slice p (SL.len l) c] ∧ sLies w p l := by
 intro fuel
 induction fuel using Nat.strongRecOn with
 | _ fuel ih =>
  intro cs x h hw
  obtain ⟨p, len, cap, rfl, hl, h2⟩ := slice_open Tryz.underlying35 cells93 (by decide) h hw
  rcases h2 with rfl | ⟨b, o, n, rfl, hn, hx⟩
  ·exact ⟨p, cap, .nil, rfl, by simp [SL.len], .inl rfl⟩
  ·obtain ⟨l, hll, hli⟩ := build_SL (w := w) (b := b) len o (fun i hi => by
    obtain ⟨cs', y, h1, h3, h4⟩ := hx i hi
    obtain ⟨hd, tp, tc, t, ep, ec, e, rfl, g1, g2, g3⟩ := stmt_open h3 h4 (fun m cs y hm h hw => ih m (by omega) cs y h hw)
    exact ⟨hd, tp, tc, t, ep, ec, e, h1, g1, g2, g3⟩)
   exact ⟨some ⟨b, o, none⟩, cap, l, by rw [hll], by rw [hll]; omega, .inr ⟨b, o, rfl, hli⟩⟩
theorem stmts_open {fuel : Nat} {cs : List Value} {x : DataW H × List MemPlace} (h : DataW.trod enc Tryz.prog w base spare held fuel 35 cs = some x) (hw : Wt 35 x.1) : ∃ p c l, cs = [.slice p (SL.len l) c] ∧ sLies w p l := stmts_any fuel cs x h hw
theorem proc_open {fuel : Nat} {cs : List Value} {x : DataW H × List MemPlace} (h : DataW.trod enc Tryz.prog w base spare held fuel 37 cs = some x) (hw : Wt 37 x.1) :
  ∃ v : Pc, cs = v.cells ∧ pcLies w v := by
 obtain ⟨n, rfl, hl, hf⟩ := fld Tryz.underlying37 h hw
 rw [cells49] at hl
 obtain ⟨y0, t0, w0⟩ := hf 0 9 0 _ rfl cells9
 obtain ⟨nm, k0, _, z0⟩ := DataW.trod_string Tryz.underlying9 t0
 obtain ⟨y1, t1, w1⟩ := hf 1 3 1 _ rfl cells3
 obtain ⟨a, k1, _⟩ := DataW.trod_int Tryz.underlying3 t1
 obtain ⟨y2, t2, w2⟩ := hf 2 3 2 _ rfl cells3
 obtain ⟨b, k2, _⟩ := DataW.trod_int Tryz.underlying3 t2
 obtain ⟨y3, t3, w3⟩ := hf 3 23 3 _ rfl cells23
 obtain ⟨s, k3, l3⟩ := decls_open t3 w3
 obtain ⟨y4, t4, w4⟩ := hf 4 23 4 _ rfl cells23
 obtain ⟨q, k4, l4⟩ := decls_open t4 w4
 obtain ⟨y5, t5, w5⟩ := hf 5 35 5 _ rfl cells47
 obtain ⟨tp, tc, t, k5, l5⟩ := stmts_open t5 w5
 have e : cs.drop 0 = cs.drop 0 := rfl
 conv at e => rhs; rw [chunk k0 (show _ = 1 from rfl), chunk k1 (show _ = 2 from rfl), chunk k2 (show _ = 3 from rfl), chunk k3 (show _ = 4 from rfl), chunk k4 (show _ = 5 from rfl), chunk k5 (show _ = 6 from rfl), List.drop_eq_nil_of_le (show cs.length ≤ 6 by omega)]
 exact ⟨⟨nm, a, b, s, q, tp, tc, t⟩, e, l3, l4, l5, z0⟩
theorem procs_open {fuel : Nat} {cs : List Value} {x : DataW H × List MemPlace} (h : DataW.trod enc Tryz.prog w base spare held fuel 24 cs = some x) (hw : Wt 24 x.1) : ∃ s : Sl Pc, cs = [.slice s.p s.l.length s.cap] ∧ pcsLie w s :=
 sl_openB ⟨ByteArray.empty, 0, 0, ⟨none, 0, []⟩, ⟨none, 0, []⟩, none, 0, .nil⟩ Tryz.underlying24 cells49 (by decide) bytes49 (by decide) (fun n cs y _ h hw => proc_open h hw) h hw
theorem program_open {fuel : Nat} {cs : List Value} {x : DataW H × List MemPlace} (h : DataW.trod enc Tryz.prog w base spare held fuel 26 cs = some x) (hw : Wt 26 x.1) :
  ∃ v : Pg, cs = v.cells ∧ pgLies w v := by
 obtain ⟨n, rfl, hl, hf⟩ := fld Tryz.underlying26 h hw
 rw [cells26] at hl
 obtain ⟨y0, t0, w0⟩ := hf 0 22 0 _ rfl cells22
 obtain ⟨s, k0, l0⟩ := structs_open t0 w0
 obtain ⟨y1, t1, w1⟩ := hf 1 23 1 _ rfl cells23
 obtain ⟨g, k1, l1⟩ := decls_open t1 w1
 obtain ⟨y2, t2, w2⟩ := hf 2 24 2 _ rfl cells24
 obtain ⟨q, k2, l2⟩ := procs_open t2 w2
 have e : cs.drop 0 = cs.drop 0 := rfl
 conv at e => rhs; rw [chunk k0 (show _ = 1 from rfl), chunk k1 (show _ = 2 from rfl), chunk k2 (show _ = 3 from rfl), List.drop_eq_nil_of_le (show cs.length ≤ 3 by omega)]
 exact ⟨⟨s, g, q⟩, e, l0, l1, l2⟩
theorem sl_mono {α : Type} {w : World} {a b : Nat} {c : α → List Value} {R R' : α → Prop} {s : Sl α} (h : slLies w a b c R s) (hr : ∀ x, R x → R' x) : slLies w a b c R' s := by
 refine ⟨h.1, ?_⟩
 rcases h.2 with h0 | ⟨q, o, hp, hx⟩
 ·exact .inl h0
 ·exact .inr ⟨q, o, hp, fun k x hk => ⟨(hx k x hk).1, hr x (hx k x hk).2⟩⟩
theorem sl_all {α : Type} {w : World} {a b : Nat} {c : α → List Value} {R : α → Prop} {s : Sl α} (h : slLies w a b c R s) : ∀ x ∈ s.l, R x := by
 intro x hx
 obtain ⟨k, hk, rfl⟩ := List.getElem_of_mem hx
 rcases h.2 with h0 | ⟨q, o, hp, hy⟩
 ·rw [h0] at hk; simp at hk
 ·exact (hy k _ (List.getElem?_eq_getElem hk)).2
theorem lies_names {w : World} : ∀ (l : SL) (b o : Nat), lies w l b o → ∀ y ∈ l.every, y.size ≤ maxLen
 | .nil, _, _, _ => by intro y hy; cases hy
 | .cons h tp tc t ep ec e r, b, o, hl => by
  obtain ⟨_, hh, ht, he, hr⟩ := hl
  intro y hy
  simp only [SL.every, List.mem_append] at hy
  rcases hy with ((hy | hy) | hy) | hy
  ·split at hy
   ·rw [List.mem_singleton] at hy
    rw [hy]; exact hh.2.2.2.2.2
   ·cases hy
  ·rcases ht.2 with rfl | ⟨b', o', _, ht⟩
   ·cases hy
   ·exact lies_names t b' o' ht y hy
  ·rcases he.2 with rfl | ⟨b', o', _, he⟩
   ·cases hy
   ·exact lies_names e b' o' he y hy
  ·first
    | exact lies_names r b _ hr y hy
    | exact hr.elim (fun h => by subst h; cases hy) (fun h => lies_names r b _ h y hy)
theorem names_small {w : World} {p : Option Addr} {l : SL} (h : sLies w p l) : ∀ y ∈ uq [] l.every, y.size ≤ maxLen := by
 intro y hy
 rw [uq_mem] at hy
 rcases hy with hy | hy
 ·cases hy
 ·rcases h.2 with rfl | ⟨b, o, _, hl⟩
  ·cases hy
  ·exact lies_names l b o hl y hy
/-- A program as it is handed in: it lies, no part is huge, no name too long. -/
theorem pg_open {fuel : Nat} {cs : List Value} {x : DataW H × List MemPlace} (h : DataW.trod enc Tryz.prog w base spare held fuel 26 cs = some x) (hw : Wt 26 x.1) :
  ∃ v : Pg, cs = v.cells ∧ YtmhpaacjioeknaaGreat.pgLies w v ∧ PgBd v ∧ ∀ p ∈ v.procs.l, p.name.size ≤ maxLen ∧ ∀ y ∈ uq [] p.body.every, y.size ≤ maxLen := by
 obtain ⟨v, hc, hs, hg, hq⟩ := program_open h hw
 refine ⟨v, hc, ⟨sl_mono hs.1 fun r hr => hr.1.1, hg.1, sl_mono hq.1 fun p hp => ⟨hp.1.1, hp.2.1.1, hp.2.2.1⟩⟩, ⟨hs.2, ?_, hg.2, hq.2, ?_⟩, ?_⟩
 ·intro r hr
  have h1 := sl_all hs.1 r hr
  exact ⟨h1.1.2, h1.2⟩
 ·intro p hp
  have h1 := sl_all hq.1 p hp
  exact ⟨h1.1.2, h1.2.1.2⟩
 ·intro p hp
  have h1 := sl_all hq.1 p hp
  exact ⟨h1.2.2.2, names_small h1.2.2.1⟩
/-- What small says is enough. -/
theorem psok_of {v : Pg} (h : SmallOk v.procs.l) (hn : ∀ p ∈ v.procs.l, p.name.size ≤ maxLen ∧ ∀ y ∈ uq [] p.body.every, y.size ≤ maxLen) : PsOk v.procs.l :=
 ⟨h.1, fun p hp => (hn p hp).1, fun p hp => by
  obtain ⟨k, hk, rfl⟩ := List.getElem_of_mem hp
  have h1 := count_small _ (h.2 k _ (List.getElem?_eq_getElem hk))
  exact ⟨by omega, (hn _ hp).2⟩⟩
end
end Go.Proofs.YtmhpaacjioeknaaGreat.opn
