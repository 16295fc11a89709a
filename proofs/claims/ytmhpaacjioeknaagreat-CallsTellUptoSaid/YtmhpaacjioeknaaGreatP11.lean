/-
  Rws of numbers that grow by turns; the walk of woven. The walk of woven: who calls whom. The walk of turned: who is called by whom. Plain: the order in which the least one that can be told is told. The walk of order. The walks of capped, followed and cost.
-/
import Derived.Test.YtmhpaacjioeknaaGreatP10
import Derived.Deep.OwnRows
import Derived.ChangeBookTie2
set_option maxHeartbeats 6400000
set_option maxRecDepth 100000
namespace Go.Proofs.YtmhpaacjioeknaaGreat
open Go.RowKit Go.Maps Go.Sort Go.WideMaps
/-- Rws of numbers, all of one's own, their heads in block b. -/
structure Rws (w : World) (B b : Nat) (vs : List Value) (XS : List (List Int)) : Prop where
 blk : Bk w b 33 vs.toArray
 lt : b < B
 len : vs.length = XS.length
 row : ∀ (t : Nat) (v : Value) (xs : List Int), vs[t]? = some v → XS[t]? = some xs → OR w B v xs
 dis : ∀ (t t' : Nat) (v v' : Value) (q : Nat), t ≠ t' → vs[t]? = some v → vs[t']? = some v' → v.ownBlock = some q → v'.ownBlock ≠ some q
theorem Rws.below {w w' : World} {B b : Nat} {vs : List Value} {XS : List (List Int)} (h : Rws w B b vs XS) (hb : Below w.heap.size w w') : Rws w' B b vs XS :=
 ⟨h.blk.below hb h.blk.lt, h.lt, h.len, fun t v xs hv hx => own_below (h.row t v xs hv hx) hb, h.dis⟩
theorem Rws.at_ {w : World} {B b : Nat} {vs : List Value} {XS : List (List Int)} (h : Rws w B b vs XS) {t : Nat} {xs : List Int} (hx : XS[t]? = some xs) : ∃ v, vs[t]? = some v ∧ OR w B v xs ∧ w.cell? ⟨b, t, none⟩ = some v ∧ w.frozen? ⟨b, t, none⟩ = false := by
 have ht : t < vs.length := by rw [h.len]; exact (List.getElem?_eq_some_iff.1 hx).1
 refine ⟨vs[t], List.getElem?_eq_getElem ht, h.row t _ xs (List.getElem?_eq_getElem ht) hx, ?_, h.blk.frozen t⟩
 have := h.blk.cell t
 simpa [ht] using this
/-- One row has grown, its head goes back. -/
theorem Rws.push {w w2 : World} {B b t : Nat} {vs : List Value} {XS : List (List Int)} {v v' : Value} {xs ys : List Int} (h : Rws w B b vs XS) (hv : vs[t]? = some v) (hx : XS[t]? = some xs) (ho : OR w2 B v' ys) (hg : w.grownBy w2 v.ownBlock) (hto : RowTo w v v') :
  Rws (w2.setCell ⟨b, t, none⟩ v') B b (vs.set t v') (XS.set t ys) := by
 have hv1 := h.row t v xs hv hx
 have gS : w2.grownBy (w2.setCell ⟨b, t, none⟩ v') (some b) := grownBy_setC w2 ⟨b, t, none⟩ v'
 have ht : t < vs.length := (List.getElem?_eq_some_iff.1 hv).1
 refine ⟨?_, h.lt, by rw [List.length_set, List.length_set]; exact h.len, ?_, ?_⟩
 ·have h1 := h.blk.grown hg (fun q hq => by have := (hv1.lt q hq).1; have := h.lt; omega)
  have := h1.set_ t v'
  rwa [List.setIfInBounds_toArray] at this
 ·intro s u zs hu hz
  by_cases hs : t = s
  ·subst hs
   rw [List.getElem?_set_self ht] at hu
   rw [List.getElem?_set_self (by rw [← h.len]; exact ht)] at hz
   cases hu; cases hz
   exact own_par ho gS h.lt
  ·rw [List.getElem?_set_ne hs] at hu hz
   have h1 := h.row s u zs hu hz
   refine own_par (h1.kept hg ?_) gS h.lt
   cases hq : u.ownBlock with
   | none => exact .inl rfl
   | some q => right; exact fun e => h.dis s t u v q (fun e => hs e.symm) hu hv hq e.symm
 ·intro s s' u u' q hne hu hu' hq
  have hnew : ∀ (r : Nat) (x : Value), r ≠ t → vs[r]? = some x → ∀ q, v'.ownBlock = some q → x.ownBlock ≠ some q := by
   intro r x hr hxr q hq' e
   rcases hto with h1 | ⟨k, h1, h2⟩
   ·rw [h1] at hq'
    exact h.dis r t x v q hr hxr hv e hq'
   ·rw [h2] at hq'; cases hq'
    obtain ⟨zs, hzs⟩ : ∃ zs, XS[r]? = some zs := ⟨_, List.getElem?_eq_getElem (by rw [← h.len]; exact (List.getElem?_eq_some_iff.1 hxr).1)⟩
    have := ((h.row r x zs hxr hzs).lt _ e).2
    omega
  by_cases h1 : t = s
  ·subst h1
   rw [List.getElem?_set_self ht] at hu
   cases hu
   rw [List.getElem?_set_ne hne] at hu'
   exact hnew s' u' (fun e => hne e.symm) hu' q hq
  ·rw [List.getElem?_set_ne h1] at hu
   by_cases h2 : t = s'
   ·subst h2
    rw [List.getElem?_set_self ht] at hu'
    cases hu'
    intro e
    exact hnew s u (fun e => h1 e.symm) hu q e hq
   ·rw [List.getElem?_set_ne h2] at hu'
    exact h.dis s s' u u' q hne hu hu' hq
/-- n empty rows. -/
theorem Rws.nil (w : World) (n : Nat) : Rws (w.alloc (.cells (madeCells #[.slice none 0 0] n) 33)) (w.heap.size + 1) w.heap.size (List.replicate n (.slice none 0 0)) (List.replicate n []) := by
 refine ⟨?_, Nat.lt_succ_self _, by simp, ?_, ?_⟩
 ·have h1 : madeCells #[.slice none 0 0] n = (List.replicate n (Value.slice none 0 0)).toArray := by
   apply Array.ext'
   rw [toList_madeCells_one]
  rw [h1]; exact heap_alloc_new _ _
 ·intro t v xs hv hx
  rw [List.getElem?_replicate] at hv hx
  split at hv
  ·rename_i hlt
   rw [if_pos hlt] at hx
   cases hv; cases hx; exact World.ownsRow_nil _ _ _ _
  ·cases hv
 ·intro t t' v v' q _ hv _ hq
  rw [List.getElem?_replicate] at hv
  split at hv
  ·cases hv; cases hq
  ·cases hv
theorem infoRow : (Tryz.prog.info? 33).map (fun i => (i.zero, i.size, i.bytes)) = some (some (.slice none 0 0), 1, 24) := by kernel_rfl
/-- The numbers of the procedures that these names name. -/
def cal (ns : List ByteArray) : List ByteArray → List Int
 | [] => []
 | x :: r => (if isIn ns x = true then [(plc ns x : Int)] else []) ++ cal ns r
theorem cal_append (ns : List ByteArray) : ∀ (a b : List ByteArray), cal ns (a ++ b) = cal ns a ++ cal ns b
 | [], b => rfl
 | x :: a, b => by rw [List.cons_append, cal, cal, cal_append ns a b, List.append_assoc]
/-- Whom a procedure calls. -/
def calls (l : List Pc) (x : Pc) : List Int := cal (nms l) (uq [] x.body.every)
def web (l : List Pc) : List (List Int) := l.map (calls l)
end Go.Proofs.YtmhpaacjioeknaaGreat
namespace Go.Proofs.YtmhpaacjioeknaaGreat
open Go.RowKit Go.Maps Go.Sort Go.WideMaps
theorem take_snocL {α : Type} {l : List α} {k : Nat} {x : α} (h : l[k]? = some x) : l.take (k + 1) = l.take k ++ [x] := by
 have h1 := List.getElem?_eq_some_iff.1 h
 rw [List.take_succ_eq_append_getElem h1.1, h1.2]
/-- The rows while the k-th is made: those ahead are done. -/
def part (l : List Pc) (k : Nat) (ys : List Int) : List (List Int) := (web l).take k ++ ys :: List.replicate (l.length - k - 1) []
theorem web_len (l : List Pc) : (web l).length = l.length := by simp [web]
theorem part_at {l : List Pc} {k : Nat} (hk : k < l.length) (ys : List Int) : (part l k ys)[k]? = some ys := by
 unfold part
 rw [List.getElem?_append_right (by rw [List.length_take, web_len]; omega), List.length_take, web_len, Nat.min_eq_left (by omega), Nat.sub_self]; rfl
theorem part_set {l : List Pc} {k : Nat} (hk : k < l.length) (ys zs : List Int) : (part l k ys).set k zs = part l k zs := by
 unfold part
 rw [List.set_append_right _ _ (by rw [List.length_take, web_len]; omega), List.length_take, web_len, Nat.min_eq_left (by omega), Nat.sub_self]; rfl
theorem part_start {l : List Pc} {k : Nat} (hk : k < l.length) : part l k [] = (web l).take k ++ List.replicate (l.length - k) [] := by
 unfold part
 obtain ⟨m, hm⟩ : ∃ m, l.length - k = m + 1 := ⟨l.length - k - 1, by omega⟩
 rw [hm, List.replicate_succ, Nat.add_sub_cancel]
theorem part_done {l : List Pc} {k : Nat} {x : Pc} (hx : l[k]? = some x) : part l k (calls l x) = (web l).take (k + 1) ++ List.replicate (l.length - (k + 1)) [] := by
 have hk := (List.getElem?_eq_some_iff.1 hx).1
 unfold part
 have h1 : (web l)[k]? = some (calls l x) := by unfold web; rw [List.getElem?_map, hx]; rfl
 rw [take_snocL h1, List.append_assoc]; rfl
theorem woven_any (s : Sl Pc) (w : World) (h : pcsLie w s) (hl : s.l.length ≤ 1000000) (hN : ∀ x ∈ s.l, x.name.size ≤ maxLen) (hC : ∀ x ∈ s.l, x.body.count ≤ 10000 ∧ ∀ y ∈ uq [] x.body.every, y.size ≤ maxLen) :
  Calls Tryz.prog 16 #[.slice s.p s.l.length s.cap] w fun e w' => ∃ B b vs, e = .returned (.slice (some ⟨b, 0, none⟩) s.l.length s.l.length) ∧ Rws w' B b vs (web s.l) ∧ Below w.heap.size w w' ∧ w.heap.size ≤ b ∧ B ≤ w'.heap.size := by
 have HS := hdn h
 have HC := hdn hC
 have HLL : Hid (s.l.length ≤ 1000000) := hdn hl
 have hl' : (s.l.length : Int) ≤ 1000000 := by omega
 have HNU := hdn (numbered_any s w h hl hN)
 obtain ⟨ir, hir, hz0, hz1, hz2⟩ := info_parts infoRow
 have HIR := hdn (And.intro hir (And.intro hz0 (And.intro hz1 hz2)))
 clear h hN hC hl hir hz0 hz1 hz2
 go_enter Tryz.func16, Tryz.ntmps16
 go_wp2_with (first | (go_at_call 19; refine (HNU.out).mono ?_; rintro en w1 ⟨mb, rfl, hn, hb, hmb⟩; have HN1 := hdn hn; have HB1 := hdn hb; have HMB := hdn hmb; clear hn hb hmb) | (at_make; refine wpList_make_row _ rfl _ _ 45 rfl 33 ir (.slice none 0 0) Tryz.underlying45 HIR.out.1 HIR.out.2.1 HIR.out.2.2.1 rfl .i64 .i64 s.l.length rfl rfl (by rw [HIR.out.2.2.2]; have := HLL.out; omega) (by have := HLL.out; omega) ?_))
 have hm : Below w1.heap.size w1 (w1.alloc (.cells (madeCells #[.slice none 0 0] s.l.length) 33)) := (Below.refl _ _).alloc (Nat.le_refl _) _
 have HR2 := hdn (Rws.nil w1 s.l.length)
 have HN2 := hdn (HN1.out.below hm)
 have HB2 : Hid (Below w.heap.size w (w1.alloc (.cells (madeCells #[.slice none 0 0] s.l.length) 33))) := hdn (HB1.out.trans (hm.mono HB1.out.size))
 have HBB : Hid (w.heap.size ≤ w1.heap.size ∧ mb < w1.heap.size) := hdn ⟨HB1.out.size, HN1.out.lt⟩
 have HSZ : Hid (w1.heap.size + 1 ≤ (w1.alloc (.cells (madeCells #[.slice none 0 0] s.l.length) 33)).heap.size) := hdn (by simp)
 clear hm HN1 HB1
 generalize w1.alloc (.cells (madeCells #[.slice none 0 0] s.l.length) 33) = w2 at HR2 HN2 HB2 HSZ ⊢
 generalize w1.heap.size = b at *
 go_loopw [5, 7, 8, 9, 17] (fun si s7 s8 s9 sk wr => ∃ (k : Nat) (vs : List Value), sk = .int .i64 k ∧ k ≤ s.l.length ∧ Hid (Rws wr (b + 1) b vs ((web s.l).take k ++ List.replicate (s.l.length - k) [])) ∧ Hid (NM wr mb (nms s.l)) ∧ Hid (Below w.heap.size w wr) ∧ Hid (b + 1 ≤ wr.heap.size)) (fun _ _ _ _ sk _ => s.l.length - (Lib.intOf sk).toNat)
 case atStart => exact ⟨0, _, rfl, Nat.zero_le _, HR2, HN2, HB2, HSZ⟩
 case round =>
  clear HR2 HN2 HB2 HSZ
  obtain ⟨k, vs, rfl, hk, HR, HN, HB, HSZ⟩ := hrel
  by_cases hlt : k < s.l.length
  ·obtain ⟨x, hx⟩ : ∃ x, s.l[k]? = some x := ⟨_, List.getElem?_eq_getElem hlt⟩
   obtain ⟨pb, o, hp, hr, hpl⟩ := pc_at HS.out hx
   have HX := hdn hx
   have HCX := hdn (HC.out x (List.mem_of_getElem? hx))
   rw [hp]
   have hc5 : wr.cell? ⟨pb, o + k * 6 + 5, none⟩ = some (.slice x.bp x.body.len x.bc) := cell_at (rangeAt_below hr HB.out) 5 _ rfl
   have HTC := hdn (treeCalls_any x.body x.bp x.bc wr (sLies_below hpl.2.2 HB.out) HCX.out.1)
   have HRk : Hid (Rws wr (b + 1) b vs (part s.l k [])) := hdn (by rw [part_start hlt]; exact HR.out)
   have HLT := hdn hlt
   have HSP := hdn hp
   obtain ⟨ns, hns⟩ : ∃ ns, ns = uq [] x.body.every := ⟨_, rfl⟩
   have HNS := hdn hns
   rw [← hns] at HTC HCX
   have HNL : Hid (ns.length ≤ 10000) := hdn (by
    have h1 := uq_len [] x.body.every
    have h2 := SL.every_le x.body
    rw [hns]; have := HCX.out.1; simp at h1; omega)
   have HR0 := HRk
   clear hx hr hpl hp hns HR
   go_wp2_with ((go_at_call 33; refine (HTC.out).mono ?_; rintro en w3 ⟨v3, rfl, ho, hb⟩; have HO3 := hdn ho; have HR3 := hdn (HRk.out.below hb); have HN3 := hdn (HN.out.below hb); have HB3 := hdn (HB.out.trans (hb.mono HB.out.size)); have HSZ3 := hdn (Nat.le_trans HSZ.out hb.size); clear ho hb; obtain ⟨a3, c3, rfl⟩ := own_shape HO3.out))
   have HBW : Hid (b < wr.heap.size) := hdn (by have := HSZ.out; omega)
   clear HTC HRk
   have HD3 : Hid (∀ v q, vs[k]? = some v → v.ownBlock = some q → (Value.slice a3 ns.length c3).ownBlock ≠ some q) := hdn (by
    intro v q hv hq e
    have h1 := (HO3.out.lt q e).1
    have h2 := ((HR0.out.row k v [] hv (part_at HLT.out [])).lt q hq).2
    omega)
   obtain ⟨n3, hn3⟩ : ∃ n3, n3 = wr.heap.size := ⟨_, rfl⟩
   have HB3W : Hid (b < n3) := hdn (by rw [hn3]; exact HBW.out)
   rw [← hn3] at HO3
   clear hn3 HBW
   go_loopw [7, 8, 9, 27] (fun s7 s8 s9 sj wq => ∃ (j : Nat) (vs : List Value), sj = .int .i64 j ∧ j ≤ ns.length ∧ Hid (Rws wq (b + 1) b vs (part s.l k (cal (nms s.l) (ns.take j)))) ∧ Hid (NM wq mb (nms s.l)) ∧ Hid (Below w.heap.size w wq) ∧ Hid (b + 1 ≤ wq.heap.size) ∧ Hid (wq.ownsRow n3 9 1 (.slice a3 ns.length c3) ns.length (sv ns)) ∧ Hid (∀ v q, vs[k]? = some v → v.ownBlock = some q → (Value.slice a3 ns.length c3).ownBlock ≠ some q)) (fun _ _ _ sj _ => ns.length - (Lib.intOf sj).toNat)
   case atStart => exact ⟨0, vs, rfl, Nat.zero_le _, HR3, HN3, HB3, HSZ3, HO3, HD3⟩
   case round =>
    clear HR3 HN3 HB3 HSZ3 HO3 HD3
    obtain ⟨j, vs, rfl, hj, HR, HN, HB, HSZ, HO, HD⟩ := hrel
    have hnl : (ns.length : Int) ≤ 10000 := by have := HNL.out; omega
    by_cases hjl : j < ns.length
    ·obtain ⟨nm, hnm⟩ : ∃ nm, ns[j]? = some nm := ⟨_, List.getElem?_eq_getElem hjl⟩
     have hne : ∃ g, a3 = some ⟨g, 0, none⟩ := by
      rcases HO.out.2 with ⟨h1, h2⟩ | ⟨g, cap, cur, h1, _⟩
      ·omega
      ·injection h1 with h1; exact ⟨g, h1⟩
     obtain ⟨g3, rfl⟩ := hne
     have hcn : wr.cell? ⟨g3, j, none⟩ = some (.string nm) := by
      have := cell_sv HO.out j hjl
      rw [List.getElem?_eq_getElem hjl] at hnm; injection hnm with hnm; rw [← hnm]; exact this
     obtain ⟨v, hv, hor, hcb, hfb⟩ := HR.out.at_ (part_at HLT.out (cal (nms s.l) (ns.take j)))
     have HV := hdn hv
     have HOR := hdn hor
     have HTK := hdn (take_snocL hnm)
     obtain ⟨m, D, hown, hnum, hml⟩ := HN.out
     have HOW := hdn hown
     have HNZ := hdn (HCX.out.2 nm (List.mem_of_getElem? hnm))
     have HKEY := hdn (byName.key nm HNZ.out)
     have HNUM := hdn (hnum.num HNZ.out)
     have HHAS := hdn (hnum.hasB HNZ.out)
     obtain ⟨xs, hxs⟩ : ∃ xs, xs = cal (nms s.l) (ns.take j) := ⟨_, rfl⟩
     have HXS := hdn hxs
     have HXL : Hid (xs.length ≤ 10000) := hdn (by
      have h1 : ∀ (ns : List ByteArray) (l : List ByteArray), (cal ns l).length ≤ l.length := by
       intro ns l
       induction l with
       | nil => exact Nat.le_refl _
       | cons a l ih => rw [cal, List.length_append, List.length_cons]; split <;> simp <;> omega
      have := h1 (nms s.l) (ns.take j)
      rw [List.length_take] at this; rw [hxs]; have := HNL.out; omega)
     rw [← hxs] at HOR
     clear hv hor hown hnum hml hxs hnm
     obtain ⟨av, cv, rfl⟩ := HOR.out.shape
     have HJL := hdn hjl
     rcases hin : isIn (nms s.l) nm with _ | _
     ·have HIN := hdn hin
      clear hin
      go_wp2_with (first | (at_lookup; refine wpList_lookup_own_ok_int (H := Unit) _ rfl _ _ 50 rfl 9 3 .i64 byName.law Tryz.underlying50 Tryz.underlying3 (zero3 _) mb m D rfl HOW.out _ _ rfl HKEY.out ?_; intro c hat hwc; clear hat hwc; rw [HHAS.out, HIN.out]))
      go_roundw
      case rel => exact ⟨j + 1, vs, by go_num, by omega, hdn (by rw [HTK.out, cal_append]; simp only [cal, HIN.out, Bool.false_eq_true, if_false, List.append_nil]; exact HR.out), HN, HB, HSZ, HO, HD⟩
      case measure => simp [Lib.intOf]; omega
     ·have HIN := hdn hin
      have HKL : Hid ((numOf (nms s.l) nm) = (plc (nms s.l) nm : Int)) := hdn (num_plc (isIn_iff.1 hin))
      clear hin
      go_wp2_with (first | (at_lookup; refine wpList_lookup_own_ok_int (H := Unit) _ rfl _ _ 50 rfl 9 3 .i64 byName.law Tryz.underlying50 Tryz.underlying3 (zero3 _) mb m D rfl HOW.out _ _ rfl HKEY.out ?_; intro c hat hwc; have HA := hdn hat; clear hat hwc; rw [HHAS.out, HIN.out]) | ((with_reducible show wpList _ _ _ (Oper.mk (some 46) _ _ _ _ _ :: _) _ _); refine wpList_app_int rfl 33 und33 (.tmp 43) (.tmp 45) rfl (b + 1) xs (.slice av xs.length cv) rfl HOR.out HSZ.out c rfl (by have := HXL.out; omega) ?_; intro v' w5 hO hsh hg hto; have HO5 := hdn hO; have HG5 := hdn hg; have HTO5 := hdn hto; obtain ⟨g5, c5, rfl⟩ := hsh; have cb5 : w5.cell? ⟨b, k, none⟩ = some (.slice av xs.length cv) := (by have h9 := HR.out.blk.grown hg (fun q' hq' => by have := (HOR.out.lt q' hq').1; omega); obtain ⟨v9, hv9, _, hc9, _⟩ := HR.out.at_ (part_at HLT.out (cal (nms s.l) (ns.take j))); rw [← hcb]; exact (h9.cell k).trans (HR.out.blk.cell k).symm); have fb5 : w5.frozen? ⟨b, k, none⟩ = false := (HR.out.blk.grown hg (fun q' hq' => by have := (HOR.out.lt q' hq').1; omega)).frozen k; clear hO hg hto))
      have gS : w5.grownBy (w5.setCell ⟨b, k, none⟩ (.slice (some ⟨g5, 0, none⟩) (xs.length + 1) c5)) (some b) := grownBy_setC w5 ⟨b, k, none⟩ _
      have HP := hdn (HR.out.push HV.out (part_at HLT.out _) HO5.out HG5.out HTO5.out)
      have hbb := HBB.out
      have HB5 : Hid (Below w.heap.size w w5) := hdn (HB.out.grown HG5.out HB.out.size (fun q hq => by have := (HOR.out.lt q hq).1; omega))
      have HB6 : Hid (Below w.heap.size w (w5.setCell ⟨b, k, none⟩ (.slice (some ⟨g5, 0, none⟩) (xs.length + 1) c5))) := hdn (below_rp HB5.out gS hbb.1)
      have HN6 : Hid (NM (w5.setCell ⟨b, k, none⟩ (.slice (some ⟨g5, 0, none⟩) (xs.length + 1) c5)) mb (nms s.l)) := hdn (HN.out.same (by
       rw [gS.block mb (Nat.lt_of_lt_of_le HN.out.lt HG5.out.size) (by intro e; injection e with e; omega)]
       exact HG5.out.block mb HN.out.lt (fun e => by have := (HOR.out.lt mb e.symm).1; omega)))
      have HO6 : Hid ((w5.setCell ⟨b, k, none⟩ (.slice (some ⟨g5, 0, none⟩) (xs.length + 1) c5)).ownsRow n3 9 1 (.slice (some ⟨g3, 0, none⟩) ns.length c3) ns.length (sv ns)) := hdn (own_par (HO.out.kept HG5.out (by
       right
       intro e
       cases hq : (Value.slice av xs.length cv).ownBlock with
       | none => rw [hq] at e; cases e
       | some q => exact HD.out _ q HV.out hq (e.trans hq))) gS HB3W.out)
      have HD6 : Hid (∀ v q, (vs.set k (.slice (some ⟨g5, 0, none⟩) (xs.length + 1) c5))[k]? = some v → v.ownBlock = some q → (Value.slice (some ⟨g3, 0, none⟩) ns.length c3).ownBlock ≠ some q) := hdn (by
       intro v q hv hq
       rw [List.getElem?_set_self (List.getElem?_eq_some_iff.1 HV.out).1] at hv
       cases hv
       rcases HTO5.out with h1 | ⟨k9, h1, h2⟩
       ·rw [h1] at hq; exact HD.out _ q HV.out hq
       ·rw [h2] at hq; cases hq
        intro e
        have := (HO.out.lt _ e).2
        omega)
      have HA' : Hid (c = (plc (nms s.l) nm : Int)) := hdn (by
       have h1 := HA.out
       rw [HNUM.out, HKL.out] at h1
       injection h1 with h1; injection h1 with _ h1; exact h1.symm)
      go_roundw
      case rel => exact ⟨j + 1, _, by go_num, by omega, hdn (by have h9 := HP.out; rw [part_set HLT.out] at h9; rw [HTK.out, cal_append]; simp only [cal, HIN.out, if_true, List.append_nil]; rw [← HXS.out, ← HA'.out]; exact h9), HN6, HB6, hdn (Nat.le_trans HSZ.out (Nat.le_trans HG5.out.size gS.size)), HO6, HD6⟩
      case measure => simp [Lib.intOf]; omega
    ·have HJE : Hid (ns.take j = ns) := hdn (List.take_of_length_le (by omega))
     go_wp2_with fail
     go_roundw
     case rel => exact ⟨k + 1, vs, by go_num, by have := HLT.out; omega, hdn (by rw [← part_done HX.out]; have h9 := HR.out; rw [HJE.out, HNS.out] at h9; exact h9), HN, HB, HSZ⟩
     case measure => have := HLT.out; simp [Lib.intOf]; omega
  ·have HKE : Hid (k = s.l.length) := hdn (by omega)
   go_wp2_with fail
   go_ret
   exact ⟨b + 1, b, vs, rfl, by have h9 := HR.out; rw [HKE.out, Nat.sub_self, List.take_of_length_le (by rw [web_len]; exact Nat.le_refl _)] at h9; simpa using h9, HB.out, HBB.out.1, HSZ.out⟩
end Go.Proofs.YtmhpaacjioeknaaGreat
namespace Go.Proofs.YtmhpaacjioeknaaGreat
open Go.RowKit Go.Maps Go.Sort Go.WideMaps
/-- A number goes to the end of a row. -/
def addTo (YS : List (List Int)) (t : Nat) (x : Int) : List (List Int) := YS.set t (YS.getD t [] ++ [x])
def trnRow (x : Int) : List (List Int) → List Int → List (List Int)
 | YS, [] => YS
 | YS, e :: r => trnRow x (addTo YS e.toNat x) r
def trnGo : Nat → List (List Int) → List (List Int) → List (List Int)
 | _, YS, [] => YS
 | k, YS, xs :: r => trnGo (k + 1) (trnRow (k : Int) YS xs) r
def trn (XS : List (List Int)) : List (List Int) := trnGo 0 (List.replicate XS.length []) XS
theorem addTo_len (YS : List (List Int)) (t : Nat) (x : Int) : (addTo YS t x).length = YS.length := by simp [addTo]
theorem trnRow_len (x : Int) : ∀ (YS : List (List Int)) (xs : List Int), (trnRow x YS xs).length = YS.length
 | YS, [] => rfl
 | YS, e :: r => by rw [trnRow, trnRow_len x _ r, addTo_len]
theorem trnRow_snoc (x : Int) : ∀ (YS : List (List Int)) (xs : List Int) (e : Int), trnRow x YS (xs ++ [e]) = addTo (trnRow x YS xs) e.toNat x
 | YS, [], e => rfl
 | YS, a :: r, e => by rw [List.cons_append, trnRow, trnRow, trnRow_snoc x _ r e]
theorem trnGo_snoc : ∀ (k : Nat) (YS XS : List (List Int)) (xs : List Int), trnGo k YS (XS ++ [xs]) = trnRow ((k + XS.length : Nat) : Int) (trnGo k YS XS) xs
 | k, YS, [], xs => rfl
 | k, YS, a :: r, xs => by
  rw [List.cons_append, trnGo, trnGo, trnGo_snoc (k + 1) _ r xs, List.length_cons, show k + 1 + r.length = k + (r.length + 1) by omega]
theorem trnGo_len : ∀ (k : Nat) (YS XS : List (List Int)), (trnGo k YS XS).length = YS.length
 | _, _, [] => rfl
 | k, YS, xs :: r => by rw [trnGo, trnGo_len, trnRow_len]
/-- All rows have at most m numbers. -/
def Slim (YS : List (List Int)) (m : Nat) : Prop := ∀ ys ∈ YS, ys.length ≤ m
theorem slim_add {YS : List (List Int)} {m : Nat} (h : Slim YS m) (t : Nat) (x : Int) : Slim (addTo YS t x) (m + 1) := by
 intro ys hy
 rcases List.mem_or_eq_of_mem_set hy with hy | rfl
 ·have := h ys hy; omega
 ·rw [List.length_append, List.length_singleton]
  rw [List.getD_eq_getElem?_getD]
  cases hq : YS[t]? with
  | none => simp
  | some zs => have := h zs (List.mem_of_getElem? hq); simp; omega
theorem turned_any {B b : Nat} {vs : List Value} {XS : List (List Int)} (w : World) (h : Rws w B b vs XS) (hn : XS.length ≤ 1000) (hx : ∀ xs ∈ XS, xs.length ≤ 10000 ∧ ∀ e ∈ xs, 0 ≤ e ∧ e < XS.length) (c : Nat) :
  Calls Tryz.prog 36 #[.slice (some ⟨b, 0, none⟩) XS.length c] w fun e w' => ∃ B' b' vs', e = .returned (.slice (some ⟨b', 0, none⟩) XS.length XS.length) ∧ Rws w' B' b' vs' (trn XS) ∧ Below w.heap.size w w' ∧ w.heap.size ≤ b' ∧ B' ≤ w'.heap.size := by
 have H0 := hdn h
 have HX := hdn hx
 have HLL : Hid (XS.length ≤ 1000) := hdn hn
 have hl' : (XS.length : Int) ≤ 1000 := by omega
 obtain ⟨ir, hir, hz0, hz1, hz2⟩ := info_parts infoRow
 have HIR := hdn (And.intro hir (And.intro hz0 (And.intro hz1 hz2)))
 clear h hx hir hz0 hz1 hz2
 go_enter Tryz.func36, Tryz.ntmps36
 go_wp2_with (at_make; refine wpList_make_row _ rfl _ _ 45 rfl 33 ir (.slice none 0 0) Tryz.underlying45 HIR.out.1 HIR.out.2.1 HIR.out.2.2.1 rfl .i64 .i64 XS.length rfl rfl (by rw [HIR.out.2.2.2]; have := HLL.out; omega) (by have := HLL.out; omega) ?_)
 have hm : Below w.heap.size w (w.alloc (.cells (madeCells #[.slice none 0 0] XS.length) 33)) := (Below.refl _ _).alloc (Nat.le_refl _) _
 have HR2 := hdn (Rws.nil w XS.length)
 have HB2 := hdn hm
 have HSZ : Hid (w.heap.size + 1 ≤ (w.alloc (.cells (madeCells #[.slice none 0 0] XS.length) 33)).heap.size) := hdn (by simp)
 clear hm hn
 generalize w.alloc (.cells (madeCells #[.slice none 0 0] XS.length) 33) = w2 at HR2 HB2 HSZ ⊢
 obtain ⟨b', hb'⟩ : ∃ b', b' = w.heap.size := ⟨_, rfl⟩
 have HBB : Hid (b' = w.heap.size) := hdn hb'
 rw [← hb'] at HR2 HSZ HB2 ⊢
 clear hb'
 go_loopw [4, 5, 7, 13] (fun s4 s5 s7 sk wr => ∃ (k : Nat) (us : List Value), sk = .int .i64 k ∧ k ≤ XS.length ∧ Hid (Rws wr (b' + 1) b' us (trnGo 0 (List.replicate XS.length []) (XS.take k))) ∧ Hid (Slim (trnGo 0 (List.replicate XS.length []) (XS.take k)) (10000 * k)) ∧ Hid (Below b' w wr) ∧ Hid (b' + 1 ≤ wr.heap.size)) (fun _ _ _ sk _ => XS.length - (Lib.intOf sk).toNat)
 case atStart => exact ⟨0, _, rfl, Nat.zero_le _, HR2, hdn (by intro ys hy; rw [List.take_zero] at hy; simp only [trnGo] at hy; rw [List.eq_of_mem_replicate hy]; exact Nat.zero_le _), HB2, HSZ⟩
 case round =>
  clear HR2 HB2 HSZ
  obtain ⟨k, us, rfl, hk, HR, HSL, HB, HSZ⟩ := hrel
  have HIN : Hid (Rws wr B b vs XS) := hdn (H0.out.below (by rw [← HBB.out]; exact HB.out))
  by_cases hlt : k < XS.length
  ·obtain ⟨xs, hxs⟩ : ∃ xs, XS[k]? = some xs := ⟨_, List.getElem?_eq_getElem hlt⟩
   obtain ⟨v, hv, hor, hcb, hfb⟩ := HIN.out.at_ hxs
   have HXS := hdn hxs
   have HXX := hdn (HX.out xs (List.mem_of_getElem? hxs))
   have HTS := hdn (take_snocL hxs)
   have HLT := hdn hlt
   obtain ⟨av, cv, rfl⟩ := hor.shape
   have HVK := hdn hv
   have hxl : (xs.length : Int) ≤ 10000 := by have := HXX.out.1; omega
   have HTR : Hid (Rws wr (b' + 1) b' us (trnRow (k : Int) (trnGo 0 (List.replicate XS.length []) (XS.take k)) (xs.take 0))) := hdn HR.out
   have HTL : Hid (Slim (trnRow (k : Int) (trnGo 0 (List.replicate XS.length []) (XS.take k)) (xs.take 0)) (10000 * k + 0)) := hdn HSL.out
   obtain ⟨Y0, hY0⟩ : ∃ Y0, Y0 = trnGo 0 (List.replicate XS.length []) (XS.take k) := ⟨_, rfl⟩
   have HY0 := hdn hY0
   have HYL : Hid (Y0.length = XS.length) := hdn (by rw [hY0, trnGo_len]; simp)
   rw [← hY0] at HTR HTL
   clear hxs hv hor hY0 HR HSL
   go_wp2_with fail
   go_loopw [7, 20] (fun s7 sj wr => ∃ (j : Nat) (us : List Value), sj = .int .i64 j ∧ j ≤ xs.length ∧ Hid (Rws wr (b' + 1) b' us (trnRow (k : Int) Y0 (xs.take j))) ∧ Hid (Slim (trnRow (k : Int) Y0 (xs.take j)) (10000 * k + j)) ∧ Hid (Below b' w wr) ∧ Hid (b' + 1 ≤ wr.heap.size)) (fun _ sj _ => xs.length - (Lib.intOf sj).toNat)
   case atStart => exact ⟨0, us, rfl, Nat.zero_le _, HTR, HTL, HB, HSZ⟩
   case round =>
    clear HTR HTL HB HSZ HIN hcb hfb
    obtain ⟨j, us, rfl, hj, HR, HSL, HB, HSZ⟩ := hrel
    have HIN : Hid (Rws wr B b vs XS) := hdn (H0.out.below (by rw [← HBB.out]; exact HB.out))
    by_cases hjl : j < xs.length
    ·have hor := HIN.out.row k _ xs HVK.out HXS.out
     obtain ⟨gv, cv', hsh, _⟩ := hor.block (by omega)
     injection hsh with e1 e2 e3
     subst e1; subst e3
     have hcx := hor.cell j hjl
     obtain ⟨x, hx⟩ : ∃ x, x = fn xs j := ⟨_, rfl⟩
     obtain ⟨t, ht⟩ : ∃ t : Nat, x = (t : Int) ∧ t < XS.length := by
      have h1 := HXX.out.2 (fn xs j) (by rw [fn_get xs j hjl]; exact List.getElem_mem hjl)
      exact ⟨(fn xs j).toNat, by rw [hx]; omega, by omega⟩
     obtain ⟨htx, htl⟩ := ht
     have HTX : Hid (xs[j]? = some (t : Int)) := hdn (by rw [List.getElem?_eq_getElem hjl, ← fn_get xs j hjl, ← hx, htx])
     rw [← hx, htx] at hcx
     obtain ⟨zs, hzs⟩ : ∃ zs, (trnRow (k : Int) Y0 (xs.take j))[t]? = some zs := ⟨_, List.getElem?_eq_getElem (by rw [trnRow_len, HYL.out]; exact htl)⟩
     obtain ⟨v, hv, hov, hcv, hfv⟩ := HR.out.at_ hzs
     obtain ⟨av, cw, rfl⟩ := hov.shape
     have HZL : Hid (zs.length ≤ 100000000) := hdn (by have h1 := HSL.out zs (List.mem_of_getElem? hzs); have := HXX.out.1; have := HLT.out; have := HLL.out; omega)
     have HOV := hdn hov
     have HV := hdn hv
     have HZS := hdn hzs
     have HTXI := hdn (take_snocL HTX.out)
     have htl' : (t : Int) < (XS.length : Int) := by omega
     clear hor hov hv hzs hx htx e2
     go_wp2_with ((with_reducible show wpList _ _ _ (Oper.mk (some 32) _ _ _ _ _ :: _) _ _); refine wpList_app_int rfl 33 und33 (.tmp 29) (.tmp 31) rfl (b' + 1) zs (.slice av zs.length cw) rfl HOV.out HSZ.out (k : Int) rfl HZL.out ?_; intro v' w5 hO hsh hg hto; have HO5 := hdn hO; have HG5 := hdn hg; have HTO5 := hdn hto; obtain ⟨g5, c5, rfl⟩ := hsh; have cb5 : w5.cell? ⟨b', t, none⟩ = some (.slice av zs.length cw) := (by have h9 := HR.out.blk.grown hg (fun q' hq' => by have := (HOV.out.lt q' hq').1; omega); rw [← hcv]; exact (h9.cell t).trans (HR.out.blk.cell t).symm); have fb5 : w5.frozen? ⟨b', t, none⟩ = false := (HR.out.blk.grown hg (fun q' hq' => by have := (HOV.out.lt q' hq').1; omega)).frozen t; clear hO hg hto)
     have gS : w5.grownBy (w5.setCell ⟨b', t, none⟩ (.slice (some ⟨g5, 0, none⟩) (zs.length + 1) c5)) (some b') := grownBy_setC w5 ⟨b', t, none⟩ _
     have HP := hdn (HR.out.push HV.out HZS.out HO5.out HG5.out HTO5.out)
     have HB6 : Hid (Below b' w (w5.setCell ⟨b', t, none⟩ (.slice (some ⟨g5, 0, none⟩) (zs.length + 1) c5))) := hdn (by
      have h9 : Below w.heap.size w (w5.setCell ⟨b', t, none⟩ (.slice (some ⟨g5, 0, none⟩) (zs.length + 1) c5)) := below_rp (Below.grown (by rw [← HBB.out]; exact HB.out) HG5.out (by have := HSZ.out; have := HBB.out; omega) (fun q hq => by have := (HOV.out.lt q hq).1; have := HBB.out; omega)) gS (by have := HBB.out; omega)
      rwa [← HBB.out] at h9)
     go_roundw
     case rel => exact ⟨j + 1, _, by go_num, by omega, hdn (by rw [HTXI.out, trnRow_snoc]; unfold addTo; rw [Int.toNat_natCast, List.getD_eq_getElem?_getD, HZS.out]; exact HP.out), hdn (by rw [HTXI.out, trnRow_snoc]; exact slim_add HSL.out _ _), HB6, hdn (Nat.le_trans HSZ.out (Nat.le_trans HG5.out.size gS.size))⟩
     case measure => simp [Lib.intOf]; omega
    ·have HJE : Hid (xs.take j = xs) := hdn (List.take_of_length_le (by omega))
     go_wp2_with fail
     go_roundw
     case rel => exact ⟨k + 1, us, by go_num, by have := HLT.out; omega, hdn (by rw [HTS.out, trnGo_snoc, List.length_take, Nat.min_eq_left (by have := HLT.out; omega), Nat.zero_add, ← HY0.out]; have h9 := HR.out; rwa [HJE.out] at h9), hdn (by
      rw [HTS.out, trnGo_snoc, List.length_take, Nat.min_eq_left (by have := HLT.out; omega), Nat.zero_add, ← HY0.out]
      have h9 := HSL.out
      rw [HJE.out] at h9
      intro ys hy
      have h8 := h9 ys hy
      have h7 : j ≤ xs.length := by omega
      have := HXX.out.1
      omega), HB, HSZ⟩
     case measure => have := HLT.out; simp [Lib.intOf]; omega
  ·have HKE : Hid (XS.take k = XS) := hdn (List.take_of_length_le (by omega))
   go_wp2_with fail
   go_ret
   exact ⟨b' + 1, b', us, rfl, by have h9 := HR.out; rw [HKE.out] at h9; exact h9, by rw [← HBB.out]; exact HB.out, Nat.le_of_eq HBB.out.symm, HSZ.out⟩
end Go.Proofs.YtmhpaacjioeknaaGreat
namespace Go.Proofs.YtmhpaacjioeknaaGreat
theorem getD_set_self {α : Type} (l : List α) (t : Nat) (y d : α) (h : t < l.length) : (l.set t y).getD t d = y := by
 rw [List.getD_eq_getElem?_getD, List.getElem?_set_self h]; rfl
theorem getD_set_ne {α : Type} (l : List α) (t s : Nat) (y d : α) (h : t ≠ s) : (l.set t y).getD s d = l.getD s d := by
 rw [List.getD_eq_getElem?_getD, List.getD_eq_getElem?_getD, List.getElem?_set_ne h]
theorem addTo_at (YS : List (List Int)) (t : Nat) (x : Int) (h : t < YS.length) : (addTo YS t x).getD t [] = YS.getD t [] ++ [x] := getD_set_self _ _ _ _ h
theorem addTo_ne (YS : List (List Int)) (t s : Nat) (x : Int) (h : t ≠ s) : (addTo YS t x).getD s [] = YS.getD s [] := getD_set_ne _ _ _ _ _ h
theorem trnRow_at (x : Int) : ∀ (YS : List (List Int)) (xs : List Int), (∀ e ∈ xs, 0 ≤ e ∧ e < YS.length) → ∀ i, i < YS.length → (trnRow x YS xs).getD i [] = YS.getD i [] ++ List.replicate (xs.count (i : Int)) x
 | YS, [], _, i, _ => by simp [trnRow]
 | YS, e :: r, h, i, hi => by
  have he := h e (by simp)
  rw [trnRow, trnRow_at x _ r (by intro e' he'; rw [addTo_len]; exact h e' (by simp [he'])) i (by rw [addTo_len]; exact hi), List.count_cons]
  by_cases hc : e.toNat = i
  ·rw [← hc, addTo_at _ _ _ (by omega)]
   rw [show ((e.toNat : Nat) : Int) = e by omega]
   simp only [beq_self_eq_true, if_true]
   rw [List.append_assoc]; rfl
  ·rw [addTo_ne _ _ _ _ hc]
   rw [if_neg (by simp; omega), Nat.add_zero]
theorem trnGo_count : ∀ (k : Nat) (YS XS : List (List Int)), (∀ xs ∈ XS, ∀ e ∈ xs, 0 ≤ e ∧ e < YS.length) → ∀ i, i < YS.length → ∀ x : Int,
  ((trnGo k YS XS).getD i []).count x = (YS.getD i []).count x + (if (k : Int) ≤ x then (XS.getD (x.toNat - k) []).count (i : Int) else 0)
 | k, YS, [], _, i, _, x => by simp [trnGo]
 | k, YS, xs :: r, h, i, hi, x => by
  rw [trnGo, trnGo_count (k + 1) _ r (by intro ys hy; rw [trnRow_len]; exact h ys (by simp [hy])) i (by rw [trnRow_len]; exact hi) x, trnRow_at _ _ _ (h xs (by simp)) i hi, List.count_append, List.count_replicate]
  by_cases h1 : (k : Int) ≤ x
  ·by_cases h2 : x = (k : Int)
   ·subst h2
    rw [if_neg (show ¬ ((k + 1 : Nat) : Int) ≤ (k : Int) by omega)]
    simp
   ·rw [if_pos (show ((k + 1 : Nat) : Int) ≤ x by omega), if_pos h1, if_neg (by simp; omega)]
    rw [show x.toNat - k = (x.toNat - (k + 1)) + 1 by omega, List.getD_cons_succ]; omega
  ·rw [if_neg (show ¬ ((k + 1 : Nat) : Int) ≤ x by omega), if_neg h1, if_neg (by simp; omega)]
theorem trn_len (XS : List (List Int)) : (trn XS).length = XS.length := by rw [trn, trnGo_len]; simp
theorem trn_count {XS : List (List Int)} (h : ∀ xs ∈ XS, ∀ e ∈ xs, 0 ≤ e ∧ e < XS.length) {i : Nat} (hi : i < XS.length) (x : Int) :
  ((trn XS).getD i []).count x = if 0 ≤ x then (XS.getD x.toNat []).count (i : Int) else 0 := by
 unfold trn
 rw [trnGo_count 0 _ XS (by intro xs hx e he; rw [List.length_replicate]; exact h xs hx e he) i (by rw [List.length_replicate]; exact hi)]
 have h1 : (List.replicate XS.length ([] : List Int)).getD i [] = [] := by
  rw [List.getD_eq_getElem?_getD, List.getElem?_replicate]; split <;> rfl
 rw [h1]; simp
theorem trn_mem {XS : List (List Int)} (h : ∀ xs ∈ XS, ∀ e ∈ xs, 0 ≤ e ∧ e < XS.length) {i : Nat} (hi : i < XS.length) {x : Int} (hx : x ∈ (trn XS).getD i []) : ∃ c : Nat, x = (c : Int) ∧ c < XS.length := by
 have h1 := List.count_pos_iff.2 hx
 rw [trn_count h hi] at h1
 split at h1
 ·refine ⟨x.toNat, by omega, ?_⟩
  apply Classical.byContradiction
  intro hn
  rw [List.getD_eq_getElem?_getD, List.getElem?_eq_none (by omega)] at h1
  simp at h1
 ·omega
theorem slim_row (x : Int) : ∀ (YS : List (List Int)) (xs : List Int) (m : Nat), Slim YS m → Slim (trnRow x YS xs) (m + xs.length)
 | YS, [], m, h => h
 | YS, e :: r, m, h => by
  rw [trnRow, List.length_cons, show m + (r.length + 1) = (m + 1) + r.length by omega]
  exact slim_row x _ r (m + 1) (slim_add h _ _)
theorem slim_go (L : Nat) : ∀ (k : Nat) (YS XS : List (List Int)) (m : Nat), Slim YS m → (∀ xs ∈ XS, xs.length ≤ L) → Slim (trnGo k YS XS) (m + L * XS.length)
 | k, YS, [], m, h, _ => h
 | k, YS, xs :: r, m, h, hl => by
  have h1 := slim_go L (k + 1) _ r (m + xs.length) (slim_row (k : Int) YS xs m h) (fun ys hy => hl ys (by simp [hy]))
  intro ys hy
  have h2 := h1 ys hy
  have h3 := hl xs (by simp)
  rw [List.length_cons, Nat.mul_add]
  omega
theorem slim_trn {L : Nat} {XS : List (List Int)} (h : ∀ xs ∈ XS, xs.length ≤ L) : Slim (trn XS) (L * XS.length) := by
 have h1 := slim_go L 0 (List.replicate XS.length []) XS 0 (by intro ys hy; rw [List.eq_of_mem_replicate hy]; exact Nat.zero_le _) h
 rwa [Nat.zero_add] at h1
/-- How many of a row were not told. -/
def lft (os xs : List Int) : Nat := xs.countP fun e => !os.contains e
/-- It can be told. -/
def Rdy (XS : List (List Int)) (os : List Int) (i : Nat) : Prop := i < XS.length ∧ (i : Int) ∉ os ∧ lft os (XS.getD i []) = 0
/-- So many were told, each time the least one. -/
inductive Told (XS : List (List Int)) : List Int → Prop
 | nil : Told XS []
 | snoc (os : List Int) (i : Nat) : Told XS os → Rdy XS os i → (∀ k, Rdy XS os k → i ≤ k) → Told XS (os ++ [(i : Int)])
theorem lft_nil (xs : List Int) : lft [] xs = xs.length := by
 unfold lft
 rw [List.countP_eq_length]; intro a _; simp
theorem lft_snoc {os : List Int} {i : Int} (hi : i ∉ os) : ∀ xs : List Int, lft (os ++ [i]) xs + xs.count i = lft os xs
 | [] => rfl
 | x :: r => by
  have ih := lft_snoc hi r
  unfold lft at ih ⊢
  rw [List.countP_cons, List.countP_cons, List.count_cons]
  by_cases hx : x = i
  ·subst hx
   have h1 : (os ++ [x]).contains x = true := by simp
   have h2 : os.contains x = false := by simpa using hi
   rw [h1, h2]; simp only [Bool.not_true, Bool.not_false, Bool.false_eq_true, if_false, if_true, beq_self_eq_true]; omega
  ·have h1 : (os ++ [i]).contains x = os.contains x := by
    rw [Bool.eq_iff_iff]; simp [hx]
   rw [h1]
   have h2 : (x == i) = false := by simpa using hx
   rw [h2]; simp only [Bool.false_eq_true, if_false]; omega
theorem lft_le (os xs : List Int) : lft os xs ≤ xs.length := List.countP_le_length
theorem told_at {XS : List (List Int)} {os : List Int} (h : Told XS os) : os.Nodup ∧ ∀ x ∈ os, ∃ c : Nat, x = (c : Int) ∧ c < XS.length ∧ lft os (XS.getD c []) = 0 := by
 induction h with
 | nil => exact ⟨List.nodup_nil, by simp⟩
 | snoc os i _ hr _ ih =>
  have hz : ∀ xs, lft os xs = 0 → lft (os ++ [(i : Int)]) xs = 0 := by
   intro xs h; have := lft_snoc hr.2.1 xs; omega
  refine ⟨?_, ?_⟩
  ·rw [List.nodup_append]
   refine ⟨ih.1, by simp, ?_⟩
   intro a ha b hb e
   simp at hb
   exact hr.2.1 (by rw [← hb, ← e]; exact ha)
  ·intro x hx
   rw [List.mem_append, List.mem_singleton] at hx
   rcases hx with hx | rfl
   ·obtain ⟨c, h1, h2, h3⟩ := ih.2 x hx
    exact ⟨c, h1, h2, hz _ h3⟩
   ·exact ⟨i, rfl, hr.1, hz _ hr.2.2⟩
theorem nodup_len {n : Nat} {l : List Int} (h : l.Nodup) (hr : ∀ x ∈ l, ∃ c : Nat, x = (c : Int) ∧ c < n) : l.length ≤ n := by
 have h1 : (l.map Int.toNat).Nodup := by
  rw [List.nodup_iff_pairwise_ne, List.pairwise_map]
  refine List.Pairwise.imp_of_mem ?_ h
  intro a b ha hb hne e
  obtain ⟨c, rfl, _⟩ := hr a ha
  obtain ⟨d, rfl, _⟩ := hr b hb
  simp at e
  exact hne (by rw [e])
 have h2 := Go.nodup_lt_length n _ h1 (by
  intro x hx
  obtain ⟨a, ha, rfl⟩ := List.mem_map.1 hx
  obtain ⟨c, rfl, hc⟩ := hr a ha
  simpa using hc)
 rwa [List.length_map] at h2
theorem told_len {XS : List (List Int)} {os : List Int} (h : Told XS os) : os.length ≤ XS.length := by
 have h1 := told_at h
 exact nodup_len h1.1 fun x hx => by obtain ⟨c, h2, h3, _⟩ := h1.2 x hx; exact ⟨c, h2, h3⟩
/-- The state between two turns: left and the queue's numbers; rs are still to be told that one they call was. -/
structure Turn (XS : List (List Int)) (os rs ls hs : List Int) : Prop where
 len : ls.length = XS.length
 val : ∀ c, c < XS.length → fn ls c = (lft os (XS.getD c []) : Int) + (rs.count (c : Int) : Int)
 nd : hs.Nodup
 mem : ∀ x, x ∈ hs ↔ ∃ c : Nat, x = (c : Int) ∧ c < XS.length ∧ x ∉ os ∧ fn ls c = 0
 out : ∀ c ∈ rs, c ∉ os
/-- While the first k are laid. -/
structure Laid (XS : List (List Int)) (k : Nat) (ls hs : List Int) : Prop where
 len : ls.length = XS.length
 val : ∀ c, c < k → fn ls c = ((XS.getD c []).length : Int)
 nd : hs.Nodup
 mem : ∀ x, x ∈ hs ↔ ∃ c : Nat, x = (c : Int) ∧ c < k ∧ fn ls c = 0
theorem fn_set (ls : List Int) {k : Nat} (hk : k < ls.length) (y : Int) (c : Nat) : fn (ls.set k y) c = if c = k then y else fn ls c := by
 unfold fn
 by_cases h : c = k
 ·subst h; rw [if_pos rfl, getD_set_self _ _ _ _ hk]
 ·rw [if_neg h, getD_set_ne _ _ _ _ _ (fun e => h e.symm)]
theorem nodup_snoc {hs ys : List Int} {k : Int} (h : hs.Nodup) (hk : k ∉ hs) (hp : ys.Perm (hs ++ [k])) : ys.Nodup := by
 rw [hp.nodup_iff, List.nodup_append]
 refine ⟨h, by simp, ?_⟩
 intro a ha b hb e
 simp at hb
 exact hk (by rw [← hb, ← e]; exact ha)
theorem laid_start (XS : List (List Int)) : Laid XS 0 (List.replicate XS.length 0) [] := ⟨by simp, by omega, List.nodup_nil, by intro x; simp⟩
theorem laid_keep {XS : List (List Int)} {k : Nat} {ls hs : List Int} (h : Laid XS k ls hs) (hk : k < XS.length) (hz : (XS.getD k []).length ≠ 0) : Laid XS (k + 1) (ls.set k ((XS.getD k []).length : Int)) hs := by
 have hkl : k < ls.length := by rw [h.len]; exact hk
 refine ⟨by rw [List.length_set]; exact h.len, ?_, h.nd, ?_⟩
 ·intro c hc
  rw [fn_set ls hkl]
  split
  ·next e => rw [e]
  ·exact h.val c (by omega)
 ·intro x
  rw [h.mem x]
  constructor
  ·rintro ⟨c, h1, h2, h3⟩
   exact ⟨c, h1, by omega, by rw [fn_set ls hkl, if_neg (by omega)]; exact h3⟩
  ·rintro ⟨c, h1, h2, h3⟩
   rw [fn_set ls hkl] at h3
   split at h3
   ·omega
   ·exact ⟨c, h1, by omega, h3⟩
theorem laid_push {XS : List (List Int)} {k : Nat} {ls hs ys : List Int} (h : Laid XS k ls hs) (hk : k < XS.length) (hz : (XS.getD k []).length = 0) (hp : ys.Perm (hs ++ [(k : Int)])) : Laid XS (k + 1) (ls.set k ((XS.getD k []).length : Int)) ys := by
 have hkl : k < ls.length := by rw [h.len]; exact hk
 refine ⟨by rw [List.length_set]; exact h.len, ?_, ?_, ?_⟩
 ·intro c hc
  rw [fn_set ls hkl]
  split
  ·next e => rw [e]
  ·exact h.val c (by omega)
 ·refine nodup_snoc h.nd ?_ hp
  rw [h.mem]
  rintro ⟨c, h1, h2, _⟩; omega
 ·intro x
  rw [hp.mem_iff, List.mem_append, List.mem_singleton, h.mem x]
  constructor
  ·rintro (⟨c, h1, h2, h3⟩ | rfl)
   ·exact ⟨c, h1, by omega, by rw [fn_set ls hkl, if_neg (by omega)]; exact h3⟩
   ·exact ⟨k, rfl, by omega, by rw [fn_set ls hkl, if_pos rfl, hz]; rfl⟩
  ·rintro ⟨c, h1, h2, h3⟩
   rw [fn_set ls hkl] at h3
   split at h3
   ·next e => right; rw [h1, e]
   ·exact .inl ⟨c, h1, by omega, h3⟩
theorem laid_end {XS : List (List Int)} {ls hs : List Int} (h : Laid XS XS.length ls hs) : Turn XS [] [] ls hs := by
 refine ⟨h.len, ?_, h.nd, ?_, by simp⟩
 ·intro c hc; rw [h.val c hc, lft_nil]; simp
 ·intro x; rw [h.mem x]; simp
theorem turn_pop {XS : List (List Int)} {os ls hs ys : List Int} (hx : ∀ xs ∈ XS, ∀ e ∈ xs, 0 ≤ e ∧ e < XS.length) (h : Turn XS os [] ls hs) (ht : Told XS os) (hh : HpA (fn hs) hs.length) (h0 : 0 < hs.length) (hp : (ys ++ [fn hs 0]).Perm hs) :
  ∃ i : Nat, fn hs 0 = (i : Int) ∧ i < XS.length ∧ Told XS (os ++ [(i : Int)]) ∧ Turn XS (os ++ [(i : Int)]) ((trn XS).getD i []) ls ys := by
 have hm0 : fn hs 0 ∈ hs := by rw [fn_get hs 0 h0]; exact List.getElem_mem h0
 obtain ⟨i, hi, hin, hio, hiz⟩ := (h.mem _).1 hm0
 have hmin : ∀ x ∈ hs, (i : Int) ≤ x := by
  intro x hx
  obtain ⟨j, hj, rfl⟩ := List.getElem_of_mem hx
  have := hp_min hh j hj
  rw [fn_get hs j hj, hi] at this
  exact this
 rw [hi] at hio hp
 have hrd : Rdy XS os i := ⟨hin, hio, by have h7 := h.val i hin; rw [hiz] at h7; rw [List.count_nil] at h7; omega⟩
 have hnd : (ys ++ [(i : Int)]).Nodup := hp.nodup_iff.2 h.nd
 rw [List.nodup_append] at hnd
 refine ⟨i, hi, hin, .snoc os i ht hrd ?_, ⟨h.len, ?_, hnd.1, ?_, ?_⟩⟩
 ·intro k hk
  have := hmin k ((h.mem _).2 ⟨k, rfl, hk.1, hk.2.1, by have := h.val k hk.1; rw [hk.2.2] at this; simpa using this⟩)
  omega
 ·intro c hc
  rw [h.val c hc, trn_count hx hin, if_pos (by omega), Int.toNat_natCast, ← lft_snoc hio (XS.getD c [])]
  simp
 ·intro x
  have hxy : x ∈ ys ↔ x ∈ hs ∧ x ≠ (i : Int) := by
   rw [← hp.mem_iff, List.mem_append, List.mem_singleton]
   constructor
   ·intro h1
    exact ⟨.inl h1, fun e => hnd.2.2 x h1 i (by simp) e⟩
   ·rintro ⟨h1 | h1, h2⟩
    ·exact h1
    ·exact absurd h1 h2
  rw [hxy, h.mem x]
  constructor
  ·rintro ⟨⟨c, h1, h2, h3, h4⟩, h5⟩
   exact ⟨c, h1, h2, by simp [h3, h5], h4⟩
  ·rintro ⟨c, h1, h2, h3, h4⟩
   simp only [List.mem_append, List.mem_singleton, not_or] at h3
   exact ⟨⟨c, h1, h2, h3.1, h4⟩, h3.2⟩
 ·intro x hxm hxo
  obtain ⟨c, rfl, hc⟩ := trn_mem hx hin hxm
  have h1 := List.count_pos_iff.2 hxm
  rw [trn_count hx hin, if_pos (by omega), Int.toNat_natCast] at h1
  have h2 := lft_snoc hio (XS.getD c [])
  rw [List.mem_append, List.mem_singleton] at hxo
  rcases hxo with h3 | h3
  ·obtain ⟨c', h4, _, h5⟩ := (told_at ht).2 _ h3
   have : c = c' := by omega
   subst this
   omega
  ·have : c = i := by omega
   subst this
   have := hrd.2.2
   omega
theorem turn_pos {XS : List (List Int)} {os rs ls hs : List Int} {c : Nat} (h : Turn XS os ((c : Int) :: rs) ls hs) (hc : c < XS.length) : 1 ≤ fn ls c := by
 have := h.val c hc
 rw [List.count_cons_self] at this
 omega
theorem turn_keep {XS : List (List Int)} {os rs ls hs : List Int} {c : Nat} (h : Turn XS os ((c : Int) :: rs) ls hs) (hc : c < XS.length) (hz : fn ls c - 1 ≠ 0) : Turn XS os rs (ls.set c (fn ls c - 1)) hs := by
 have hcl : c < ls.length := by rw [h.len]; exact hc
 have hp := turn_pos h hc
 refine ⟨by rw [List.length_set]; exact h.len, ?_, h.nd, ?_, fun x hx => h.out x (by simp [hx])⟩
 ·intro d hd
  have h1 := h.val d hd
  rw [List.count_cons] at h1
  rw [fn_set ls hcl]
  by_cases hdc : d = c
  ·subst hdc
   simp only [beq_self_eq_true, if_true] at h1 ⊢
   omega
  ·rw [if_neg hdc]
   rw [if_neg (by simp; omega)] at h1
   omega
 ·intro x
  rw [h.mem x]
  constructor
  ·rintro ⟨d, h1, h2, h3, h4⟩
   exact ⟨d, h1, h2, h3, by rw [fn_set ls hcl, if_neg (fun e => by rw [e] at h4; omega)]; exact h4⟩
  ·rintro ⟨d, h1, h2, h3, h4⟩
   rw [fn_set ls hcl] at h4
   split at h4
   ·omega
   ·exact ⟨d, h1, h2, h3, h4⟩
theorem turn_push {XS : List (List Int)} {os rs ls hs ys : List Int} {c : Nat} (h : Turn XS os ((c : Int) :: rs) ls hs) (hc : c < XS.length) (hz : fn ls c - 1 = 0) (hp : ys.Perm (hs ++ [(c : Int)])) : Turn XS os rs (ls.set c (fn ls c - 1)) ys := by
 have hcl : c < ls.length := by rw [h.len]; exact hc
 have hpos := turn_pos h hc
 have hco := h.out (c : Int) (by simp)
 refine ⟨by rw [List.length_set]; exact h.len, ?_, ?_, ?_, fun x hx => h.out x (by simp [hx])⟩
 ·intro d hd
  have h1 := h.val d hd
  rw [List.count_cons] at h1
  rw [fn_set ls hcl]
  by_cases hdc : d = c
  ·subst hdc
   simp only [beq_self_eq_true, if_true] at h1 ⊢
   omega
  ·rw [if_neg hdc]
   rw [if_neg (by simp; omega)] at h1
   omega
 ·refine nodup_snoc h.nd ?_ hp
  rw [h.mem]
  rintro ⟨d, h1, _, _, h4⟩
  have : c = d := by omega
  subst this; omega
 ·intro x
  rw [hp.mem_iff, List.mem_append, List.mem_singleton, h.mem x]
  constructor
  ·rintro (⟨d, h1, h2, h3, h4⟩ | rfl)
   ·exact ⟨d, h1, h2, h3, by rw [fn_set ls hcl, if_neg (fun e => by rw [e] at h4; omega)]; exact h4⟩
   ·exact ⟨c, rfl, hc, hco, by rw [fn_set ls hcl, if_pos rfl]; exact hz⟩
  ·rintro ⟨d, h1, h2, h3, h4⟩
   rw [fn_set ls hcl] at h4
   split at h4
   ·next e => right; rw [h1, e]
   ·exact .inl ⟨d, h1, h2, h3, h4⟩
theorem turn_len {XS : List (List Int)} {os rs ls hs : List Int} (h : Turn XS os rs ls hs) : hs.length ≤ XS.length :=
 nodup_len h.nd fun x hx => by obtain ⟨c, h1, h2, _⟩ := (h.mem x).1 hx; exact ⟨c, h1, h2⟩
theorem turn_end {XS : List (List Int)} {os ls : List Int} (h : Turn XS os [] ls []) (k : Nat) : ¬ Rdy XS os k := by
 intro hk
 have h1 := h.val k hk.1
 rw [hk.2.2] at h1
 have := (h.mem (k : Int)).2 ⟨k, rfl, hk.1, hk.2.1, by simpa using h1⟩
 simp at this
end Go.Proofs.YtmhpaacjioeknaaGreat
namespace Go.Proofs.YtmhpaacjioeknaaGreat
open Go.RowKit Go.Maps Go.Sort Go.WideMaps
theorem own_heap {w w' : World} {B : Nat} {e : TypeId} {k n : Nat} {v : Value} {xs : List Value} (h : w.ownsRow B e k v n xs) (hh : ∀ g, v.ownBlock = some g → w'.heap[g]? = w.heap[g]?) : w'.ownsRow B e k v n xs := by
 refine ⟨h.1, ?_⟩
 rcases h.2 with h0 | ⟨g, cap, cur, rfl, hb, hg, hr⟩
 ·exact .inl h0
 ·exact .inr ⟨g, cap, cur, rfl, hb, by rw [hh g rfl]; exact hg, hr⟩
theorem own_down {w : World} {B B' : Nat} {e : TypeId} {k n : Nat} {v : Value} {xs : List Value} (h : w.ownsRow B e k v n xs) (hB : B' ≤ B) : w.ownsRow B' e k v n xs := by
 refine ⟨h.1, ?_⟩
 rcases h.2 with h0 | ⟨g, cap, cur, rfl, hb, hr⟩
 ·exact .inl h0
 ·exact .inr ⟨g, cap, cur, rfl, Nat.le_trans hB hb, hr⟩
/-- 'make([]T, 0, n)', T of one cell. -/
theorem wpList_make_cap (w : World) {P : Program} {ops : Array Oper} {rest : List Oper} {o : Oper} {a : Act} {Q : Exit → Act → World → Prop}
  (hg : o.guard = none) (l c : Operand) (t : TypeId) (hop : o.op = Op.makeSlice t l c)
  (e : TypeId) (i : TypeInfo) (z : Value) (ht : P.underlying t = some (.slice e)) (hi : P.info? e = some i) (hz : i.zero = some z) (hsize : i.size = 1) (hz1 : z.cells = #[z])
  (kl kc : IntKind) (n : Nat) (hl : a.eval l = .int kl 0) (hc : a.eval c = .int kc (n : Int)) (hbytes : i.bytes * n ≤ 281474976710656) (h63 : n ≤ 9223372036854775807)
  (hK : wpList P ops Q rest (a.put o.dst (.slice (some ⟨w.heap.size, 0, none⟩) 0 n)) (w.alloc (.cells (madeCells #[z] n) e))) :
  wpList P ops Q (o :: rest) a w := by
 refine wpList_plain hg fun K hK' => ?_
 have hrun : (Instr.makeSlice t (.int kl 0) (.int kc (n : Int))).run P w = .ok (.slice (some ⟨w.heap.size, 0, none⟩) 0 n) (w.alloc (.cells (madeCells #[z] n) e)) := by
  have hb' : (i.bytes : Int) * (n : Int) ≤ 281474976710656 := by
   have h : ((i.bytes * n : Nat) : Int) ≤ 281474976710656 := by omega
   rwa [Int.natCast_mul] at h
  have hr := run_make (P := P) w t e i z ht hi hz kl kc 0 n (Int.le_refl _) (by omega) hb' (by omega)
  simp only [Int.toNat_natCast, hsize, Nat.mul_one, hz1] at hr
  exact hr
 unfold Oper.wp
 simp [execOp, hop, hl, hc, hrun, Result.andThen]
 exact hK' _ _ hK
theorem made_or (w : World) (n B : Nat) (hB : B ≤ w.heap.size) (hn : n ≤ 1000) : OR (w.alloc (.cells (madeCells #[.int .i64 0] n) 3)) B (.slice (some ⟨w.heap.size, 0, none⟩) n n) (List.replicate n 0) := by
 have h1 := World.ownsRow_lit (base := B) (e := 3) (size := 1) w (madeCells #[.int .i64 0] n) n hB (by unfold maxLen; omega) (by rw [size_madeCells, Nat.mul_one])
 unfold OR
 rw [toList_madeCells_one] at h1
 rw [List.length_replicate, List.map_replicate]
 exact h1
theorem made_cap (w : World) (n B : Nat) (hB : B ≤ w.heap.size) (hn : n ≤ 1000) : OR (w.alloc (.cells (madeCells #[.int .i64 0] n) 3)) B (.slice (some ⟨w.heap.size, 0, none⟩) 0 n) [] :=
 ⟨rfl, .inr ⟨w.heap.size, n, madeCells #[.int .i64 0] n, rfl, hB, heap_alloc_new w _, Nat.zero_le _, by unfold maxLen; omega, by rw [size_madeCells, Nat.mul_one], rfl⟩⟩
/-- While the order is made: W was ahead; left lies in block lb, the queue in block q. -/
structure Od (W w : World) (lb q : Nat) (v : Value) (ls hs : List Int) : Prop where
 bel : Below W.heap.size W w
 left : OR w W.heap.size (.slice (some ⟨lb, 0, none⟩) ls.length ls.length) ls
 que : QS w q (q + 1) v hs
 lt : W.heap.size ≤ lb ∧ lb < q
theorem Od.size {W w : World} {lb q : Nat} {v : Value} {ls hs : List Int} (h : Od W w lb q v ls hs) : q + 1 ≤ w.heap.size := h.que.blk.lt
theorem Od.kp {W w w' : World} {lb q : Nat} {v v' : Value} {ls hs ys : List Int} (h : Od W w lb q v ls hs) (hk : Kp q v.ownBlock w w') (hq : QS w' q (q + 1) v' ys) : Od W w' lb q v' ls ys := by
 have hl := h.lt
 have hs := h.size
 refine ⟨Kp.below h.bel hk (by omega) (fun k e => by have := (h.que.row.lt k e).1; omega) h.bel.size, own_heap h.left ?_, hq, h.lt⟩
 intro g hg
 injection hg with hg
 subst hg
 exact hk.block lb (by omega) (by omega) (fun e => by have := (h.que.row.lt lb e.symm).1; omega)
theorem Od.put {W w : World} {lb q : Nat} {v : Value} {ls hs : List Int} (h : Od W w lb q v ls hs) (c : Nat) (x : Int) : Od W (w.setCell ⟨lb, c, none⟩ (.int .i64 x)) lb q v (ls.set c x) hs := by
 have hg := grownBy_setC w ⟨lb, c, none⟩ (.int .i64 x)
 have hl := h.lt
 refine ⟨below_rp h.bel hg hl.1, by have h1 := h.left.put c x; rwa [List.length_set], ⟨h.que.blk.kept hg (by show q ≠ lb; omega), own_par h.que.row hg (by show lb < q + 1; omega), h.que.lt⟩, hl⟩
theorem Od.below {W w w' : World} {lb q : Nat} {v : Value} {ls hs : List Int} (h : Od W w lb q v ls hs) (hb : Below w.heap.size w w') : Od W w' lb q v ls hs :=
 ⟨h.bel.trans (hb.mono h.bel.size), own_below h.left hb, h.que.below hb, h.lt⟩
theorem Od.row {W w w' : World} {lb q : Nat} {v vo : Value} {ls hs os : List Int} (h : Od W w lb q v ls hs) (ho : OR w (q + 1) vo os) (hd : ∀ p, vo.ownBlock = some p → v.ownBlock ≠ some p) (hg : w.grownBy w' vo.ownBlock) : Od W w' lb q v ls hs := by
 have hl := h.lt
 have hs := h.size
 refine ⟨h.bel.grown hg h.bel.size (fun k e => by have := (ho.lt k e).1; omega), own_heap h.left ?_, ⟨h.que.blk.grown hg (fun p e => by have := (ho.lt p e).1; omega), h.que.row.kept hg ?_, h.que.lt⟩, hl⟩
 ·intro g hg'
  injection hg' with hg'
  subst hg'
  exact hg.block lb (by omega) (fun e => by have := (ho.lt lb e.symm).1; omega)
 ·cases hq : v.ownBlock with
  | none => exact .inl rfl
  | some p => right; intro e; exact hd p e.symm hq
/-- .. and the numbers told, in a row of their own. -/
structure OB (W w : World) (lb q : Nat) (v : Value) (ls hs : List Int) (vo : Value) (os : List Int) : Prop where
 od : Od W w lb q v ls hs
 row : OR w (q + 1) vo os
 ap : ∀ p, vo.ownBlock = some p → v.ownBlock ≠ some p
theorem OB.kp {W w w' : World} {lb q : Nat} {v v' vo : Value} {ls hs ys os : List Int} (h : OB W w lb q v ls hs vo os) (hk : Kp q v.ownBlock w w') (hq : QS w' q (q + 1) v' ys) (hn : Nx w v.ownBlock v'.ownBlock) : OB W w' lb q v' ls ys vo os := by
 refine ⟨h.od.kp hk hq, own_heap h.row ?_, ?_⟩
 ·intro g hg
  have hl := h.row.lt g hg
  exact hk.block g hl.2 (by omega) (fun e => h.ap g hg e.symm)
 ·intro p hp e
  rcases hn with h1 | ⟨k, h1, h2⟩
  ·rw [h1] at e; exact h.ap p hp e
  ·rw [h2] at e; injection e with e; have := (h.row.lt p hp).2; omega
theorem OB.put {W w : World} {lb q : Nat} {v vo : Value} {ls hs os : List Int} (h : OB W w lb q v ls hs vo os) (c : Nat) (x : Int) : OB W (w.setCell ⟨lb, c, none⟩ (.int .i64 x)) lb q v (ls.set c x) hs vo os :=
 ⟨h.od.put c x, own_par h.row (grownBy_setC w ⟨lb, c, none⟩ (.int .i64 x)) (by have := h.od.lt; show lb < q + 1; omega), h.ap⟩
theorem OB.below {W w w' : World} {lb q : Nat} {v vo : Value} {ls hs os : List Int} (h : OB W w lb q v ls hs vo os) (hb : Below w.heap.size w w') : OB W w' lb q v ls hs vo os :=
 ⟨h.od.below hb, own_below h.row hb, h.ap⟩
theorem OB.snoc {W w w' : World} {lb q : Nat} {v vo vo' : Value} {ls hs os os' : List Int} (h : OB W w lb q v ls hs vo os) (hO : OR w' (q + 1) vo' os') (hg : w.grownBy w' vo.ownBlock) (hto : RowTo w vo vo') : OB W w' lb q v ls hs vo' os' := by
 refine ⟨h.od.row h.row h.ap hg, hO, ?_⟩
 intro p hp e
 rcases hto with h1 | ⟨k, h1, h2⟩
 ·rw [h1] at hp; exact h.ap p hp e
 ·rw [h2] at hp; injection hp with hp; have := (h.od.que.row.lt p e).2; omega
/-- What order answers. -/
def OrdPost (XS : List (List Int)) (w w' : World) (v : Value) : Prop :=
 ∃ os, Told XS os ∧ (∀ k, ¬ Rdy XS os k) ∧ Below w.heap.size w w' ∧ ((os.length < XS.length ∧ v = .slice none 0 0) ∨ (os.length = XS.length ∧ OR w' w.heap.size v os))
def slen : Value → Nat
 | .slice _ n _ => n
 | _ => 0
theorem made_ob {W w : World} {lb q n : Nat} {v : Value} {ls hs : List Int} (h : Od W w lb q v ls hs) (hn : n ≤ 1000) : OB W (w.alloc (.cells (madeCells #[.int .i64 0] n) 3)) lb q v ls hs (.slice (some ⟨w.heap.size, 0, none⟩) 0 n) [] := by
 have hm : Below w.heap.size w (w.alloc (.cells (madeCells #[.int .i64 0] n) 3)) := (Below.refl _ _).alloc (Nat.le_refl _) _
 refine ⟨h.below hm, made_cap w n (q + 1) h.size hn, ?_⟩
 intro p hp e
 injection hp with hp
 have := (h.que.row.lt p e).2
 subst hp
 exact Nat.lt_irrefl _ this
theorem hpa_nil : HpA (fn []) ([] : List Int).length := by intro i _ h; simp at h
theorem made_que (w : World) : QS (w.alloc (.cells #[.slice none 0 0] 89)) w.heap.size (w.heap.size + 1) (.slice none 0 0) [] := ⟨heap_alloc_new w _, World.ownsRow_nil _ _ _ _, Nat.lt_succ_self _⟩
theorem made_od (w : World) (n : Nat) (hn : n ≤ 1000) : Od w ((w.alloc (.cells (madeCells #[.int .i64 0] n) 3)).alloc (.cells #[.slice none 0 0] 89)) w.heap.size (w.heap.size + 1) (.slice none 0 0) (List.replicate n 0) [] := by
 have hm : Below w.heap.size w (w.alloc (.cells (madeCells #[.int .i64 0] n) 3)) := (Below.refl _ _).alloc (Nat.le_refl _) _
 have hm2 : Below (w.alloc (.cells (madeCells #[.int .i64 0] n) 3)).heap.size (w.alloc (.cells (madeCells #[.int .i64 0] n) 3)) ((w.alloc (.cells (madeCells #[.int .i64 0] n) 3)).alloc (.cells #[.slice none 0 0] 89)) := (Below.refl _ _).alloc (Nat.le_refl _) _
 have hs : (w.alloc (.cells (madeCells #[.int .i64 0] n) 3)).heap.size = w.heap.size + 1 := by simp
 refine ⟨hm.trans (hm2.mono hm.size), ?_, ?_, Nat.le_refl _, Nat.lt_succ_self _⟩
 ·have h1 := own_below (made_or w n w.heap.size (Nat.le_refl _) hn) hm2
  unfold OR
  rw [List.length_replicate] at h1 ⊢
  exact h1
 ·have h1 := made_que (w.alloc (.cells (madeCells #[.int .i64 0] n) 3))
  rwa [hs] at h1
theorem order_any {B b : Nat} {vs : List Value} {XS : List (List Int)} (w : World) (h : Rws w B b vs XS) (hn : XS.length ≤ 1000) (hx : ∀ xs ∈ XS, xs.length ≤ 10000 ∧ ∀ e ∈ xs, 0 ≤ e ∧ e < XS.length) (c : Nat) :
  Calls Tryz.prog 22 #[.slice (some ⟨b, 0, none⟩) XS.length c] w fun e w' => ∃ v, e = .returned v ∧ OrdPost XS w w' v := by
 have HT := hdn (turned_any w h hn hx c)
 have H0 := hdn h
 have HX := hdn hx
 have HLL : Hid (XS.length ≤ 1000) := hdn hn
 have hl' : (XS.length : Int) ≤ 1000 := by omega
 obtain ⟨ir, hir, hz0, hz1, hz2⟩ := info_parts info3
 have HIR := hdn (And.intro hir (And.intro hz0 (And.intro hz1 hz2)))
 clear h hx hir hz0 hz1 hz2
 go_enter Tryz.func22, Tryz.ntmps22
 go_wp2_with (first | (go_at_call 36; refine (HT.out).mono ?_; rintro en w1 ⟨B1, b1, vs1, rfl, hr, hb, hle, hBs⟩; have HR1 := hdn hr; have HB1 := hdn hb; clear hr hb hle hBs) | (at_make; refine wpList_make_row _ rfl _ _ 33 rfl 3 ir (.int .i64 0) Tryz.underlying33 HIR.out.1 HIR.out.2.1 HIR.out.2.2.1 rfl .i64 .i64 XS.length rfl rfl (by rw [HIR.out.2.2.2]; have := HLL.out; omega) (by have := HLL.out; omega) ?_))
 have HO2 := hdn (made_od w1 XS.length hn)
 generalize (w1.alloc (.cells (madeCells #[.int .i64 0] XS.length) 3)).alloc (.cells #[.slice none 0 0] 89) = w2 at HO2 ⊢
 generalize w1.heap.size = lb at HO2 ⊢
 obtain ⟨q, hq⟩ : ∃ q, q = lb + 1 := ⟨_, rfl⟩
 rw [← hq] at HO2 ⊢
 clear hq hn
 go_loopw [6, 7, 21] (fun s6 s7 sk wr => ∃ (k : Nat) (v : Value) (ls hs : List Int), sk = .int .i64 k ∧ k ≤ XS.length ∧ Hid (Od w1 wr lb q v ls hs) ∧ Hid (Laid XS k ls hs) ∧ Hid (HpA (fn hs) hs.length)) (fun _ _ sk _ => XS.length - (Lib.intOf sk).toNat)
 case atStart => exact ⟨0, _, _, _, rfl, Nat.zero_le _, HO2, hdn (laid_start XS), hdn hpa_nil⟩
 case round =>
  clear HO2 HT
  obtain ⟨k, v, ls, hs, rfl, hk, HO, HLA, HHP⟩ := hrel
  have HIN : Hid (Rws wr B b vs XS) := hdn (H0.out.below (HB1.out.trans (HO.out.bel.mono HB1.out.size)))
  by_cases hlt : k < XS.length
  ·obtain ⟨xs, hxs⟩ : ∃ xs, XS[k]? = some xs := ⟨_, List.getElem?_eq_getElem hlt⟩
   obtain ⟨rv, hv, hor, hcb, hfb⟩ := HIN.out.at_ hxs
   obtain ⟨av, cv, rfl⟩ := hor.shape
   have HXD : Hid (XS.getD k [] = xs) := hdn (by rw [List.getD_eq_getElem?_getD, hxs]; rfl)
   have hxl : (xs.length : Int) ≤ 10000 := by have := (HX.out xs (List.mem_of_getElem? hxs)).1; omega
   have hkl : k < ls.length := by rw [HLA.out.len]; exact hlt
   have cl := HO.out.left.cell k hkl
   have fl := HO.out.left.froz k
   have HOP := hdn (HO.out.put k (xs.length : Int))
   have cl2 : (wr.setCell ⟨lb, k, none⟩ (.int .i64 (xs.length : Int))).cell? ⟨lb, k, none⟩ = some (.int .i64 (xs.length : Int)) := by
    have h1 := HOP.out.left.cell k (by rw [List.length_set]; exact hkl)
    rwa [fn_set ls hkl, if_pos rfl] at h1
   have hsl : hs.length ≤ 900000 := by
    have h1 : hs.length ≤ XS.length := nodup_len HLA.out.nd fun x hx => by obtain ⟨c, h1, h2, _⟩ := (HLA.out.mem x).1 hx; exact ⟨c, h1, by omega⟩
    have := HLL.out
    omega
   have HPU := hdn (hpush_m (k : Int) _ HOP.out.que HHP.out HOP.out.size hsl)
   clear hxs hv hor hkl hsl
   by_cases hz : xs.length = 0
   ·simp only [hz, Int.natCast_zero] at HPU cl2 HOP
    go_wp2_with (go_at_call 37; refine (HPU.out).mono ?_; rintro en w5 ⟨rfl, v', ys, hq, hp, hh, hk5, hn5⟩; have HQ5 := hdn hq; have HP5 := hdn hp; have HH5 := hdn hh; have HK5 := hdn hk5; clear hq hp hh hk5 hn5)
    go_roundw
    case rel => exact ⟨k + 1, v', _, ys, by go_num, by omega, hdn (HOP.out.kp HK5.out HQ5.out), hdn (by have h1 := laid_push HLA.out hlt (by rw [HXD.out]; exact hz) HP5.out; rw [HXD.out, hz] at h1; exact h1), HH5⟩
    case measure => simp [Lib.intOf]; omega
   ·go_wp2_with fail
    go_roundw
    case rel => exact ⟨k + 1, v, _, hs, by go_num, by omega, HOP, hdn (by have h1 := laid_keep HLA.out hlt (by rw [HXD.out]; exact hz); rwa [HXD.out] at h1), HHP⟩
    case measure => simp [Lib.intOf]; omega
  ·have hke : k = XS.length := by omega
   have HTU : Hid (Turn XS [] [] ls hs) := hdn (laid_end (by rw [← hke]; exact HLA.out))
   clear HLA hke
   go_wp2_with (at_make; refine wpList_make_cap _ rfl _ _ 33 rfl 3 ir (.int .i64 0) Tryz.underlying33 HIR.out.1 HIR.out.2.1 HIR.out.2.2.1 rfl .i64 .i64 XS.length rfl rfl (by rw [HIR.out.2.2.2]; have := HLL.out; omega) (by have := HLL.out; omega) ?_)
   have HO3 := hdn (made_ob HO.out HLL.out)
   generalize wr.alloc (.cells (madeCells #[.int .i64 0] XS.length) 3) = w3 at HO3 ⊢
   generalize wr.heap.size = ob at HO3 ⊢
   clear HO HIN hlt hk
   have HXE : Hid (∀ xs ∈ XS, ∀ e ∈ xs, 0 ≤ e ∧ e < XS.length) := hdn fun xs hx => (HX.out xs hx).2
   have HSL : Hid (Slim (trn XS) (10000 * XS.length)) := hdn (slim_trn fun xs hx => (HX.out xs hx).1)
   go_loopw [8, 9, 11] (fun so s9 s11 wr => ∃ (os : List Int) (ao : Option Addr) (co : Nat) (v : Value) (ls hs : List Int), so = .slice ao os.length co ∧ Hid (OB w1 wr lb q v ls hs (.slice ao os.length co) os) ∧ Hid (Told XS os) ∧ Hid (Turn XS os [] ls hs) ∧ Hid (HpA (fn hs) hs.length)) (fun so _ _ _ => XS.length - slen so)
   case atStart => exact ⟨[], _, _, _, ls, hs, rfl, HO3, hdn .nil, HTU, HHP⟩
   case round =>
    clear HO3 HTU HHP
    obtain ⟨os, ao, co, v, ls, hs, rfl, HO, HTO, HTU, HHP⟩ := hrel
    obtain ⟨aq, cq, rfl⟩ := HO.out.od.que.row.shape
    have cq0 : wr.cell? ⟨q, 0, none⟩ = some (.slice aq hs.length cq) := HO.out.od.que.blk.cell 0
    by_cases h0 : 0 < hs.length
    ·have hgt : (0 : Int) < (hs.length : Int) := by omega
     obtain ⟨i, hi, hin⟩ : ∃ i : Nat, fn hs 0 = (i : Int) ∧ i < XS.length := by
      obtain ⟨i, h1, h2, _⟩ := (HTU.out.mem (fn hs 0)).1 (by rw [fn_get hs 0 h0]; exact List.getElem_mem h0)
      exact ⟨i, h1, h2⟩
     have HI := hdn hi
     have HH0 := hdn h0
     have HNX := hdn (next_m wr HO.out.od.que HHP.out h0 (by have := turn_len HTU.out; have := HLL.out; omega))
     rw [hi] at HNX
     have HIN := hdn hin
     have hil : (i : Int) < (XS.length : Int) := by omega
     obtain ⟨ds, hds⟩ : ∃ ds, (trn XS)[i]? = some ds := ⟨_, List.getElem?_eq_getElem (by rw [trn_len]; exact hin)⟩
     obtain ⟨dv, hdv, hdr, _, _⟩ := HR1.out.at_ hds
     obtain ⟨ad, cd, rfl⟩ := hdr.shape
     have HDD : Hid ((trn XS).getD i [] = ds) := hdn (by rw [List.getD_eq_getElem?_getD, hds]; rfl)
     have HDV := hdn hdv
     have HDS := hdn hds
     have HDL : Hid (ds.length ≤ 10000000) := hdn (by have := HSL.out ds (List.mem_of_getElem? hds); have := HLL.out; omega)
     clear hi h0 hds hdv hdr
     go_wp2_with (first | (go_at_call 38; refine (len_m _ _ _ _).mono ?_; rintro en w4 ⟨rfl, rfl⟩) | (go_at_call 39; refine (HNX.out).mono ?_; rintro en w4 ⟨rfl, v4, ys, hq, hp, hh, hk4, ho4⟩; have HQ4 := hdn hq; have HP4 := hdn hp; have HH4 := hdn hh; have HK4 := hdn hk4; have HOB4 := hdn (HO.out.kp HK4.out HQ4.out (.inl ho4)); clear hq hp hh hk4 ho4) | ((with_reducible show wpList _ _ _ (Oper.mk (some 56) _ _ _ _ _ :: _) _ _); refine wpList_app_int rfl 33 und33 (.tmp 53) (.tmp 55) rfl (q + 1) os (.slice ao os.length co) rfl HOB4.out.row HOB4.out.od.size (i : Int) rfl (by have := told_len HTO.out; have := HLL.out; omega) ?_; intro v' w5 hO hsh hg hto; have HOB5 := hdn (HOB4.out.snoc hO hg hto); obtain ⟨g5, c5, rfl⟩ := hsh; have cb5 : w5.cell? ⟨b1, i, none⟩ = some (.slice ad ds.length cd) := (by obtain ⟨v9, h9, _, h8, _⟩ := (HR1.out.below HOB5.out.od.bel).at_ HDS.out; rw [HDV.out] at h9; rw [h9]; exact h8); clear hO hg hto))
     obtain ⟨i', hi', _, hto', htu'⟩ := turn_pop HXE.out HTU.out HTO.out HHP.out HH0.out (by rw [HI.out]; exact HP4.out)
     have hii : i' = i := by have := HI.out; omega
     subst hii
     rw [HDD.out] at htu'
     have HTO5 := hdn hto'
     have HTU5 := hdn htu'
     clear hi' hto' htu' HO HTU HHP HTO HP4 HNX HQ4 HK4 HOB4 HI HH0 cq0
     go_loopw [11, 62] (fun s11 sj wr => ∃ (j : Nat) (v : Value) (ls hs : List Int), sj = .int .i64 j ∧ j ≤ ds.length ∧ Hid (OB w1 wr lb q v ls hs (.slice (some ⟨g5, 0, none⟩) (os.length + 1) c5) (os ++ [(i' : Int)])) ∧ Hid (Turn XS (os ++ [(i' : Int)]) (ds.drop j) ls hs) ∧ Hid (HpA (fn hs) hs.length)) (fun _ sj _ => ds.length - (Lib.intOf sj).toNat)
     case atStart => exact ⟨0, _, _, _, rfl, Nat.zero_le _, HOB5, HTU5, HH4⟩
     case round =>
      clear HOB5 HTU5 HH4
      obtain ⟨j, v, ls, hs, rfl, hj, HO, HTU, HHP⟩ := hrel
      have hdl' : (ds.length : Int) ≤ 10000000 := by have := HDL.out; omega
      by_cases hjl : j < ds.length
      ·have hdr := (HR1.out.below HO.out.od.bel).row i' _ ds HDV.out HDS.out
       obtain ⟨gd, cd', hsh, _⟩ := hdr.block (by omega)
       injection hsh with e1 e2 e3
       subst e1; subst e3
       have hcx := hdr.cell j hjl
       obtain ⟨t, ht, htl⟩ : ∃ t : Nat, fn ds j = (t : Int) ∧ t < XS.length := trn_mem HXE.out HIN.out (x := fn ds j) (by rw [HDD.out, fn_get ds j hjl]; exact List.getElem_mem hjl)
       rw [ht] at hcx
       have HTJ : Hid (Turn XS (os ++ [(i' : Int)]) ((t : Int) :: ds.drop (j + 1)) ls hs) := hdn (by
        have h1 := HTU.out
        rw [List.drop_eq_getElem_cons hjl, ← fn_get ds j hjl, ht] at h1
        exact h1)
       have hpos := turn_pos HTJ.out htl
       have htk : t < ls.length := by rw [HTJ.out.len]; exact htl
       have hub : fn ls t ≤ 20020000 := by
        have h1 := HTJ.out.val t htl
        have h2 : lft (os ++ [(i' : Int)]) (XS.getD t []) ≤ (XS.getD t []).length := lft_le _ _
        have h3 : (XS.getD t []).length ≤ 10000 := (HX.out _ (by rw [List.getD_eq_getElem?_getD, List.getElem?_eq_getElem htl]; exact List.getElem_mem htl)).1
        have h4 : ((t : Int) :: ds.drop (j + 1)).count (t : Int) ≤ ((t : Int) :: ds.drop (j + 1)).length := List.count_le_length
        rw [List.length_cons, List.length_drop] at h4
        omega
       have cl := HO.out.od.left.cell t htk
       have fl := HO.out.od.left.froz t
       obtain ⟨x, hx⟩ : ∃ x, x = fn ls t := ⟨_, rfl⟩
       have HXV := hdn hx
       have HOP := hdn (HO.out.put t (x - 1))
       have cl2 : (wr.setCell ⟨lb, t, none⟩ (.int .i64 (x - 1))).cell? ⟨lb, t, none⟩ = some (.int .i64 (x - 1)) := by
        have h1 := HOP.out.od.left.cell t (by rw [List.length_set]; exact htk)
        rwa [fn_set ls htk, if_pos rfl] at h1
       have HPU := hdn (hpush_m (t : Int) _ HOP.out.od.que HHP.out HOP.out.od.size (by have := turn_len HTU.out; have := HLL.out; omega))
       have htl' : (t : Int) < (XS.length : Int) := by omega
       rw [← hx] at cl hpos hub
       clear hdr ht htk hx e2
       by_cases hz : x = 1
       ·subst hz
        simp only [Int.sub_self] at HPU cl2 HOP
        go_wp2_with (go_at_call 37; refine (HPU.out).mono ?_; rintro en w6 ⟨rfl, v', ys', hq, hp, hh, hk5, hn5⟩; have HQ6 := hdn hq; have HP6 := hdn hp; have HH6 := hdn hh; have HK6 := hdn hk5; have HN6 := hdn hn5; clear hq hp hh hk5 hn5)
        go_roundw
        case rel => exact ⟨j + 1, v', _, ys', by go_num, by omega, hdn (HOP.out.kp HK6.out HQ6.out HN6.out), hdn (by have h1 := turn_push HTJ.out htl (by rw [← HXV.out]; rfl) HP6.out; rw [← HXV.out] at h1; exact h1), HH6⟩
        case measure => simp [Lib.intOf]; omega
       ·have hz1 : x - 1 ≠ 0 := by omega
        go_wp2_with fail
        go_roundw
        case rel => exact ⟨j + 1, v, _, hs, by go_num, by omega, HOP, hdn (by have h1 := turn_keep HTJ.out htl (by rw [← HXV.out]; omega); rw [← HXV.out] at h1; exact h1), HHP⟩
        case measure => simp [Lib.intOf]; omega
      ·have HDE : Hid (ds.drop j = []) := hdn (List.drop_eq_nil_of_le (by omega))
       go_wp2_with fail
       go_roundw
       case rel => exact ⟨os ++ [(i' : Int)], _, _, v, ls, hs, by rw [List.length_append]; rfl, hdn (by rw [List.length_append]; exact HO.out), HTO5, hdn (by have h1 := HTU.out; rw [HDE.out] at h1; exact h1), HHP⟩
       case measure => have := told_len HTO5.out; simp [slen] at this ⊢; omega
    ·have HHE : Hid (hs = []) := hdn (by cases hs with
      | nil => rfl
      | cons a r => simp at h0)
     have h0' : hs.length = 0 := by omega
     have HRD : Hid (∀ k, ¬ Rdy XS os k) := hdn (turn_end (by have h1 := HTU.out; rw [HHE.out] at h1; exact h1))
     have HBE : Hid (Below w.heap.size w wr) := hdn (HB1.out.trans (HO.out.od.bel.mono HB1.out.size))
     have HBW : Hid (w.heap.size ≤ w1.heap.size) := hdn HB1.out.size
     have hol : (os.length : Int) ≤ 1000 := by have := told_len HTO.out; have := HLL.out; omega
     by_cases hful : os.length < XS.length
     ·go_wp2_with (go_at_call 38; refine (len_m _ _ _ _).mono ?_; rintro en w4 ⟨rfl, rfl⟩)
      go_ret
      exact ⟨_, rfl, os, HTO.out, HRD.out, HBE.out, .inl ⟨hful, rfl⟩⟩
     ·go_wp2_with (go_at_call 38; refine (len_m _ _ _ _).mono ?_; rintro en w4 ⟨rfl, rfl⟩)
      go_ret
      exact ⟨_, rfl, os, HTO.out, HRD.out, HBE.out, .inr ⟨by have := told_len HTO.out; omega, own_down HO.out.row (Nat.le_trans HBW.out (by have := HO.out.od.lt; omega))⟩⟩
end Go.Proofs.YtmhpaacjioeknaaGreat
namespace Go.Proofs.YtmhpaacjioeknaaGreat
open Go.RowKit Go.Maps Go.Sort Go.WideMaps
/-- Two costs, at most the most. -/
def capp (a b : Int) : Int := if 1073741824 - a < b then 1073741824 else a + b
theorem capp_in {a b : Int} (ha : 0 ≤ a) (hb : 0 ≤ b) (hb2 : b ≤ 1073741824) : 0 ≤ capp a b ∧ capp a b ≤ 1073741824 := by unfold capp; split <;> omega
/-- What a called name comes to, on top of a. -/
def payN (ns : List ByteArray) (cs : List Int) (x : ByteArray) (a : Int) : Int := if isIn ns x = true then capp a (fn cs (plc ns x)) else a
def payAll (ns : List ByteArray) (cs : List Int) : List ByteArray → Int → Int
 | [], a => a
 | x :: r, a => payAll ns cs r (payN ns cs x a)
theorem payAll_append (ns : List ByteArray) (cs : List Int) : ∀ (l m : List ByteArray) (a : Int), payAll ns cs (l ++ m) a = payAll ns cs m (payAll ns cs l a)
 | [], _, _ => rfl
 | x :: r, m, a => by rw [List.cons_append, payAll, payAll, payAll_append ns cs r m]
def Costs (cs : List Int) : Prop := ∀ c, 0 ≤ fn cs c ∧ fn cs c ≤ 1073741824
theorem payN_in {ns : List ByteArray} {cs : List Int} (hc : Costs cs) (x : ByteArray) {a : Int} (h0 : 0 ≤ a) (h1 : a ≤ 1073741824) : 0 ≤ payN ns cs x a ∧ payN ns cs x a ≤ 1073741824 := by
 unfold payN
 split
 ·exact capp_in h0 (hc _).1 (hc _).2
 ·exact ⟨h0, h1⟩
theorem payAll_in {ns : List ByteArray} {cs : List Int} (hc : Costs cs) : ∀ (l : List ByteArray) {a : Int}, 0 ≤ a → a ≤ 1073741824 → 0 ≤ payAll ns cs l a ∧ payAll ns cs l a ≤ 1073741824
 | [], _, h0, h1 => ⟨h0, h1⟩
 | x :: r, _, h0, h1 => payAll_in hc r (payN_in hc x h0 h1).1 (payN_in hc x h0 h1).2
def payH (ns : List ByteArray) (cs : List Int) (h : Hd) (a : Int) : Int := if h.kind = 3 then payN ns cs h.name a else a
theorem pay_cons (ns : List ByteArray) (cs : List Int) (h : Hd) (tp : Option Addr) (tc : Nat) (t : SL) (ep : Option Addr) (ec : Nat) (e r : SL) (a : Int) :
  payAll ns cs (SL.cons h tp tc t ep ec e r).every a = payAll ns cs r.every (payAll ns cs e.every (payAll ns cs t.every (payH ns cs h a))) := by
 simp only [SL.every, payAll_append]
 congr 3
 unfold payH
 split <;> rfl
theorem NM.look {w : World} {mb : Nat} {ns : List ByteArray} (h : NM w mb ns) {x : ByteArray} (hx : byName.ok x) : (Instr.lookup 50 (.map (some mb)) (.string x) true).run Tryz.prog w = .ok (.tuple #[.int .i64 (numOf ns x), .bool (isIn ns x)]) w := by
 obtain ⟨n, D, h1, h2, _⟩ := h
 obtain ⟨v, ps, hr, hv⟩ := h1.look_ok byName.law Tryz.underlying50 (zero3 w) (plainElem_int Tryz.underlying3 (by decide)) (byName.key x hx)
 obtain ⟨c, rfl, hc, hwc⟩ := plainElem_int_inv Tryz.underlying3 hv
 have h3 := congrArg Prod.fst hc
 rw [h2.num hx] at h3
 rw [h2.hasB hx] at hr
 simp only [DataW.lit.injEq, Lit.int.injEq, true_and] at h3
 rw [h3]
 exact hr
theorem capped_any (a b : Int) (w : World) (ha : 0 ≤ a) (ha2 : a ≤ 1073741824) (hb : 0 ≤ b) (hb2 : b ≤ 1073741824) : Calls Tryz.prog 59 #[.int .i64 a, .int .i64 b] w fun e w' => e = .returned (.int .i64 (capp a b)) ∧ w = w' := by
 unfold capp
 by_cases h : 1073741824 - a < b
 ·rw [if_pos h]
  go_enter Tryz.func59, Tryz.ntmps59
  go_wp2
  go_ret
  exact ⟨rfl, rfl⟩
 ·rw [if_neg h]
  go_enter Tryz.func59, Tryz.ntmps59
  go_wp2
  go_ret
  exact ⟨rfl, rfl⟩
/-- What followed is on a list. -/
def flwOk (W : World) (ns : List ByteArray) (cs : List Int) (mb : Nat) (vc : Value) (l : SL) : Prop := ∀ (p : Option Addr) (c : Nat) (a : Int) (w : World), Below W.heap.size W w → sLies W p l → 0 ≤ a → a ≤ 1073741824 →
 Calls Tryz.prog 47 #[.agg #[.map (some mb), vc], .int .i64 a, .slice p l.len c] w fun e w' => e = .returned (.int .i64 (payAll ns cs l.every a)) ∧ Below w.heap.size w w'
theorem bill_box (w : World) (x y : Value) : Bk (w.alloc (.cells #[x, y] 76)) w.heap.size 76 #[x, y] := heap_alloc_new w _
theorem flw_one {W : World} {ns : List ByteArray} {cs : List Int} {mb B : Nat} {vc : Value} (hN : NM W mb ns) (hR : OR W B vc cs) (hC : Costs cs) (hlen : ns.length = cs.length) (hcl : cs.length ≤ 1000000)
  (l : SL) (hP : l.each (flwOk W ns cs mb vc)) : flwOk W ns cs mb vc l := by
 intro p c a w hb hl ha ha2
 obtain ⟨hlen', hl⟩ := hl
 have hlen2 : l.len ≤ 300000000000 := by omega
 have HP := hdn hP
 have HN := hdn hN
 have HR := hdn hR
 have HC := hdn hC
 have HLE := hdn hlen
 have HB := hdn hb
 have hcl' : (cs.length : Int) ≤ 1000000 := by omega
 obtain ⟨avc, cvc, rfl⟩ := hR.shape
 clear hlen' hP hN hR hC hlen hb
 go_enter Tryz.func47, Tryz.ntmps47
 go_wp2_with fail
 have HX := hdn (bill_box w (.map (some mb)) (.slice avc cs.length cvc))
 have HBA : Hid (Below w.heap.size w (w.alloc (.cells #[.map (some mb), .slice avc cs.length cvc] 76))) := hdn ((Below.refl _ _).alloc (Nat.le_refl _) _)
 have HB1 : Hid (Below W.heap.size W (w.alloc (.cells #[.map (some mb), .slice avc cs.length cvc] 76))) := hdn (HB.out.trans (HBA.out.mono HB.out.size))
 have HBR := hdn (Below.refl (w.alloc (.cells #[.map (some mb), .slice avc cs.length cvc] 76)).heap.size (w.alloc (.cells #[.map (some mb), .slice avc cs.length cvc] 76)))
 generalize w.alloc (.cells #[.map (some mb), .slice avc cs.length cvc] 76) = w1 at HX HBA HB1 HBR ⊢
 have HBS := hdn HBA.out.size
 generalize w.heap.size = bx at HX ⊢
 go_loopw [1, 7, 8, 9, 10, 13] (fun v s7 s8 s9 s10 i wr => ∃ (k : Nat) (rest : SL) (n : Int), i = .int .i64 k ∧ v = .int .i64 n ∧ k ≤ l.len ∧ 0 ≤ n ∧ n ≤ 1073741824 ∧ Hid (k + rest.len = l.len) ∧ Hid (payAll ns cs l.every a = payAll ns cs rest.every n) ∧
    Hid (rest = .nil ∨ ∃ b o, p = some ⟨b, o, none⟩ ∧ lies W rest b (o + k * 48)) ∧ Hid (rest.each (flwOk W ns cs mb (.slice avc cs.length cvc))) ∧ Hid (Below w1.heap.size w1 wr)) (fun _ _ _ _ _ i _ => l.len - (intOf i).toNat)
 case atStart => exact ⟨0, l, a, rfl, rfl, Nat.zero_le _, ha, ha2, hdn (Nat.zero_add _), hdn rfl, hdn (by simpa using hl), HP, HBR⟩
 case round =>
  clear HBR
  obtain ⟨k, rest, n, rfl, rfl, hk, hn0, hn2, HK, HG, HL, HQ, HW⟩ := hrel
  cases rest with
  | nil =>
   have hk' : l.len ≤ k := by have := HK.out; simp only [SL.len] at this; omega
   go_wp2_with fail
   go_ret
   exact ⟨ret_int (by rw [HG.out]; rfl), HBA.out.trans (HW.out.mono HBS.out)⟩
  | cons h tp tc t ep ec e r =>
   have hkl : k < l.len := by have := HK.out; simp only [SL.len] at this; omega
   obtain ⟨b, o, rfl, hrg, hhd, hts, hes, hrs⟩ := lies_head HL.out
   obtain ⟨hQt, hQe, hQr⟩ := HQ.out
   have HWW : Hid (Below W.heap.size W wr) := hdn (HB1.out.trans (HW.out.mono HB1.out.size))
   have hrw := rangeAt_below hrg HWW.out
   have k0 : wr.cell? ⟨b, o + k * 48, none⟩ = some (.int .i64 h.kind) := by simpa using cell_at hrw 0 _ rfl
   have k43 := cell_at hrw 43 _ rfl
   have k45 := cell_at hrw 45 _ rfl
   have k46 := cell_at hrw 46 _ rfl
   have hbk : Bk wr bx 76 #[.map (some mb), .slice avc cs.length cvc] := HX.out.below HW.out HX.out.lt
   have x0 : wr.cell? ⟨bx, 0, none⟩ = some (.map (some mb)) := hbk.cell 0
   have x1 : wr.cell? ⟨bx, 1, none⟩ = some (.slice avc cs.length cvc) := hbk.cell 1
   have c43 := cell_regrown k43
   have y0 := cell_regrown x0
   have hL : ∀ d os, (Instr.lookup 50 (.map (some mb)) (.string h.name) true).run Tryz.prog (grow (redrawn wr d) os) = .ok (.tuple #[.int .i64 (numOf ns h.name), .bool (isIn ns h.name)]) (grow (redrawn wr d) os) :=
    fun d os => ((HN.out.below HWW.out).below (below_regrown wr d os)).look hhd.2.2.2.2.2
   have HRG := hdn hrg
   have HQT := hdn hQt
   have HQE := hdn hQe
   have HQR := hdn hQr
   have HTS := hdn hts
   have HES := hdn hes
   have HRS := hdn hrs
   clear hrg hrw hhd hQt hQe hQr hts hes hrs hbk
   have HPC := hdn (pay_cons ns cs h tp tc t ep ec e r n)
   have HPH : Hid (payH ns cs h n = if h.kind = 3 then (if isIn ns h.name = true then capp n (fn cs (plc ns h.name)) else n) else n) := hdn rfl
   have HIS : Hid (isIn ns h.name = true → numOf ns h.name = (plc ns h.name : Int) ∧ plc ns h.name < cs.length) := hdn fun hi => ⟨num_plc (isIn_iff.1 hi), by rw [← HLE.out]; exact plc_lt (isIn_iff.1 hi)⟩
   generalize h.name = nm at *
   generalize h.kind = kind at *
   generalize plc ns nm = pl at *
   generalize numOf ns nm = num at *
   generalize isIn ns nm = fd at *
   go_wp2_with fail
   refine wp_region_quiet_below (by kernel_rfl) (by kernel_rfl) ?_
   repeat (go_big_quiet_step (fail))
   refine wpQuiet_nil ?_
   intro _ hw'
   obtain ⟨⟨dq, osq⟩, hw''⟩ := hw'
   subst hw''
   have HB5 := hdn (below_regrown wr dq osq)
   have k0 := cell_regrown k0 dq osq
   have k45 := cell_regrown k45 dq osq
   have k46 := cell_regrown k46 dq osq
   have x0 := cell_regrown x0 dq osq
   have x1 := cell_regrown x1 dq osq
   generalize grow (redrawn wr dq) osq = w5 at HB5 k0 k45 k46 x0 x1 ⊢
   have HW5 : Hid (Below w1.heap.size w1 w5) := hdn (HW.out.trans (HB5.out.mono HW.out.size))
   have HWW5 : Hid (Below W.heap.size W w5) := hdn (HB1.out.trans (HW5.out.mono HB1.out.size))
   clear HB5 hL c43 y0 k43 HW HWW
   have z45 := cell_regrown k45
   have z46 := cell_regrown k46
   have v0 := cell_regrown x0
   have v1 := cell_regrown x1
   rcases fd with _ | _
   ·have HPE : Hid (payH ns cs h n = n) := hdn (by rw [HPH.out]; simp)
    have hm0 : 0 ≤ n := hn0
    have hm2 : n ≤ 1073741824 := hn2
    go_wp2_with fail
    have HM := hdn (And.intro hm0 hm2)
    have HM1 := hdn (payAll_in (ns := ns) HC.out t.every hm0 hm2)
    have cT : ∀ dd os, Calls Tryz.prog 47 #[.agg #[.map (some mb), .slice avc cs.length cvc], .int .i64 (n), .slice tp t.len tc] (grow (redrawn w5 dd) os) fun en w'' => en = .returned (.int .i64 (payAll ns cs t.every (n))) ∧ ∃ p : Regrown, w'' = grow (redrawn w5 p.d) p.os :=
     fun dd os => Calls.regrown_of (HQT.out tp tc _ _ (HWW5.out.trans ((below_regrown _ _ _).mono HWW5.out.size)) HTS.out HM.out.1 HM.out.2)
    have cE : ∀ dd os, Calls Tryz.prog 47 #[.agg #[.map (some mb), .slice avc cs.length cvc], .int .i64 (payAll ns cs t.every (n)), .slice ep e.len ec] (grow (redrawn w5 dd) os) fun en w'' => en = .returned (.int .i64 (payAll ns cs e.every (payAll ns cs t.every (n)))) ∧ ∃ p : Regrown, w'' = grow (redrawn w5 p.d) p.os :=
     fun dd os => Calls.regrown_of (HQE.out ep ec _ _ (HWW5.out.trans ((below_regrown _ _ _).mono HWW5.out.size)) HES.out HM1.out.1 HM1.out.2)
    have HM2 := hdn (payAll_in (ns := ns) HC.out e.every HM1.out.1 HM1.out.2)
    have HGN : Hid (payAll ns cs l.every a = payAll ns cs r.every (payAll ns cs e.every (payAll ns cs t.every (n)))) := hdn (by rw [HG.out, HPC.out, HPE.out])
    clear HPE hm0 hm2
    generalize payAll ns cs e.every (payAll ns cs t.every (n)) = m2 at *
    generalize payAll ns cs t.every (n) = m1 at *
    refine wp_region_quiet_below (by kernel_rfl) (by kernel_rfl) ?_
    repeat (go_big_quiet_step (first | (with_reducible exact cT _ _) | (with_reducible exact cE _ _)))
    refine wpQuiet_nil ?_
    intro _ hw'
    obtain ⟨⟨dq, osq⟩, hw''⟩ := hw'
    subst hw''
    have HB6 := hdn (below_regrown w5 dq osq)
    generalize grow (redrawn w5 dq) osq = w6 at HB6 ⊢
    go_wp2_with fail
    go_roundw
    case rel => exact ⟨k + 1, r, m2, by go_num, rfl, by omega, HM2.out.1, HM2.out.2, hdn (by have := HK.out; simp only [SL.len] at this; omega), HGN, HRS, HQR, hdn (HW5.out.trans (HB6.out.mono HW5.out.size))⟩
    case measure => simp [intOf]; omega
   ·obtain ⟨hnum, hpl⟩ := HIS.out rfl
    subst hnum
    by_cases hk3 : kind = 3
    ·subst hk3
     have HPE : Hid (payH ns cs h n = capp n (fn cs pl)) := hdn (by rw [HPH.out]; simp)
     have hrow : OR w5 B (.slice avc cs.length cvc) cs := own_below HR.out HWW5.out
     obtain ⟨gc, cc', hsh, _⟩ := hrow.block (by omega)
     injection hsh with e1 e2 e3
     subst e1; subst e3
     have hcc := hrow.cell pl hpl
     have hpl' : (pl : Int) < (cs.length : Int) := by omega
     have hc1 := (HC.out pl).1
     have hc2 := (HC.out pl).2
     have hcap := capp_in hn0 hc1 hc2
     have hm0 := hcap.1
     have hm2 := hcap.2
     have HCA := hdn (capped_any n (fn cs pl) w5 hn0 hn2 hc1 hc2)
     clear hrow hcap e2
     generalize fn cs pl = cp at *
     go_wp2_with (go_at_call 59; refine (HCA.out).mono ?_; rintro en w7 ⟨rfl, rfl⟩)
     have HM := hdn (And.intro hm0 hm2)
     have HM1 := hdn (payAll_in (ns := ns) HC.out t.every hm0 hm2)
     have cT : ∀ dd os, Calls Tryz.prog 47 #[.agg #[.map (some mb), .slice (some ⟨gc, 0, none⟩) cs.length cvc], .int .i64 (capp n cp), .slice tp t.len tc] (grow (redrawn w5 dd) os) fun en w'' => en = .returned (.int .i64 (payAll ns cs t.every (capp n cp))) ∧ ∃ p : Regrown, w'' = grow (redrawn w5 p.d) p.os :=
      fun dd os => Calls.regrown_of (HQT.out tp tc _ _ (HWW5.out.trans ((below_regrown _ _ _).mono HWW5.out.size)) HTS.out HM.out.1 HM.out.2)
     have cE : ∀ dd os, Calls Tryz.prog 47 #[.agg #[.map (some mb), .slice (some ⟨gc, 0, none⟩) cs.length cvc], .int .i64 (payAll ns cs t.every (capp n cp)), .slice ep e.len ec] (grow (redrawn w5 dd) os) fun en w'' => en = .returned (.int .i64 (payAll ns cs e.every (payAll ns cs t.every (capp n cp)))) ∧ ∃ p : Regrown, w'' = grow (redrawn w5 p.d) p.os :=
      fun dd os => Calls.regrown_of (HQE.out ep ec _ _ (HWW5.out.trans ((below_regrown _ _ _).mono HWW5.out.size)) HES.out HM1.out.1 HM1.out.2)
     have HM2 := hdn (payAll_in (ns := ns) HC.out e.every HM1.out.1 HM1.out.2)
     have HGN : Hid (payAll ns cs l.every a = payAll ns cs r.every (payAll ns cs e.every (payAll ns cs t.every (capp n cp)))) := hdn (by rw [HG.out, HPC.out, HPE.out])
     clear HPE hm0 hm2
     generalize payAll ns cs e.every (payAll ns cs t.every (capp n cp)) = m2 at *
     generalize payAll ns cs t.every (capp n cp) = m1 at *
     refine wp_region_quiet_below (by kernel_rfl) (by kernel_rfl) ?_
     repeat (go_big_quiet_step (first | (with_reducible exact cT _ _) | (with_reducible exact cE _ _)))
     refine wpQuiet_nil ?_
     intro _ hw'
     obtain ⟨⟨dq, osq⟩, hw''⟩ := hw'
     subst hw''
     have HB6 := hdn (below_regrown w5 dq osq)
     generalize grow (redrawn w5 dq) osq = w6 at HB6 ⊢
     go_wp2_with fail
     go_roundw
     case rel => exact ⟨k + 1, r, m2, by go_num, rfl, by omega, HM2.out.1, HM2.out.2, hdn (by have := HK.out; simp only [SL.len] at this; omega), HGN, HRS, HQR, hdn (HW5.out.trans (HB6.out.mono HW5.out.size))⟩
     case measure => simp [intOf]; omega
    ·have HPE : Hid (payH ns cs h n = n) := hdn (by rw [HPH.out, if_neg hk3])
     have hm0 : 0 ≤ n := hn0
     have hm2 : n ≤ 1073741824 := hn2
     go_wp2_with fail
     have HM := hdn (And.intro hm0 hm2)
     have HM1 := hdn (payAll_in (ns := ns) HC.out t.every hm0 hm2)
     have cT : ∀ dd os, Calls Tryz.prog 47 #[.agg #[.map (some mb), .slice avc cs.length cvc], .int .i64 (n), .slice tp t.len tc] (grow (redrawn w5 dd) os) fun en w'' => en = .returned (.int .i64 (payAll ns cs t.every (n))) ∧ ∃ p : Regrown, w'' = grow (redrawn w5 p.d) p.os :=
      fun dd os => Calls.regrown_of (HQT.out tp tc _ _ (HWW5.out.trans ((below_regrown _ _ _).mono HWW5.out.size)) HTS.out HM.out.1 HM.out.2)
     have cE : ∀ dd os, Calls Tryz.prog 47 #[.agg #[.map (some mb), .slice avc cs.length cvc], .int .i64 (payAll ns cs t.every (n)), .slice ep e.len ec] (grow (redrawn w5 dd) os) fun en w'' => en = .returned (.int .i64 (payAll ns cs e.every (payAll ns cs t.every (n)))) ∧ ∃ p : Regrown, w'' = grow (redrawn w5 p.d) p.os :=
      fun dd os => Calls.regrown_of (HQE.out ep ec _ _ (HWW5.out.trans ((below_regrown _ _ _).mono HWW5.out.size)) HES.out HM1.out.1 HM1.out.2)
     have HM2 := hdn (payAll_in (ns := ns) HC.out e.every HM1.out.1 HM1.out.2)
     have HGN : Hid (payAll ns cs l.every a = payAll ns cs r.every (payAll ns cs e.every (payAll ns cs t.every (n)))) := hdn (by rw [HG.out, HPC.out, HPE.out])
     clear HPE hm0 hm2
     generalize payAll ns cs e.every (payAll ns cs t.every (n)) = m2 at *
     generalize payAll ns cs t.every (n) = m1 at *
     refine wp_region_quiet_below (by kernel_rfl) (by kernel_rfl) ?_
     repeat (go_big_quiet_step (first | (with_reducible exact cT _ _) | (with_reducible exact cE _ _)))
     refine wpQuiet_nil ?_
     intro _ hw'
     obtain ⟨⟨dq, osq⟩, hw''⟩ := hw'
     subst hw''
     have HB6 := hdn (below_regrown w5 dq osq)
     generalize grow (redrawn w5 dq) osq = w6 at HB6 ⊢
     go_wp2_with fail
     go_roundw
     case rel => exact ⟨k + 1, r, m2, by go_num, rfl, by omega, HM2.out.1, HM2.out.2, hdn (by have := HK.out; simp only [SL.len] at this; omega), HGN, HRS, HQR, hdn (HW5.out.trans (HB6.out.mono HW5.out.size))⟩
     case measure => simp [intOf]; omega
end Go.Proofs.YtmhpaacjioeknaaGreat
