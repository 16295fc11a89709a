/-
  DERIVED. The edges by the points from which they lead; the walk of woven.
-/
import Derived.Test.YtnkimfbdcghgpaaDoorXc
namespace Go.Proofs.YtnkimfbdcghgpaaDoor
open Go.RowKit Go.Sort

/-- An edge from a point to a point. -/
def okE (n : Nat) (e : Ed) : Bool := isPt n e.f && isPt n e.t
/-- The edges from a point. -/
def row (es : List Ed) (n i : Nat) : List Ed := es.filter fun e => okE n e && decide (e.f = (i : Int))
def web (es : List Ed) (n : Nat) : List (List Ed) := (List.range n).map (row es n)
theorem web_len (es : List Ed) (n : Nat) : (web es n).length = n := by simp [web]
theorem web_at {es : List Ed} {n i : Nat} (hi : i < n) : (web es n)[i]? = some (row es n i) := by
  unfold web; rw [List.getElem?_map, List.getElem?_range hi]; rfl
theorem row_app (es : List Ed) (n i : Nat) (e : Ed) : row (es ++ [e]) n i = row es n i ++ (if (okE n e && decide (e.f = (i : Int))) = true then [e] else []) := by
  unfold row; rw [List.filter_append, List.filter_cons, List.filter_nil]
theorem web_no {es : List Ed} {n : Nat} {e : Ed} (h : okE n e = false) : web (es ++ [e]) n = web es n := by
  unfold web
  apply List.map_congr_left
  intro i _
  rw [row_app, h]; simp
theorem web_yes {es : List Ed} {n i : Nat} {e : Ed} (h : okE n e = true) (hi : i < n) (he : e.f = (i : Int)) : (web es n).set i (row es n i ++ [e]) = web (es ++ [e]) n := by
  apply List.ext_getElem?
  intro j
  by_cases hj : j < n
  · by_cases hji : i = j
    · subst hji
      rw [List.getElem?_set_self (by rw [web_len]; exact hi), web_at hi, row_app, h, he]; simp
    · rw [List.getElem?_set_ne hji, web_at hj, web_at hj, row_app]
      have : decide (e.f = (j : Int)) = false := decide_eq_false (by omega)
      rw [this]; simp
  · rw [List.getElem?_eq_none (by rw [List.length_set, web_len]; omega), List.getElem?_eq_none (by rw [web_len]; omega)]
theorem web_nil (n : Nat) : web [] n = List.replicate n [] := by
  unfold web row
  apply List.ext_getElem?
  intro j
  rw [List.getElem?_map, List.getElem?_replicate]
  by_cases hj : j < n
  · rw [List.getElem?_range hj, if_pos hj]; rfl
  · rw [List.getElem?_eq_none (by simp; omega), if_neg hj]; rfl
theorem row_len (es : List Ed) (n i : Nat) : (row es n i).length ≤ es.length := List.length_filter_le _ _

/-- Rows of edges, all of one's own, their heads in block b. -/
structure Wes (w : World) (B b : Nat) (vs : List Value) (XS : List (List Ed)) : Prop where
  blk : Bk w b 22 vs.toArray
  lt : b < B
  len : vs.length = XS.length
  row : ∀ (t : Nat) (v : Value) (xs : List Ed), vs[t]? = some v → XS[t]? = some xs → OE w B v xs
  dis : ∀ (t t' : Nat) (v v' : Value) (q : Nat), t ≠ t' → vs[t]? = some v → vs[t']? = some v' → v.ownBlock = some q → v'.ownBlock ≠ some q
theorem Wes.below {w w' : World} {B b : Nat} {vs : List Value} {XS : List (List Ed)} (h : Wes w B b vs XS) (hb : Below w.heap.size w w') : Wes w' B b vs XS :=
  ⟨h.blk.below hb h.blk.lt, h.lt, h.len, fun t v xs hv hx => own_below (h.row t v xs hv hx) hb, h.dis⟩
theorem Wes.at_ {w : World} {B b : Nat} {vs : List Value} {XS : List (List Ed)} (h : Wes w B b vs XS) {t : Nat} {xs : List Ed} (hx : XS[t]? = some xs) : ∃ v, vs[t]? = some v ∧ OE w B v xs ∧ w.cell? ⟨b, t, none⟩ = some v ∧ w.frozen? ⟨b, t, none⟩ = false := by
  have ht : t < vs.length := by rw [h.len]; exact (List.getElem?_eq_some_iff.1 hx).1
  refine ⟨vs[t], List.getElem?_eq_getElem ht, h.row t _ xs (List.getElem?_eq_getElem ht) hx, ?_, h.blk.frozen t⟩
  have := h.blk.cell t
  simpa [ht] using this
/-- One row has grown, its head goes back. -/
theorem Wes.push {w w2 : World} {B b t : Nat} {vs : List Value} {XS : List (List Ed)} {v v' : Value} {xs ys : List Ed} (h : Wes w B b vs XS) (hv : vs[t]? = some v) (hx : XS[t]? = some xs) (ho : OE w2 B v' ys) (hg : w.grownBy w2 v.ownBlock) (hto : RowTo w v v') :
    Wes (w2.setCell ⟨b, t, none⟩ v') B b (vs.set t v') (XS.set t ys) := by
  have hv1 := h.row t v xs hv hx
  have gS : w2.grownBy (w2.setCell ⟨b, t, none⟩ v') (some b) := grownBy_setC w2 ⟨b, t, none⟩ v'
  have ht : t < vs.length := (List.getElem?_eq_some_iff.1 hv).1
  refine ⟨?_, h.lt, by rw [List.length_set, List.length_set]; exact h.len, ?_, ?_⟩
  · have h1 := h.blk.grown hg (fun q hq => by have := (hv1.lt q hq).1; have := h.lt; omega)
    have := h1.set_ t v'
    rwa [List.setIfInBounds_toArray] at this
  · intro s u zs hu hz
    by_cases hs : t = s
    · subst hs
      rw [List.getElem?_set_self ht] at hu
      rw [List.getElem?_set_self (by rw [← h.len]; exact ht)] at hz
      cases hu; cases hz
      exact own_par ho gS h.lt
    · rw [List.getElem?_set_ne hs] at hu hz
      have h1 := h.row s u zs hu hz
      refine own_par (h1.kept hg ?_) gS h.lt
      cases hq : u.ownBlock with
      | none => exact .inl rfl
      | some q => right; exact fun e => h.dis s t u v q (fun e => hs e.symm) hu hv hq e.symm
  · intro s s' u u' q hne hu hu' hq
    have hnew : ∀ (r : Nat) (x : Value), r ≠ t → vs[r]? = some x → ∀ q, v'.ownBlock = some q → x.ownBlock ≠ some q := by
      intro r x hr hxr q hq' e
      rcases hto with h1 | ⟨k, h1, h2⟩
      · rw [h1] at hq'
        exact h.dis r t x v q hr hxr hv e hq'
      · rw [h2] at hq'; cases hq'
        obtain ⟨zs, hzs⟩ : ∃ zs, XS[r]? = some zs := ⟨_, List.getElem?_eq_getElem (by rw [← h.len]; exact (List.getElem?_eq_some_iff.1 hxr).1)⟩
        have := ((h.row r x zs hxr hzs).lt _ e).2
        omega
    by_cases h1 : t = s
    · subst h1
      rw [List.getElem?_set_self ht] at hu
      cases hu
      rw [List.getElem?_set_ne hne] at hu'
      exact hnew s' u' (fun e => hne e.symm) hu' q hq
    · rw [List.getElem?_set_ne h1] at hu
      by_cases h2 : t = s'
      · subst h2
        rw [List.getElem?_set_self ht] at hu'
        cases hu'
        intro e
        exact hnew s u (fun e => h1 e.symm) hu q e hq
      · rw [List.getElem?_set_ne h2] at hu'
        exact h.dis s s' u u' q hne hu hu' hq
/-- n empty rows. -/
theorem Wes.nil (w : World) (n : Nat) : Wes (w.alloc (.cells (madeCells #[.slice none 0 0] n) 22)) (w.heap.size + 1) w.heap.size (List.replicate n (.slice none 0 0)) (List.replicate n []) := by
  refine ⟨?_, Nat.lt_succ_self _, by simp, ?_, ?_⟩
  · have h1 : madeCells #[.slice none 0 0] n = (List.replicate n (Value.slice none 0 0)).toArray := by
      apply Array.ext'
      rw [toList_madeCells_one]
    rw [h1]; exact heap_alloc_new _ _
  · intro t v xs hv hx
    rw [List.getElem?_replicate] at hv hx
    split at hv
    · rename_i hlt
      rw [if_pos hlt] at hx
      cases hv; cases hx; exact World.ownsRow_nil _ _ _ _
    · cases hv
  · intro t t' v v' q _ hv _ hq
    rw [List.getElem?_replicate] at hv
    split at hv
    · cases hv; cases hq
    · cases hv
theorem infoRow : (Tryd.prog.info? 22).map (fun i => (i.zero, i.size, i.bytes)) = some (some (.slice none 0 0), 1, 24) := by kernel_rfl
theorem take_snocL {α : Type} {l : List α} {k : Nat} {x : α} (h : l[k]? = some x) : l.take (k + 1) = l.take k ++ [x] := by
  have h1 := List.getElem?_eq_some_iff.1 h
  rw [List.take_succ_eq_append_getElem h1.1, h1.2]
/-- What woven leaves. -/
def WvPost (es : List Ed) (n : Nat) (w w' : World) (e : Ending) : Prop := ∃ B b vs, e = .returned (.slice (some ⟨b, 0, none⟩) n n) ∧ Wes w' B b vs (web es n) ∧ Below w.heap.size w w' ∧ w.heap.size ≤ b
set_option maxHeartbeats 6400000 in
set_option maxRecDepth 100000 in
theorem woven_any (g : Gh) (n : Nat) (hp : g.pts = n) (h1 : 1 ≤ n) (h2 : n ≤ 2000) (he : g.es.length ≤ 4000) (x : Nat) (w : World) (hl : ELies w x g.ep g.es) :
    Calls Tryd.prog 13 #[.agg g.cs] w fun e w' => WvPost g.es n w w' e := by
  have HK : Hid (Bk (w.alloc (.cells g.cs 26)) w.heap.size 26 g.cs) := Lib.hid (heap_alloc_new _ _)
  have HB : Hid (Below w.heap.size w (w.alloc (.cells g.cs 26))) := Lib.hid ((Below.refl _ _).alloc (Nat.le_refl _) _)
  have HL : Hid (ELies (w.alloc (.cells g.cs 26)) x g.ep g.es) := Lib.hid (hl.gr ((Gr.refl w (fun _ => False)).alloc _) (fun _ _ _ _ h => h))
  obtain ⟨ir, hir, hz0, hz1, hz2⟩ := info_parts infoRow
  have HIR := Lib.hid (And.intro hir (And.intro hz0 (And.intro hz1 hz2)))
  have HP := Lib.hid hp
  have HE := Lib.hid he
  have H2 := Lib.hid h2
  have hn1 : (1 : Int) ≤ (n : Int) := by omega
  have hn2 : (n : Int) ≤ 2000 := by omega
  have he' : (g.es.length : Int) ≤ 4000 := by omega
  have he2 : decide ((4000 : Int) < (g.es.length : Int)) = false := decide_eq_false (by omega)
  have HQ : Hid (∀ at_ w', Calls Tryd.prog 28 #[.agg g.cs, .int .i64 at_] w' fun e w'' => e = .returned (.bool (isPt n at_)) ∧ Below w'.heap.size w' w'') := Lib.hid (fun at_ w' => by rw [← hp]; exact isPoint_any g at_ w')
  have HSZ : Hid (w.heap.size < (w.alloc (.cells g.cs 26)).heap.size) := Lib.hid (by simp)
  have HL0 := Lib.hid hl
  clear hp he h1 h2 hl hir hz0 hz1 hz2
  go_enter Tryd.func13, Tryd.ntmps13
  go_upto_region 1 with fail
  obtain ⟨gb, hgb⟩ : ∃ gb, gb = w.heap.size := ⟨_, rfl⟩
  have HGB := Lib.hid hgb
  rw [← hgb] at HK HSZ ⊢
  clear hgb
  generalize w.alloc (.cells g.cs 26) = wA at HK HB HL HSZ ⊢
  have c0 : wA.cell? ⟨gb, 0, none⟩ = some (.int .i64 n) := by rw [← HP.out]; exact HK.out.cell 0
  have c4 : wA.cell? ⟨gb, 4, none⟩ = some (.slice g.ep g.es.length g.ec) := HK.out.cell 4
  go_wp2_with fail
  refine (within_yes (n : Int) 1 2000 hn1 hn2 wA).mono ?_
  rintro en w2 ⟨rfl, hb⟩
  have HB2 : Hid (Below w.heap.size w w2) := Lib.hid (HB.out.trans (hb.mono HB.out.size))
  have HK2 := Lib.hid (HK.out.below hb HSZ.out)
  have HL2 : Hid (ELies w2 x g.ep g.es) := Lib.hid (HL.out.gr (Gr.of_below (S := fun _ => False) hb) (fun _ _ _ _ h => h))
  have HSZ2 : Hid (gb < w2.heap.size) := Lib.hid (Nat.lt_of_lt_of_le HSZ.out hb.size)
  clear c0 c4 hb HB HK HL
  have c0 : w2.cell? ⟨gb, 0, none⟩ = some (.int .i64 n) := by rw [← HP.out]; exact HK2.out.cell 0
  have c4 : w2.cell? ⟨gb, 4, none⟩ = some (.slice g.ep g.es.length g.ec) := HK2.out.cell 4
  go_upto_region 4 with (at_make; refine wpList_make_row _ rfl _ _ 41 rfl 22 ir (.slice none 0 0) Tryd.underlying41 HIR.out.1 HIR.out.2.1 HIR.out.2.2.1 rfl .i64 .i64 n rfl rfl (by rw [HIR.out.2.2.2]; have := H2.out; omega) (by have := H2.out; omega) ?_)
  have hm : Below w2.heap.size w2 (w2.alloc (.cells (madeCells #[.slice none 0 0] n) 22)) := (Below.refl _ _).alloc (Nat.le_refl _) _
  have HR3 := Lib.hid (Wes.nil w2 n)
  rw [← web_nil n] at HR3
  have HB3 : Hid (Below w.heap.size w (w2.alloc (.cells (madeCells #[.slice none 0 0] n) 22))) := Lib.hid (HB2.out.trans (hm.mono HB2.out.size))
  have HK3 := Lib.hid (HK2.out.below hm HSZ2.out)
  have HL3 : Hid (ELies (w2.alloc (.cells (madeCells #[.slice none 0 0] n) 22)) x g.ep g.es) := Lib.hid (HL2.out.gr (Gr.of_below (S := fun _ => False) hm) (fun _ _ _ _ h => h))
  have HBB : Hid (w.heap.size ≤ w2.heap.size) := Lib.hid HB2.out.size
  have HGBB : Hid (gb < w2.heap.size) := Lib.hid HSZ2.out
  have HXB : Hid (w2.heap.size + 1 ≤ (w2.alloc (.cells (madeCells #[.slice none 0 0] n) 22)).heap.size) := Lib.hid (by simp)
  clear hm c0 c4 HK2 HL2 HB2 HIR ir
  generalize w2.alloc (.cells (madeCells #[.slice none 0 0] n) 22) = w3 at HR3 HB3 HK3 HL3 HXB ⊢
  generalize w2.heap.size = b at *
  have c4 : w3.cell? ⟨gb, 4, none⟩ = some (.slice g.ep g.es.length g.ec) := HK3.out.cell 4
  go_wp2_with fail
  clear c4
  go_loopw [22] (fun sk wr => ∃ (k : Nat) (vs : List Value), sk = .int .i64 k ∧ k ≤ g.es.length ∧ Hid (Wes wr (b + 1) b vs (web (g.es.take k) n)) ∧ Hid (Below b w3 wr) ∧ Hid (b + 1 ≤ wr.heap.size)) (fun sk _ => g.es.length - (Lib.intOf sk).toNat)
  case atStart => exact ⟨0, _, rfl, Nat.zero_le _, HR3, Lib.hid (Below.refl _ _), HXB⟩
  case round =>
    clear HR3 HXB
    obtain ⟨k, vs, rfl, hk, HR, HBR, HXB⟩ := hrel
    have HBW : Hid (Below w.heap.size w wr) := Lib.hid (HB3.out.trans (HBR.out.mono (by have := HBB.out; omega)))
    by_cases hlt : k < g.es.length
    · obtain ⟨e, hek⟩ : ∃ e, g.es[k]? = some e := ⟨_, List.getElem?_eq_getElem hlt⟩
      have HKR := Lib.hid (HK3.out.below HBR.out HGBB.out)
      have hle : ELies wr x g.ep g.es := HL0.out.gr (Gr.of_below (S := fun _ => False) HBW.out) (fun _ _ _ _ h => h)
      obtain ⟨eb, eo, hep, -, hr⟩ := hle.at_ hek
      have HR34 := Lib.hid hr
      have HTK : Hid (g.es.take (k + 1) = g.es.take k ++ [e]) := Lib.hid (take_snocL hek)
      rw [hep]
      have hlt' : (k : Int) < (g.es.length : Int) := by omega
      clear hle hr hek hep
      go_upto_region 7 with (first
        | ((with_reducible show wpList _ _ _ (Oper.mk _ (Op.load 34 _) _ _ _ _ :: _) _ _); refine wpList_load_arr rfl 34 _ rfl eb (eo + k * 14) (by simp [Act.eval]) e.cs _ HR34.out Tryd.underlying34 rfl size34 ?_)
        | ((with_reducible show wpList _ _ _ (Oper.mk _ (Op.store 34 _ _) _ _ _ _ :: _) _ _); refine wpList_store_new rfl 34 _ _ rfl _ e.cs rfl rfl size34 rfl (Ed.one e) ?_))
      have HEB : Hid (Bk (wr.alloc (.cells e.cs 34)) wr.heap.size 34 e.cs) := Lib.hid (heap_alloc_new _ _)
      have hm : Below wr.heap.size wr (wr.alloc (.cells e.cs 34)) := (Below.refl _ _).alloc (Nat.le_refl _) _
      have HKE := Lib.hid (HKR.out.below hm HKR.out.lt)
      have HRE := Lib.hid (HR.out.below hm)
      have HBE : Hid (Below b w3 (wr.alloc (.cells e.cs 34))) := Lib.hid (HBR.out.trans (hm.mono (by have := HXB.out; omega)))
      have HRQ : Hid (∀ (t : Nat) (v : Value) (q : Nat), vs[t]? = some v → v.ownBlock = some q → q < wr.heap.size) := Lib.hid (fun t v q hv hq => by
        obtain ⟨xs, hxs⟩ : ∃ xs, (web (g.es.take k) n)[t]? = some xs := ⟨_, List.getElem?_eq_getElem (by rw [← HR.out.len]; exact (List.getElem?_eq_some_iff.1 hv).1)⟩
        exact ((HR.out.row t v xs hv hxs).lt q hq).2)
      have HXE : Hid (b + 1 ≤ wr.heap.size ∧ wr.heap.size < (wr.alloc (.cells e.cs 34)).heap.size) := Lib.hid ⟨HXB.out, by simp⟩
      clear hm HR HBR HKR HR34 HXB HBW
      change Code.wp _ _ _ _ (wr.alloc (.cells e.cs 34))
      obtain ⟨qb, hqb⟩ : ∃ qb, qb = wr.heap.size := ⟨_, rfl⟩
      rw [← hqb] at HEB HXE HRQ ⊢
      clear hqb
      generalize wr.alloc (.cells e.cs 34) = wE at HEB HKE HRE HBE HXE ⊢
      have e0 : wE.cell? ⟨qb, 0, none⟩ = some (.int .i64 e.f) := HEB.out.cell 0
      have e1 : wE.cell? ⟨qb, 1, none⟩ = some (.int .i64 e.t) := HEB.out.cell 1
      rcases h1 : isPt n e.f with _ | _
      · have HNO : Hid (okE n e = false) := Lib.hid (by unfold okE; rw [h1]; rfl)
        have HQ1 := Lib.hid (HQ.out e.f wE)
        rw [h1] at HQ1
        clear h1
        generalize e.f = ef at *
        go_wp2_with (first
          | ((with_reducible show wpList _ _ _ (Oper.mk _ (Op.load 26 _) _ _ _ _ :: _) _ _); refine wpList_load_bk rfl 26 _ rfl gb 26 g.cs rfl _ HKE.out Tryd.underlying26 rfl size26 ?_)
          | (go_at_call 28; refine (HQ1.out).mono ?_; rintro en w5 ⟨rfl, hb⟩; have HB5 := Lib.hid hb; clear hb))
        have HB6 : Hid (Below b w3 w5) := Lib.hid (HBE.out.trans (HB5.out.mono (by have := HXE.out; omega)))
        go_roundw
        case rel => exact ⟨k + 1, vs, by go_num, by omega, Lib.hid (by rw [HTK.out, web_no HNO.out]; exact HRE.out.below HB5.out), HB6, Lib.hid (by have := HXE.out; have := HB5.out.size; omega)⟩
        case measure => simp [Lib.intOf]; omega
      · have HQ1 := Lib.hid (HQ.out e.f wE)
        rw [h1] at HQ1
        have HF := Lib.hid h1
        clear h1
        go_wp2_with (first
          | ((with_reducible show wpList _ _ _ (Oper.mk _ (Op.load 26 _) _ _ _ _ :: _) _ _); refine wpList_load_bk rfl 26 _ rfl gb 26 g.cs rfl _ HKE.out Tryd.underlying26 rfl size26 ?_))
        refine (HQ1.out).mono ?_
        rintro en w5 ⟨rfl, hb⟩
        have HB5 := Lib.hid hb
        have HE5 := Lib.hid (HEB.out.below hb HEB.out.lt)
        have HK5 := Lib.hid (HKE.out.below hb HKE.out.lt)
        have HR5 := Lib.hid (HRE.out.below hb)
        clear hb e0 e1
        have e1 : w5.cell? ⟨qb, 1, none⟩ = some (.int .i64 e.t) := HE5.out.cell 1
        have HQ2 := Lib.hid (HQ.out e.t w5)
        rcases h2 : isPt n e.t with _ | _
        · have HNO : Hid (okE n e = false) := Lib.hid (by unfold okE; rw [h2, HF.out]; rfl)
          rw [h2] at HQ2
          clear h2
          generalize e.t = et at *
          go_wp2_with (first
            | ((with_reducible show wpList _ _ _ (Oper.mk _ (Op.load 26 _) _ _ _ _ :: _) _ _); refine wpList_load_bk_g 26 _ (by rfl) rfl gb 26 g.cs rfl _ HK5.out Tryd.underlying26 rfl size26 ?_)
            | (go_at_call 28; refine (HQ2.out).mono ?_; rintro en w6 ⟨rfl, hb⟩; have HB6 := Lib.hid hb; clear hb))
          have HB7 : Hid (Below b w3 w6) := Lib.hid (HBE.out.trans ((HB5.out.trans (HB6.out.mono HB5.out.size)).mono (by have := HXE.out; omega)))
          go_roundw
          case rel => exact ⟨k + 1, vs, by go_num, by omega, Lib.hid (by rw [HTK.out, web_no HNO.out]; exact HR5.out.below HB6.out), HB7, Lib.hid (by have := HXE.out; have := HB5.out.size; have := HB6.out.size; omega)⟩
          case measure => simp [Lib.intOf]; omega
        · have HOK : Hid (okE n e = true) := Lib.hid (by unfold okE; rw [h2, HF.out]; rfl)
          rw [h2] at HQ2
          clear h2
          go_wp2_with (first
            | ((with_reducible show wpList _ _ _ (Oper.mk _ (Op.load 26 _) _ _ _ _ :: _) _ _); refine wpList_load_bk_g 26 _ (by rfl) rfl gb 26 g.cs rfl _ HK5.out Tryd.underlying26 rfl size26 ?_))
          refine (HQ2.out).mono ?_
          rintro en w6 ⟨rfl, hb⟩
          have HB6 := Lib.hid hb
          have HE6 := Lib.hid (HE5.out.below hb HE5.out.lt)
          have HR6 := Lib.hid (HR5.out.below hb)
          clear hb e1
          have hef := isPt_iff.1 HF.out
          obtain ⟨i, hi⟩ : ∃ i : Nat, e.f = (i : Int) := ⟨e.f.toNat, by omega⟩
          have hin : i < n := by omega
          obtain ⟨v, hv, hov, hcv, hfv⟩ := HR6.out.at_ (web_at (es := g.es.take k) hin)
          have HV := Lib.hid hv
          have HOV := Lib.hid hov
          have HWI : Hid ((web (g.es.take k) n)[i]? = some (row (g.es.take k) n i)) := Lib.hid (web_at hin)
          have HWY : Hid ((web (g.es.take k) n).set i (row (g.es.take k) n i ++ [e]) = web (g.es.take (k + 1)) n) := Lib.hid (by rw [HTK.out]; exact web_yes HOK.out hin hi)
          have e0 : w6.cell? ⟨qb, 0, none⟩ = some (.int .i64 i) := by rw [← hi]; exact HE6.out.cell 0
          have hin' : (i : Int) < (n : Int) := by omega
          have HI := Lib.hid hi
          obtain ⟨av, cv, rfl⟩ := own_shape hov
          have HCV := Lib.hid hcv
          have HRL : Hid ((row (g.es.take k) n i).length ≤ 4000) := Lib.hid (by have := row_len (g.es.take k) n i; rw [List.length_take] at this; have := HE.out; omega)
          generalize row (g.es.take k) n i = rw_ at *
          clear hv hov hef hi hin HF HOK
          clear hcv hfv e0
          have HD := Lib.hid (HE6.out : Bk w6.drew qb 34 e.cs)
          have d0 : w6.drew.cell? ⟨qb, 0, none⟩ = some (.int .i64 i) := by rw [← HI.out]; exact HD.out.cell 0
          have d1 : w6.drew.cell? ⟨qb, 1, none⟩ = some (.int .i64 e.t) := HD.out.cell 1
          have d2 : w6.drew.cell? ⟨qb, 2, none⟩ = some (.int .i64 e.a.kind) := HD.out.cell 2
          have d3 : w6.drew.cell? ⟨qb, 3, none⟩ = some (.int .i64 e.a.x) := HD.out.cell 3
          have d4 : w6.drew.cell? ⟨qb, 4, none⟩ = some (.int .i64 e.a.y) := HD.out.cell 4
          have d5 : w6.drew.cell? ⟨qb, 5, none⟩ = some (.int .i64 e.a.f) := HD.out.cell 5
          have d6 : w6.drew.cell? ⟨qb, 6, none⟩ = some (.int .i64 e.a.t) := HD.out.cell 6
          have d7 : w6.drew.cell? ⟨qb, 7, none⟩ = some (.int .i64 e.a.pl) := HD.out.cell 7
          have d8 : w6.drew.cell? ⟨qb, 8, none⟩ = some (.int .i64 e.a.op) := HD.out.cell 8
          have d9 : w6.drew.cell? ⟨qb, 9, none⟩ = some (.int .i64 e.a.l.v) := HD.out.cell 9
          have d10 : w6.drew.cell? ⟨qb, 10, none⟩ = some (.int .i64 e.a.l.n) := HD.out.cell 10
          have d11 : w6.drew.cell? ⟨qb, 11, none⟩ = some (.int .i64 e.a.r.v) := HD.out.cell 11
          have d12 : w6.drew.cell? ⟨qb, 12, none⟩ = some (.int .i64 e.a.r.n) := HD.out.cell 12
          have d13 : w6.drew.cell? ⟨qb, 13, none⟩ = some (.bool e.a.sense) := HD.out.cell 13
          have hcv' : w6.drew.cell? ⟨b, i, none⟩ = some (.slice av rw_.length cv) := HCV.out
          have HSB : Hid (b < w6.heap.size ∧ qb < w6.heap.size) := Lib.hid ⟨HR6.out.blk.lt, HE6.out.lt⟩
          have hcA : ∀ ob, (w6.alloc ob).drew.cell? ⟨b, i, none⟩ = some (.slice av rw_.length cv) := fun ob => (World.cell?_alloc_lt w6 ob ⟨b, i, none⟩ HSB.out.1).trans hcv'
          have dA0 : ∀ ob, (w6.alloc ob).drew.cell? ⟨qb, 0, none⟩ = some (.int .i64 i) := fun ob => (World.cell?_alloc_lt w6 ob ⟨qb, 0, none⟩ HSB.out.2).trans d0
          have HOV2 : Hid (OE w6.drew (b + 1) (.slice av rw_.length cv) rw_) := Lib.hid HOV.out
          go_wp2_with fail
          go_region_law (refine step_app_ed (w := w6.drew) rfl (.tmp 43) (.tmp 45) rfl (b + 1) rw_ (.slice av rw_.length cv) rfl HOV2.out (by have := HSB.out; show b + 1 ≤ w6.heap.size; omega) ⟨(i : Int), e.t, e.a⟩ rfl (by have := HRL.out; omega) ?_; intro v' w7 hO hsh hg hto; obtain ⟨g7, c7, rfl⟩ := hsh; have HO7 := Lib.hid hO; have HG7 := Lib.hid hg; have HTO7 := Lib.hid hto; have hb7 := (HR6.out.blk.grown (show w6.grownBy w7 _ from ⟨hg.os, hg.tape, hg.output, hg.size, hg.block⟩) (fun q hq => by have := (HOV.out.lt q hq).1; omega)); have cb7 : w7.cell? ⟨b, i, none⟩ = some (.slice av rw_.length cv) := (hb7.cell i).trans ((HR6.out.blk.cell i).symm.trans HCV.out); have fb7 : w7.frozen? ⟨b, i, none⟩ = false := hb7.frozen i; have q7 : w7.cell? ⟨qb, 0, none⟩ = some (.int .i64 i) := (by have h9 := HE6.out.grown (show w6.grownBy w7 _ from ⟨hg.os, hg.tape, hg.output, hg.size, hg.block⟩) (fun q hq => Nat.ne_of_lt (HRQ.out _ _ q HV.out hq)); rw [← HI.out]; exact h9.cell 0); clear hO hg hto hb7)
          all_goals
            have HG7' : Hid (w6.grownBy w7 (Value.slice av rw_.length cv).ownBlock) := Lib.hid ⟨HG7.out.os, HG7.out.tape, HG7.out.output, HG7.out.size, HG7.out.block⟩
            have HT7' : Hid (RowTo w6 (.slice av rw_.length cv) (.slice (some ⟨g7, 0, none⟩) (rw_.length + 1) c7)) := Lib.hid HTO7.out
            have HP := Lib.hid (HR6.out.push HV.out HWI.out HO7.out HG7'.out HT7'.out)
            have hee : (⟨(i : Int), e.t, e.a⟩ : Ed) = e := by rw [← HI.out]
            rw [hee, HWY.out] at HP
            have HBB6 : Hid (Below b w3 w6) := Lib.hid (HBE.out.trans ((HB5.out.trans (HB6.out.mono HB5.out.size)).mono (by have := HXE.out; omega)))
            have HB7 : Hid (Below b w3 (w7.setCell ⟨b, i, none⟩ (.slice (some ⟨g7, 0, none⟩) (rw_.length + 1) c7))) := Lib.hid ((HBB6.out.grown HG7'.out (by have := HSB.out; omega) (fun q hq => by have := (HOV.out.lt q hq).1; omega)).setCell (p := ⟨b, i, none⟩) (Nat.le_refl _) _)
            have HX7 : Hid (b + 1 ≤ (w7.setCell ⟨b, i, none⟩ (.slice (some ⟨g7, 0, none⟩) (rw_.length + 1) c7)).heap.size) := Lib.hid (by have := HG7'.out.size; have := HSB.out; have := (grownBy_setC w7 ⟨b, i, none⟩ (.slice (some ⟨g7, 0, none⟩) (rw_.length + 1) c7)).size; omega)
            clear hee
            go_wp2_with fail
            go_roundw
            case rel => exact ⟨k + 1, _, by go_num, by omega, HP, HB7, HX7⟩
            case measure => simp [Lib.intOf]; omega
    · have hke : k = g.es.length := by omega
      subst hke
      have HRF : Hid (Wes wr (b + 1) b vs (web g.es n)) := Lib.hid (by have := HR.out; rwa [List.take_length] at this)
      have hbb := HBB.out
      clear HR
      go_wp2_with fail
      go_ret
      exact ⟨b + 1, b, vs, rfl, HRF.out, HBW.out, hbb⟩
end Go.Proofs.YtnkimfbdcghgpaaDoor
