/-
  DERIVED. The walk of the document's Build.
-/
import Derived.Test.YtjkgkigfmcegoaaRb
namespace Go.Proofs.Ytjkgkigfmcegoaa
open Go.RowKit Go.Sort Go.Maps

structure RbInv (x : Pg) (w wr : World) : Prop where
  below : Below w.heap.size w wr
  box : Bk wr w.heap.size 26 #[.slice x.structs.p x.structs.l.length x.structs.cap, .slice x.globals.p x.globals.l.length x.globals.cap, .slice x.procs.p x.procs.l.length x.procs.cap]
  res : Bk wr (w.heap.size + 1) 35 #[.slice none 0 0, .slice none 0 0, .slice none 0 0, .slice none 0 0]
theorem RbInv.keep {x : Pg} {w wr w' : World} (h : RbInv x w wr) (hb : Below wr.heap.size wr w') : RbInv x w w' :=
  ⟨h.below.trans (hb.mono h.below.size), h.box.below hb h.box.lt, h.res.below hb h.res.lt⟩
theorem RbInv.gr {x : Pg} {w wr w' : World} {S : Nat → Prop} (h : RbInv x w wr) (hg : Gr wr w' S) (hS : ∀ k, S k → w.heap.size + 2 ≤ k) : RbInv x w w' :=
  ⟨h.below.trans (hg.below (N := w.heap.size) h.below.size (fun k hk => by have := hS k hk; omega)), hg.bk h.box (fun hk => by have := hS _ hk; omega), hg.bk h.res (fun hk => by have := hS _ hk; omega)⟩
/-- What the document's Build leaves. -/
def RbPost (x : Pg) (w : World) (en : Ending) (w' : World) : Prop :=
  ∃ cs : Array Value, en = .returned (.tuple #[.agg cs, .int .i64 (buildGo x).1, .int .i64 (buildGo x).2]) ∧ Below w.heap.size w w' ∧
    (cs.size = 4 ∧ cs.all (·.oneCell') = true) ∧
    ((buildGo x).2 = 0 → ∃ v base, cs = #[.slice x.structs.p x.structs.l.length x.structs.cap, .slice x.globals.p x.globals.l.length x.globals.cap, .slice x.procs.p x.procs.l.length x.procs.cap, v] ∧ w'.ownsRow base 42 2 v (endsP x).length (pcells (endsP x)) ∧ (allPairs x).length ≤ 8)
theorem RbPost.zero {x : Pg} {w w' : World} {a b : Int} (hg : buildGo x = (a, b)) (hb : b ≠ 0) (h : Below w.heap.size w w') : RbPost x w (.returned (.tuple #[.agg #[.slice none 0 0, .slice none 0 0, .slice none 0 0, .slice none 0 0], .int .i64 a, .int .i64 b])) w' :=
  ⟨_, by rw [hg], h, ⟨rfl, by simp [Value.oneCell']⟩, fun e => absurd (by rw [hg] at e; exact e) hb⟩
theorem fieldsGo_ok (sn : List ByteArray) : ∀ (l hv : List (Nat × Dc)), hv.length ≤ 8 → (fieldsGo sn hv l).2 = 0 → hv.length + l.length ≤ 8 ∧ ∀ x ∈ l, isIn sn x.2.type = true
  | [], hv, h8, _ => ⟨by simpa using h8, by simp⟩
  | x :: r, hv, h8, h => by
    rw [fieldsGo_cons] at h
    by_cases h0 : fieldE sn (hv.map memb) x.1 x.2 = 0
    · rw [if_pos h0] at h
      have hlt := fieldE_lt h0
      rw [List.length_map] at hlt
      obtain ⟨h1, h2⟩ := fieldsGo_ok sn r (hv ++ [x]) (by simp; omega) h
      refine ⟨by simp at h1 ⊢; omega, fun y hy => ?_⟩
      rcases List.mem_cons.1 hy with rfl | hy
      · by_cases hc : isIn sn y.2.type = true
        · exact hc
        · exfalso
          unfold fieldE at h0
          split at h0
          · split at h0
            · cases h0
            · cases h0
          · rename_i hne; exact hne h0
      · exact h2 y hy
    · rw [if_neg h0] at h
      exact absurd h h0
theorem fieldsGo_zero (sn : List ByteArray) : ∀ (l hv : List (Nat × Dc)), (fieldsGo sn hv l).2 = 0 → fieldsGo sn hv l = (0, 0)
  | [], _, _ => rfl
  | x :: r, hv, h => by
    rw [fieldsGo_cons] at h ⊢
    by_cases h1 : fieldE sn (hv.map memb) x.1 x.2 = 0
    · rw [if_pos h1] at h ⊢
      exact fieldsGo_zero sn r _ h
    · rw [if_neg h1] at h
      exact absurd h h1
theorem pcs_frame {w : World} {q : Pc} (h : pcLies w q) : ∀ d ∈ frameOf q, dcOk d := by
  intro d hd
  rcases List.mem_append.1 hd with hd | hd
  · obtain ⟨k, hk⟩ := List.getElem?_of_mem hd
    rcases h.1.2 with h0 | ⟨b, o, _, hx⟩
    · rw [h0] at hd; simp at hd
    · exact (hx k d hk).2
  · obtain ⟨k, hk⟩ := List.getElem?_of_mem hd
    rcases h.2.1.2 with h0 | ⟨b, o, _, hx⟩
    · rw [h0] at hd; simp at hd
    · exact (hx k d hk).2
/-- The table that is filled. -/
structure RbNum (x : Pg) (w wr : World) (T : Nat) (v : Value) (pd : List (Nat × Dc)) : Prop where
  inv : RbInv x w wr
  tb : Bk wr T 35 #[.slice x.structs.p x.structs.l.length x.structs.cap, .slice x.globals.p x.globals.l.length x.globals.cap, .slice x.procs.p x.procs.l.length x.procs.cap, v]
  top : T + 1 ≤ wr.heap.size
  own : wr.ownsRow (T + 1) 42 2 v (endsOf (sNames x.structs.l) pd).length (pcells (endsOf (sNames x.structs.l) pd))
theorem own_one {w : World} {B : Nat} {e : TypeId} {k : Nat} {v : Value} {n : Nat} {xs : List Value} (h : w.ownsRow B e k v n xs) : v.oneCell' = true := by
  rcases h.2 with ⟨rfl, _⟩ | ⟨g, cap, cur, rfl, _⟩ <;> rfl
theorem slice_one (p : Option Addr) (n c : Nat) : (Value.slice p n c).oneCell' = true := rfl
theorem sIx_in {l : List ByteArray} {x : ByteArray} (h : isIn l x = true) : sIx l x = numOf l x := by unfold sIx; rw [h]; rfl

set_option maxHeartbeats 6400000 in
set_option maxRecDepth 100000 in
theorem refBuild_any (x : Pg) (w : World) (hx : pgLies w x) : Calls Try.prog 9 #[.agg (pval x)] w (RbPost x w) := by
  have HX := Lib.hid hx
  have hlen : x.procs.l.length ≤ 1048576 := hx.2.2.1
  have HI0 : Hid (RbInv x w ((w.alloc (.cells #[.slice x.structs.p x.structs.l.length x.structs.cap, .slice x.globals.p x.globals.l.length x.globals.cap, .slice x.procs.p x.procs.l.length x.procs.cap] 26)).alloc (.cells #[.slice none 0 0, .slice none 0 0, .slice none 0 0, .slice none 0 0] 35))) := Lib.hid ⟨((Below.refl _ _).alloc (Nat.le_refl _) _).alloc (by simp) _, heap_alloc2_old w _ _, heap_alloc2_new w _ _⟩
  have HZ : Hid (∀ wr, RbInv x w wr → pgLies wr x) := Lib.hid (fun wr h => pgLies_below hx h.below)
  clear hx
  go_enter Try.func9, Try.ntmps9
  go_wp2_with fail
  generalize (w.alloc (.cells #[.slice x.structs.p x.structs.l.length x.structs.cap, .slice x.globals.p x.globals.l.length x.globals.cap, .slice x.procs.p x.procs.l.length x.procs.cap] 26)).alloc (.cells #[.slice none 0 0, .slice none 0 0, .slice none 0 0, .slice none 0 0] 35) = wA at HI0 ⊢
  have HC1 := Lib.hid (refStructs_any x wA (HZ.out _ HI0.out))
  unfold pval at HC1
  refine HC1.out.mono ?_; rintro en w1 ⟨rfl, hb1⟩
  have HI1 := Lib.hid (HI0.out.keep hb1)
  clear hb1
  by_cases e1 : (stGo x.structs.l).2 = 0
  · have HE1 := Lib.hid e1
    have HC2 := Lib.hid (refDecls_any x x.globals.l x.globals.p x.globals.cap w1 (HZ.out _ HI1.out) (Lay.two (HZ.out _ HI1.out).2.1))
    unfold pval at HC2
    have k0 : w1.cell? ⟨w.heap.size, 0, none⟩ = some (.slice x.structs.p x.structs.l.length x.structs.cap) := HI1.out.box.cell 0
    have k1 : w1.cell? ⟨w.heap.size, 1, none⟩ = some (.slice x.globals.p x.globals.l.length x.globals.cap) := HI1.out.box.cell 1
    have k2 : w1.cell? ⟨w.heap.size, 2, none⟩ = some (.slice x.procs.p x.procs.l.length x.procs.cap) := HI1.out.box.cell 2
    rw [e1]
    clear e1
    go_wp2_with fail
    refine HC2.out.mono ?_; rintro en w2 ⟨rfl, hb2⟩
    have HI2 := Lib.hid (HI1.out.keep hb2)
    clear hb2 k0 k1 k2
    by_cases e2 : (declsGo (sNames x.structs.l) [] x.globals.l).2 = 0
    · have HE2 := Lib.hid e2
      have HBG : Hid (buildGo x = procsGo (sNames x.structs.l) [] x.procs.l) := Lib.hid (by rw [buildGo_st, if_pos HE1.out, if_pos HE2.out])
      rw [e2]
      clear e2
      go_wp2_with fail
      go_loopw [9] (fun i wr => ∃ k : Nat, i = .int .i64 k ∧ k ≤ x.procs.l.length ∧ Hid (procsGo (sNames x.structs.l) [] x.procs.l = procsGo (sNames x.structs.l) (pNames (x.procs.l.take k)) (x.procs.l.drop k)) ∧ Hid (RbInv x w wr)) (fun i _ => x.procs.l.length - (intOf i).toNat)
      case atStart => exact ⟨0, rfl, Nat.zero_le _, Lib.hid rfl, HI2⟩
      case round =>
        obtain ⟨k, rfl, hk, HG, HI⟩ := hrel
        have kc0 : wr.cell? ⟨w.heap.size, 0, none⟩ = some (.slice x.structs.p x.structs.l.length x.structs.cap) := HI.out.box.cell 0
        have kc1 : wr.cell? ⟨w.heap.size, 1, none⟩ = some (.slice x.globals.p x.globals.l.length x.globals.cap) := HI.out.box.cell 1
        have kc2 : wr.cell? ⟨w.heap.size, 2, none⟩ = some (.slice x.procs.p x.procs.l.length x.procs.cap) := HI.out.box.cell 2
        by_cases hkl : k < x.procs.l.length
        · have HLP : Hid (Lay 6 Pc.cells pcLies wr x.procs.p x.procs.l) := Lib.hid (HZ.out _ HI.out).2.2
          obtain ⟨b, o, hp, hrg, hsr⟩ := HLP.out.at_ hkl
          have hst : procsGo (sNames x.structs.l) [] x.procs.l = if addE 16 (pNames (x.procs.l.take k)) x.procs.l[k].name = 0 then (if (declsGo (sNames x.structs.l) [] (frameOf x.procs.l[k])).2 = 0 then procsGo (sNames x.structs.l) (pNames (x.procs.l.take k) ++ [x.procs.l[k].name]) (x.procs.l.drop (k + 1)) else declsGo (sNames x.structs.l) [] (frameOf x.procs.l[k])) else (x.procs.l[k].pos, addE 16 (pNames (x.procs.l.take k)) x.procs.l[k].name) := by
            rw [HG.out, List.drop_eq_getElem_cons hkl, procsGo_cons]
          have hnx := pNames_take hkl
          have hhl : (pNames (x.procs.l.take k)).length = k := by simp [pNames]; omega
          have HDN := Lib.hid (pNames_get hkl)
          have HPT : Hid (pNames (x.procs.l.take k) = (pNames x.procs.l).take k) := Lib.hid (by simp [pNames, List.map_take])
          have HAT : Hid (∀ wr, RbInv x w wr → ∀ j (hj : j < x.procs.l.length), wr.rangeAt b (o + j * 6) (Pc.cells x.procs.l[j]) ∧ pcLies wr x.procs.l[j]) := Lib.hid (fun wr hi j hj => by
            obtain ⟨b', o', he, h1, h2⟩ := (Lay.of_sl (R := pcLies) (HZ.out _ hi).2.2).at_ hj
            rw [hp] at he
            injection he with he
            injection he with e1 e2
            subst e1; subst e2
            exact ⟨h1, h2⟩)
          generalize hd : x.procs.l[k] = q at hrg hsr hst hnx HDN
          have HQ := Lib.hid hd
          clear hd
          have HST := Lib.hid hst; have HNX := Lib.hid hnx; have HHL := Lib.hid hhl
          have HATQ : Hid (∀ wr, RbInv x w wr → wr.rangeAt b (o + k * 6) (Pc.cells q) ∧ pcLies wr q) := Lib.hid (fun wr hi => by have := HAT.out wr hi k hkl; rwa [HQ.out] at this)
          have hk0 : (0 : Int) ≤ (k : Int) := Int.natCast_nonneg _
          have hk1 : (k : Int) < (x.procs.l.length : Int) := by omega
          rw [hp] at kc2
          clear hst hnx hhl hrg hsr
          by_cases hmany : 16 ≤ k
          · have HE : Hid (buildGo x = (q.pos, 11)) := Lib.hid (by rw [HBG.out, HST.out, addE_many (by rw [HHL.out]; exact hmany), if_neg (by decide)])
            have d1 := cell_at (HATQ.out wr HI.out).1 1 _ rfl
            have hm' : decide ((k : Int) < 16) = false := by simp; omega
            have z0 : wr.drew.cell? ⟨w.heap.size + 1, 0, none⟩ = some (.slice none 0 0) := HI.out.res.cell 0
            have z1 : wr.drew.cell? ⟨w.heap.size + 1, 1, none⟩ = some (.slice none 0 0) := HI.out.res.cell 1
            have z2 : wr.drew.cell? ⟨w.heap.size + 1, 2, none⟩ = some (.slice none 0 0) := HI.out.res.cell 2
            have z3 : wr.drew.cell? ⟨w.heap.size + 1, 3, none⟩ = some (.slice none 0 0) := HI.out.res.cell 3
            have s0 := setCell_self z0
            have s1 := setCell_self z1
            have s2 := setCell_self z2
            have s3 := setCell_self z3
            have f0 : wr.drew.frozen? ⟨w.heap.size + 1, 0, none⟩ = false := HI.out.res.frozen 0
            have f1 : wr.drew.frozen? ⟨w.heap.size + 1, 1, none⟩ = false := HI.out.res.frozen 1
            have f2 : wr.drew.frozen? ⟨w.heap.size + 1, 2, none⟩ = false := HI.out.res.frozen 2
            have f3 : wr.drew.frozen? ⟨w.heap.size + 1, 3, none⟩ = false := HI.out.res.frozen 3
            have kd2 : wr.drew.cell? ⟨w.heap.size, 2, none⟩ = some (.slice (some ⟨b, o, none⟩) x.procs.l.length x.procs.cap) := kc2
            have dd1 : wr.drew.cell? ⟨b, o + k * 6 + 1, none⟩ = some (.int .i64 q.pos) := d1
            go_wp2_with fail
            go_region_held3 (fun w' => w'.cell? ⟨w.heap.size, 2, none⟩ = some (.slice (some ⟨b, o, none⟩) x.procs.l.length x.procs.cap) ∧ w'.cell? ⟨b, o + k * 6 + 1, none⟩ = some (.int .i64 q.pos)) (exact ⟨kd2, dd1⟩) (fail)
            all_goals
              go_wp2_with fail
              exact bodyPost_ret (results9_run (w := wr.drew) rfl rfl rfl HI.out.res) rfl (RbPost.zero HE.out (by decide) (below_drew HI.out.below))
          · have hlt : k < 16 := by omega
            clear hmany
            go_wp2_with fail
            clear kc0 kc1 kc2
            obtain ⟨wo, rfl⟩ : ∃ wo : World, wo = wr := ⟨_, rfl⟩
            go_loopw [10] (fun i wr => ∃ j : Nat, i = .int .i64 j ∧ j ≤ k ∧ Hid (q.name ∉ (pNames x.procs.l).take j) ∧ Hid (RbInv x w wr)) (fun i _ => k - (intOf i).toNat)
            case atStart => exact ⟨0, rfl, Nat.zero_le _, Lib.hid (by simp), HI⟩
            case round =>
              clear HI HLP
              obtain ⟨j, rfl, hj, HN, HI⟩ := hrel
              have kc0 : wr.cell? ⟨w.heap.size, 0, none⟩ = some (.slice x.structs.p x.structs.l.length x.structs.cap) := HI.out.box.cell 0
              have kc1 : wr.cell? ⟨w.heap.size, 1, none⟩ = some (.slice x.globals.p x.globals.l.length x.globals.cap) := HI.out.box.cell 1
              have kc2 : wr.cell? ⟨w.heap.size, 2, none⟩ = some (.slice x.procs.p x.procs.l.length x.procs.cap) := HI.out.box.cell 2
              rw [hp] at kc2
              by_cases hjk : j < k
              · have hjl : j < x.procs.l.length := by omega
                have HJN := Lib.hid (pNames_get hjl)
                have e0 := cell_at (HAT.out wr HI.out j hjl).1 0 _ rfl
                have d0 := cell_at (HATQ.out wr HI.out).1 0 _ rfl
                rw [Nat.add_zero] at e0 d0
                generalize x.procs.l[j].name = a at e0 HJN
                have n0 : (0 : Int) ≤ (j : Int) := Int.natCast_nonneg _
                have n1 : (j : Int) < (k : Int) := by omega
                have n2 : (j : Int) < (x.procs.l.length : Int) := by omega
                cases he : (a.toList == q.name.toList)
                · have HE := Lib.hid he
                  go_wp2_with fail
                  go_quiet (fail)
                  go_wp2_with fail
                  go_roundw
                  case rel => exact ⟨j + 1, by go_num, by omega, Lib.hid (take_next HJN.out HN.out HE.out), Lib.hid (HI.out.keep (below_drewN_ (Below.refl _ _) _))⟩
                  case measure => simp [intOf]; omega
                · have HE : Hid (buildGo x = (q.pos, 7)) := Lib.hid (by
                    rw [eqName] at he
                    have e := of_decide_eq_true he
                    subst e
                    rw [HBG.out, HST.out, addE_twice (by rw [HHL.out]; exact hlt) (by
                      rw [HPT.out]
                      refine List.mem_of_getElem? (i := j) ?_
                      rw [List.getElem?_take, if_pos hjk]; exact HJN.out), if_neg (by decide)])
                  go_wp2_with fail
                  go_quiet (fail)
                  have HI5 := Lib.hid (HI.out.keep (below_drewN_ (Below.refl _ _) nq))
                  generalize wr.drewN nq = w5 at HI5 ⊢
                  clear kc0 kc1 kc2 d0 e0
                  have d1 := cell_at (HATQ.out w5 HI5.out).1 1 _ rfl
                  have z0 : w5.drew.cell? ⟨w.heap.size + 1, 0, none⟩ = some (.slice none 0 0) := HI5.out.res.cell 0
                  have z1 : w5.drew.cell? ⟨w.heap.size + 1, 1, none⟩ = some (.slice none 0 0) := HI5.out.res.cell 1
                  have z2 : w5.drew.cell? ⟨w.heap.size + 1, 2, none⟩ = some (.slice none 0 0) := HI5.out.res.cell 2
                  have z3 : w5.drew.cell? ⟨w.heap.size + 1, 3, none⟩ = some (.slice none 0 0) := HI5.out.res.cell 3
                  have s0 := setCell_self z0
                  have s1 := setCell_self z1
                  have s2 := setCell_self z2
                  have s3 := setCell_self z3
                  have f0 : w5.drew.frozen? ⟨w.heap.size + 1, 0, none⟩ = false := HI5.out.res.frozen 0
                  have f1 : w5.drew.frozen? ⟨w.heap.size + 1, 1, none⟩ = false := HI5.out.res.frozen 1
                  have f2 : w5.drew.frozen? ⟨w.heap.size + 1, 2, none⟩ = false := HI5.out.res.frozen 2
                  have f3 : w5.drew.frozen? ⟨w.heap.size + 1, 3, none⟩ = false := HI5.out.res.frozen 3
                  have kc2 : w5.cell? ⟨w.heap.size, 2, none⟩ = some (.slice x.procs.p x.procs.l.length x.procs.cap) := HI5.out.box.cell 2
                  rw [hp] at kc2
                  have kd2 : w5.drew.cell? ⟨w.heap.size, 2, none⟩ = some (.slice (some ⟨b, o, none⟩) x.procs.l.length x.procs.cap) := kc2
                  have dd1 : w5.drew.cell? ⟨b, o + k * 6 + 1, none⟩ = some (.int .i64 q.pos) := d1
                  go_wp2_with fail
                  go_region_held3 (fun w' => w'.cell? ⟨w.heap.size, 2, none⟩ = some (.slice (some ⟨b, o, none⟩) x.procs.l.length x.procs.cap) ∧ w'.cell? ⟨b, o + k * 6 + 1, none⟩ = some (.int .i64 q.pos)) (exact ⟨kd2, dd1⟩) (fail)
                  all_goals
                    go_wp2_with fail
                    exact bodyPost_ret (results9_run (w := w5.drew) rfl rfl rfl HI5.out.res) rfl (RbPost.zero HE.out (by decide) (below_drew HI5.out.below))
              · have hjk' : j = k := by omega
                subst hjk'
                have HAE : Hid (addE 16 (pNames (x.procs.l.take j)) q.name = 0) := Lib.hid (addE_new (by rw [HHL.out]; exact hlt) (by rw [HPT.out]; exact HN.out))
                have HST2 : Hid (procsGo (sNames x.structs.l) [] x.procs.l = if (declsGo (sNames x.structs.l) [] (frameOf q)).2 = 0 then procsGo (sNames x.structs.l) (pNames (x.procs.l.take j) ++ [q.name]) (x.procs.l.drop (j + 1)) else declsGo (sNames x.structs.l) [] (frameOf q)) := Lib.hid (by rw [HST.out, if_pos HAE.out])
                have HIW : Hid (∀ w', Below wr.heap.size wr w' → RbInv x w w') := Lib.hid (fun w' hb => HI.out.keep hb)
                have HFL : Hid ((frameOf q).length ≤ 2097152) := Lib.hid (by have := (HATQ.out wr HI.out).2.1.1; have := (HATQ.out wr HI.out).2.2.1.1; simp [frameOf]; omega)
                have HPL : Hid (q.params.l.length ≤ 1048576) := Lib.hid (HATQ.out wr HI.out).2.1.1
                have HOK : Hid (∀ d ∈ frameOf q, dcOk d) := Lib.hid (pcs_frame (HATQ.out wr HI.out).2)
                have HSS : Hid (∀ w', Below wr.heap.size wr w' → w'.cell? ⟨w.heap.size, 0, none⟩ = some (.slice x.structs.p x.structs.l.length x.structs.cap) ∧ w'.cell? ⟨w.heap.size, 1, none⟩ = some (.slice x.globals.p x.globals.l.length x.globals.cap) ∧ w'.cell? ⟨w.heap.size, 2, none⟩ = some (.slice (some ⟨b, o, none⟩) x.procs.l.length x.procs.cap) ∧ w'.cell? ⟨b, o + j * 6 + 3, none⟩ = some (.slice q.params.p q.params.l.length q.params.cap) ∧ w'.cell? ⟨b, o + j * 6 + 4, none⟩ = some (.slice q.locals_.p q.locals_.l.length q.locals_.cap)) := Lib.hid (fun w' hb => by
                  have hi := HIW.out w' hb
                  refine ⟨hi.box.cell 0, hi.box.cell 1, (hi.box.cell 2).trans (by rw [← hp]; rfl), cell_at (HATQ.out w' hi).1 3 _ rfl, cell_at (HATQ.out w' hi).1 4 _ rfl⟩)
                have HBD : Hid (Below wr.heap.size wr wr.drew) := Lib.hid (below_drew (Below.refl _ _))
                have HBR : Hid (Below wr.heap.size wr wr) := Lib.hid (Below.refl _ _)
                have HB1 : Hid (Below wr.heap.size wr (wr.alloc (.cells #[] 46)).drew) := Lib.hid (below_drew (HBR.out.alloc HBR.out.size _))
                have HO1 : Hid ((wr.alloc (.cells #[] 46)).drew.ownsRow wr.heap.size 46 3 (.slice (some ⟨wr.heap.size, 0, none⟩) 0 0) ([] : List Dc).length (dcells [])) := Lib.hid (World.ownsRow_made wr #[] 0 (Nat.le_refl _) (Nat.zero_le _) rfl).drew
                have HP1 : Hid (Lay 3 Dc.cells dcR (wr.alloc (.cells #[] 46)).drew q.params.p q.params.l) := Lib.hid (HATQ.out _ (HIW.out _ HB1.out)).2.1
                have HHP := Lib.hid hp
                clear hp
                go_wp2_with fail
                clear kc0 kc1 kc2
                go_region_held3 (fun w' => w'.cell? ⟨w.heap.size, 0, none⟩ = some (.slice x.structs.p x.structs.l.length x.structs.cap) ∧ w'.cell? ⟨w.heap.size, 1, none⟩ = some (.slice x.globals.p x.globals.l.length x.globals.cap) ∧ w'.cell? ⟨w.heap.size, 2, none⟩ = some (.slice (some ⟨b, o, none⟩) x.procs.l.length x.procs.cap) ∧ w'.cell? ⟨b, o + j * 6 + 3, none⟩ = some (.slice q.params.p q.params.l.length q.params.cap) ∧ w'.cell? ⟨b, o + j * 6 + 4, none⟩ = some (.slice q.locals_.p q.locals_.l.length q.locals_.cap)) (first | with_reducible exact HSS.out _ HB4.out | with_reducible exact HSS.out _ HB3.out | with_reducible exact HSS.out _ HB2.out | with_reducible exact HSS.out _ HB1.out | with_reducible exact HSS.out _ HBD.out | with_reducible exact HSS.out _ HBR.out | fail)
                  (first
                    | ((with_reducible show (if Region.wanted (Oper.mk (some 88) _ _ _ _ _) _ = true then _ else _)); refine step_append_dcs rfl (.tmp 81) (.tmp 87) rfl wr.heap.size _ [] q.params.l q.params.l rfl rfl HO1.out _ _ rfl HP1.out (by have := HPL.out; omega) HB1.out.size ?_; intro p2 c2 w2 hown2 hgrow2; have HO2 := Lib.hid hown2; have HB2 : Hid (Below wr.heap.size wr w2) := Lib.hid (HB1.out.grown hgrow2 HB1.out.size (fun k hk => (HO1.out.lt k hk).1)); have HP2 : Hid (Lay 3 Dc.cells dcR w2 q.locals_.p q.locals_.l) := Lib.hid (HATQ.out _ (HIW.out _ HB2.out)).2.2.1; clear hown2 hgrow2)
                    | ((with_reducible show (if Region.wanted (Oper.mk (some 95) _ _ _ _ _) _ = true then _ else _)); refine step_append_dcs rfl (.tmp 88) (.tmp 94) rfl wr.heap.size _ q.params.l q.locals_.l (frameOf q) rfl rfl HO2.out _ _ rfl HP2.out (by have := HFL.out; omega) HB2.out.size ?_; intro p3 c3 w3 hown3 hgrow3; have HO3 := Lib.hid hown3; have HB3 : Hid (Below wr.heap.size wr w3) := Lib.hid (HB2.out.grown hgrow3 HB2.out.size (fun k hk => (HO2.out.lt k hk).1)); have HC3 := Lib.hid (refDecls_any x (frameOf q) p3 c3 w3 (HZ.out _ (HIW.out _ HB3.out)) (lay_of_own HO3.out (by have := HFL.out; omega) HOK.out)); unfold pval at HC3; rw [HHP.out] at HC3; clear hown3 hgrow3)
                    | (go_at_call 24; refine (HC3.out).mono ?_; rintro en w4 ⟨rfl, hb4⟩; have HB4 : Hid (Below wr.heap.size wr w4) := Lib.hid (HB3.out.trans (hb4.mono HB3.out.size)); clear hb4))
                all_goals
                  have HI6 := Lib.hid (HIW.out w4 HB4.out)
                  by_cases e5 : (declsGo (sNames x.structs.l) [] (frameOf q)).2 = 0
                  · have HE5 := Lib.hid e5
                    rw [e5]
                    clear e5
                    go_wp2_with fail
                    go_roundw
                    case rel => exact ⟨j + 1, by go_num, by omega, Lib.hid (by rw [HST2.out, if_pos HE5.out, HNX.out]), HI6⟩
                    case measure => simp [intOf]; omega
                  · have HE : Hid (buildGo x = declsGo (sNames x.structs.l) [] (frameOf q)) := Lib.hid (by rw [HBG.out, HST2.out, if_neg e5])
                    have hne : ((declsGo (sNames x.structs.l) [] (frameOf q)).2 != 0) = true := by rw [bne_iff_ne]; exact e5
                    have HNE := Lib.hid e5
                    clear e5
                    go_wp2_with (first | ((with_reducible show wpList _ _ _ (Oper.mk none (Op.store 35 _ _) _ _ _ _ :: _) _ _); refine wpList_store_bk rfl 35 (.tmp 2) (.tmp 101) rfl (w.heap.size + 1) 35 _ #[.slice none 0 0, .slice none 0 0, .slice none 0 0, .slice none 0 0] rfl rfl HI6.out.res size35 rfl (by simp [Value.oneCell']) ?_; intro w7 hB hF; have HB := Lib.hid hB; have HF := Lib.hid hF; clear hB hF))
                    exact bodyPost_ret (results9_run rfl rfl rfl HB.out) rfl (RbPost.zero (by rw [HE.out]) HNE.out (HI6.out.below.trans ((Gr.of_grown HF.out).below (N := w.heap.size) HI6.out.below.size (fun k h => by injection h with h; omega))))
        · have HBZ : Hid (buildGo x = (0, 0)) := Lib.hid (by rw [HBG.out, HG.out, List.drop_eq_nil_of_le (by omega)]; rfl)
          have HFO : Hid (fieldsGo (sNames x.structs.l) [] (allPairs x) = (0, 0)) := Lib.hid (by
            have h1 := HE1.out
            unfold stGo at h1
            split at h1
            · rename_i h2
              unfold allPairs
              exact fieldsGo_zero _ _ _ h1
            · rename_i h2; exact absurd h1 h2)
          have HOK : Hid ((allPairs x).length ≤ 8 ∧ ∀ y ∈ allPairs x, isIn (sNames x.structs.l) y.2.type = true) := Lib.hid (by
            have := fieldsGo_ok (sNames x.structs.l) (allPairs x) [] (by decide) (by rw [HFO.out])
            exact ⟨by simpa using this.1, this.2⟩)
          have HTW : Hid (Bk (wr.alloc (.cells #[.slice x.structs.p x.structs.l.length x.structs.cap, .slice x.globals.p x.globals.l.length x.globals.cap, .slice x.procs.p x.procs.l.length x.procs.cap, .slice none 0 0] 35)) wr.heap.size 35 #[.slice x.structs.p x.structs.l.length x.structs.cap, .slice x.globals.p x.globals.l.length x.globals.cap, .slice x.procs.p x.procs.l.length x.procs.cap, .slice none 0 0]) := Lib.hid (heap_alloc_new _ _)
          have HIT : Hid (RbInv x w (wr.alloc (.cells #[.slice x.structs.p x.structs.l.length x.structs.cap, .slice x.globals.p x.globals.l.length x.globals.cap, .slice x.procs.p x.procs.l.length x.procs.cap, .slice none 0 0] 35))) := Lib.hid (HI.out.keep ((Below.refl _ _).alloc (Nat.le_refl _) _))
          clear HG
          go_wp2_with fail
          clear kc0 kc1 kc2 hk hkl
          obtain ⟨i0, hi0, hz0, hz1, hz2⟩ := info_parts zinfo42
          have HII := Lib.hid hi0; have HZ0 := Lib.hid hz0; have HZ1 := Lib.hid hz1; have HZ2 := Lib.hid hz2
          clear hi0 hz0 hz1 hz2
          obtain ⟨T, hT⟩ : ∃ T, T = wr.heap.size := ⟨_, rfl⟩
          have HTT : Hid (w.heap.size + 2 ≤ T) := Lib.hid (by have := HI.out.res.lt; omega)
          have HN0 : Hid (RbNum x w (wr.alloc (.cells #[.slice x.structs.p x.structs.l.length x.structs.cap, .slice x.globals.p x.globals.l.length x.globals.cap, .slice x.procs.p x.procs.l.length x.procs.cap, .slice none 0 0] 35)) T (.slice none 0 0) []) := Lib.hid ⟨HIT.out, by rw [hT]; exact HTW.out, by rw [hT]; simp, World.ownsRow_nil _ _ _ _⟩
          rw [← hT]
          generalize wr.alloc (.cells #[.slice x.structs.p x.structs.l.length x.structs.cap, .slice x.globals.p x.globals.l.length x.globals.cap, .slice x.procs.p x.procs.l.length x.procs.cap, .slice none 0 0] 35) = wA2 at HN0 ⊢
          clear hT HTW HIT
          have hsl : x.structs.l.length ≤ 1048576 := HX.out.1.1
          go_loopw [14] (fun i wr => ∃ (i' : Nat) (v : Value), i = .int .i64 i' ∧ i' ≤ x.structs.l.length ∧ Hid (RbNum x w wr T v (pairsFrom 0 (x.structs.l.take i')))) (fun i _ => x.structs.l.length - (intOf i).toNat)
          case atStart => exact ⟨0, _, rfl, Nat.zero_le _, HN0⟩
          case round =>
            clear HI
            obtain ⟨i, v, rfl, hi, HN⟩ := hrel
            have kc0 : wr.cell? ⟨w.heap.size, 0, none⟩ = some (.slice x.structs.p x.structs.l.length x.structs.cap) := HN.out.inv.box.cell 0
            by_cases hil : i < x.structs.l.length
            · have HLS : Hid (∀ wi, RbInv x w wi → Lay 3 Sr.cells srLies wi x.structs.p x.structs.l) := Lib.hid (fun wi hi => (HZ.out _ hi).1)
              obtain ⟨b, o, hp, hrg0, _⟩ := (HLS.out _ HN.out.inv).at_ hil
              have HRGS : Hid (∀ wi, RbInv x w wi → wi.rangeAt b (o + i * 3) (Sr.cells x.structs.l[i]) ∧ Lay 3 Dc.cells dcR wi x.structs.l[i].fields.p x.structs.l[i].fields.l) := Lib.hid (fun wi hi => by
                obtain ⟨b', o', he, h1, h2⟩ := (HLS.out wi hi).at_ hil
                rw [hp] at he
                injection he with he
                injection he with e1 e2
                subst e1; subst e2
                exact ⟨h1, h2.1⟩)
              have HD2 : Hid (∀ wi, RbInv x w wi → wi.cell? ⟨b, o + i * 3 + 2, none⟩ = some (.slice x.structs.l[i].fields.p x.structs.l[i].fields.l.length x.structs.l[i].fields.cap)) := Lib.hid (fun wi hi => cell_at (HRGS.out wi hi).1 2 _ rfl)
              have HML : Hid (∀ wi, RbInv x w wi → Lay 3 Dc.cells dcR wi x.structs.l[i].fields.p x.structs.l[i].fields.l) := Lib.hid (fun wi hi => (HRGS.out wi hi).2)
              have hml : x.structs.l[i].fields.l.length ≤ 1048576 := (HML.out _ HN.out.inv).1
              have HNX := Lib.hid (ahead_all hil)
              have HA0 : Hid (RbNum x w wr T v (ahead x.structs.l x.structs.l[i].fields.l i 0)) := Lib.hid (by rw [ahead_zero]; exact HN.out)
              have HPS : Hid (∀ k (hk : k < x.structs.l[i].fields.l.length), (i, x.structs.l[i].fields.l[k]) ∈ allPairs x ∧ (ahead x.structs.l x.structs.l[i].fields.l i (k + 1)).length ≤ 8) := Lib.hid (fun k hk => by
                have hsub : ∃ t, allPairs x = ahead x.structs.l x.structs.l[i].fields.l i (k + 1) ++ t := by
                  refine ⟨(x.structs.l[i].fields.l.drop (k + 1)).map (fun f => (i, f)) ++ pairsFrom (i + 1) (x.structs.l.drop (i + 1)), ?_⟩
                  unfold allPairs ahead
                  rw [pairsFrom_split x.structs.l 0 i, Nat.zero_add, pairsFrom_drop hil, List.append_assoc, ← List.append_assoc (List.map _ _), ← List.map_append, List.take_append_drop]
                obtain ⟨t, ht⟩ := hsub
                refine ⟨?_, ?_⟩
                · rw [ht, ahead_snoc hk]; simp
                · have := HOK.out.1; rw [ht, List.length_append] at this; omega)
              generalize x.structs.l[i].fields.l = m at HD2 HML hml HNX HA0 HPS
              generalize x.structs.l[i].fields.p = mp at HD2 HML
              generalize x.structs.l[i].fields.cap = mc at HD2
              have hi0 : (0 : Int) ≤ (i : Int) := Int.natCast_nonneg _
              have hi1 : (i : Int) < (x.structs.l.length : Int) := by omega
              have HHP := Lib.hid hp
              clear HRGS hp hrg0 HN
              go_wp2_with fail
              clear kc0
              obtain ⟨wq, rfl⟩ : ∃ wq : World, wq = wr := ⟨_, rfl⟩
              go_loopw [15] (fun kv wr => ∃ (k : Nat) (v : Value), kv = .int .i64 k ∧ k ≤ m.length ∧ Hid (RbNum x w wr T v (ahead x.structs.l m i k))) (fun k _ => m.length - (intOf k).toNat)
              case atStart => exact ⟨0, v, rfl, Nat.zero_le _, HA0⟩
              case round =>
                clear HA0
                obtain ⟨k, v, rfl, hk, HN⟩ := hrel
                have kc0 : wr.cell? ⟨w.heap.size, 0, none⟩ = some (.slice x.structs.p x.structs.l.length x.structs.cap) := HN.out.inv.box.cell 0
                rw [HHP.out] at kc0
                have d2 := HD2.out wr HN.out.inv
                by_cases hkl : k < m.length
                · obtain ⟨b2, o2, hp2, hrg, hdc⟩ := (HML.out wr HN.out.inv).at_ hkl
                  have hps := HPS.out k hkl
                  have HSN := Lib.hid (ahead_snoc (l := x.structs.l) (i := i) hkl)
                  have hin := HOK.out.2 _ hps.1
                  have h8 := hps.2
                  have e0 := cell_at hrg 0 _ rfl
                  rw [Nat.add_zero] at e0
                  subst hp2
                  have HTY : Hid (∀ wi, RbInv x w wi → wi.cell? ⟨b2, o2 + k * 3, none⟩ = some (.string m[k].type)) := Lib.hid (fun wi hi => by
                    obtain ⟨b', o', he, h1, _⟩ := (HML.out wi hi).at_ hkl
                    injection he with he
                    injection he with e1 e2
                    subst e1; subst e2
                    have := cell_at h1 0 _ rfl
                    rwa [Nat.add_zero] at this)
                  generalize m[k] = f at e0 hin HSN HTY
                  clear hrg hdc hps
                  have HIN := Lib.hid hin
                  have h9 : (ahead x.structs.l m i (k + 1)).length = (ahead x.structs.l m i k).length + 1 := by rw [HSN.out, List.length_append]; rfl
                  have hel : (ahead x.structs.l m i k).length ≤ 8 := by omega
                  have tq : wr.cell? ⟨T, 3, none⟩ = some v := HN.out.tb.cell 3
                  have HC := Lib.hid (refStruct_any x f.type wr.drew (HZ.out _ (HN.out.inv.keep (below_drew (Below.refl _ _)))))
                  unfold pval at HC
                  rw [HHP.out, sIx_in hin] at HC
                  have kc1 : wr.cell? ⟨w.heap.size, 1, none⟩ = some (.slice x.globals.p x.globals.l.length x.globals.cap) := HN.out.inv.box.cell 1
                  have kc2 : wr.cell? ⟨w.heap.size, 2, none⟩ = some (.slice x.procs.p x.procs.l.length x.procs.cap) := HN.out.inv.box.cell 2
                  have hk0 : (0 : Int) ≤ (k : Int) := Int.natCast_nonneg _
                  have hk1 : (k : Int) < (m.length : Int) := by omega
                  have HLE : Hid ((endsOf (sNames x.structs.l) (ahead x.structs.l m i k)).length ≤ 8) := Lib.hid (by rw [endsOf_len]; exact hel)
                  clear hin h8 hel h9
                  go_wp2_with fail
                  have HSV : Hid (∀ w', RbInv x w w' → w'.cell? ⟨w.heap.size, 0, none⟩ = some (.slice (some ⟨b, o, none⟩) x.structs.l.length x.structs.cap) ∧ w'.cell? ⟨w.heap.size, 1, none⟩ = some (.slice x.globals.p x.globals.l.length x.globals.cap) ∧ w'.cell? ⟨w.heap.size, 2, none⟩ = some (.slice x.procs.p x.procs.l.length x.procs.cap) ∧ w'.cell? ⟨b, o + i * 3 + 2, none⟩ = some (.slice (some ⟨b2, o2, none⟩) m.length mc) ∧ w'.cell? ⟨b2, o2 + k * 3, none⟩ = some (.string f.type)) := Lib.hid (fun w' hi =>
                    ⟨(hi.box.cell 0).trans (by rw [← HHP.out]; rfl), hi.box.cell 1, hi.box.cell 2, HD2.out w' hi, HTY.out w' hi⟩)
                  clear kc0 kc1 kc2 d2 e0
                  refine wp_region_noPanic ?_
                  refine wp_region_held_drew (S := fun w' => w'.cell? ⟨w.heap.size, 0, none⟩ = some (.slice (some ⟨b, o, none⟩) x.structs.l.length x.structs.cap) ∧ w'.cell? ⟨w.heap.size, 1, none⟩ = some (.slice x.globals.p x.globals.l.length x.globals.cap) ∧ w'.cell? ⟨w.heap.size, 2, none⟩ = some (.slice x.procs.p x.procs.l.length x.procs.cap) ∧ w'.cell? ⟨b, o + i * 3 + 2, none⟩ = some (.slice (some ⟨b2, o2, none⟩) m.length mc) ∧ w'.cell? ⟨b2, o2 + k * 3, none⟩ = some (.string f.type)) (by kernel_rfl) ?_ (fun hHeld => ?_)
                  · exact HSV.out _ (HN.out.inv.keep (below_drew (Below.refl _ _)))
                  refine wpAnyH_take (i := 0) (oi := ({ dst := some 124, op := Op.fieldAddr 35 (Operand.tmp 13) 1, type := 0, pos := "ref.go:109", after := #[], guard := none } : Oper)) (v := ?_) rfl (by kernel_rfl) (by kernel_rfl) (by kernel_rfl) (fun _ _ _ h => h) (Or.inl ⟨by rfl, ?_⟩) (by assumption) ?_
                  rotate_left
                  · (intro w hSw; (try dsimp only at hSw); go_simp; (try with_reducible rfl))
                  (try simp only [Act.put])
                  refine wpAnyH_take (i := 2) (oi := ({ dst := some 126, op := Op.move (Operand.tmp 14), type := 3, pos := "ref.go:109", after := #[], guard := none } : Oper)) (v := ?_) rfl (by kernel_rfl) (by kernel_rfl) (by kernel_rfl) (fun _ _ _ h => h) (Or.inl ⟨by rfl, ?_⟩) (by assumption) ?_
                  rotate_left
                  · (intro w hSw; (try dsimp only at hSw); go_simp; (try with_reducible rfl))
                  (try simp only [Act.put])
                  refine wpAnyH_take (i := 3) (oi := ({ dst := some 127, op := Op.load 26 (Operand.tmp 1), type := 26, pos := "ref.go:109", after := #[], guard := none } : Oper)) (v := ?_) rfl (by kernel_rfl) (by kernel_rfl) (by kernel_rfl) (fun _ _ _ h => h) (Or.inl ⟨by rfl, ?_⟩) (by assumption) ?_
                  rotate_left
                  · (intro w hSw; (try dsimp only at hSw); go_simp; (try with_reducible rfl))
                  (try simp only [Act.put])
                  refine wpAnyH_take (i := 4) (oi := ({ dst := some 128, op := Op.fieldAddr 26 (Operand.tmp 1) 0, type := 0, pos := "ref.go:109", after := #[], guard := none } : Oper)) (v := ?_) rfl (by kernel_rfl) (by kernel_rfl) (by kernel_rfl) (fun _ _ _ h => h) (Or.inl ⟨by rfl, ?_⟩) (by assumption) ?_
                  rotate_left
                  · (intro w hSw; (try dsimp only at hSw); go_simp; (try with_reducible rfl))
                  (try simp only [Act.put])
                  refine wpAnyH_take (i := 5) (oi := ({ dst := some 129, op := Op.load 22 (Operand.tmp 128), type := 22, pos := "ref.go:109", after := #[{ on := 4, ground := Ground.data }], guard := none } : Oper)) (v := ?_) rfl (by kernel_rfl) (by kernel_rfl) (by kernel_rfl) (fun _ _ _ h => h) (Or.inl ⟨by rfl, ?_⟩) (by assumption) ?_
                  rotate_left
                  · (intro w hSw; (try dsimp only at hSw); go_simp; (try with_reducible rfl))
                  (try simp only [Act.put])
                  refine wpAnyH_take (i := 6) (oi := ({ dst := some 130, op := Op.move (Operand.tmp 14), type := 3, pos := "ref.go:109", after := #[], guard := none } : Oper)) (v := ?_) rfl (by kernel_rfl) (by kernel_rfl) (by kernel_rfl) (fun _ _ _ h => h) (Or.inl ⟨by rfl, ?_⟩) (by assumption) ?_
                  rotate_left
                  · (intro w hSw; (try dsimp only at hSw); go_simp; (try with_reducible rfl))
                  (try simp only [Act.put])
                  refine wpAnyH_take (i := 7) (oi := ({ dst := some 131, op := Op.indexAddr 22 (Operand.tmp 129) (Operand.tmp 130), type := 0, pos := "ref.go:109", after := #[{ on := 5, ground := Ground.data }, { on := 6, ground := Ground.data }], guard := none } : Oper)) (v := ?_) rfl (by kernel_rfl) (by kernel_rfl) (by kernel_rfl) (fun _ _ _ h => h) (Or.inl ⟨by rfl, ?_⟩) (by assumption) ?_
                  rotate_left
                  · (intro w hSw; (try dsimp only at hSw); go_simp; (try with_reducible rfl))
                  (try simp only [Act.put])
                  refine wpAnyH_take (i := 8) (oi := ({ dst := some 132, op := Op.fieldAddr 44 (Operand.tmp 131) 2, type := 0, pos := "ref.go:109", after := #[{ on := 7, ground := Ground.data }], guard := none } : Oper)) (v := ?_) rfl (by kernel_rfl) (by kernel_rfl) (by kernel_rfl) (fun _ _ _ h => h) (Or.inl ⟨by rfl, ?_⟩) (by assumption) ?_
                  rotate_left
                  · (intro w hSw; (try dsimp only at hSw); go_simp; (try with_reducible rfl))
                  (try simp only [Act.put])
                  refine wpAnyH_take (i := 9) (oi := ({ dst := some 133, op := Op.load 23 (Operand.tmp 132), type := 23, pos := "ref.go:109", after := #[{ on := 8, ground := Ground.data }], guard := none } : Oper)) (v := ?_) rfl (by kernel_rfl) (by kernel_rfl) (by kernel_rfl) (fun _ _ _ h => h) (Or.inl ⟨by rfl, ?_⟩) (by assumption) ?_
                  rotate_left
                  · (intro w hSw; (try dsimp only at hSw); go_simp; (try with_reducible rfl))
                  (try simp only [Act.put])
                  refine wpAnyH_take (i := 10) (oi := ({ dst := some 134, op := Op.move (Operand.tmp 15), type := 3, pos := "ref.go:109", after := #[], guard := none } : Oper)) (v := ?_) rfl (by kernel_rfl) (by kernel_rfl) (by kernel_rfl) (fun _ _ _ h => h) (Or.inl ⟨by rfl, ?_⟩) (by assumption) ?_
                  rotate_left
                  · (intro w hSw; (try dsimp only at hSw); go_simp; (try with_reducible rfl))
                  (try simp only [Act.put])
                  refine wpAnyH_take (i := 11) (oi := ({ dst := some 135, op := Op.indexAddr 23 (Operand.tmp 133) (Operand.tmp 134), type := 0, pos := "ref.go:109", after := #[{ on := 9, ground := Ground.data }, { on := 10, ground := Ground.data }], guard := none } : Oper)) (v := ?_) rfl (by kernel_rfl) (by kernel_rfl) (by kernel_rfl) (fun _ _ _ h => h) (Or.inl ⟨by rfl, ?_⟩) (by assumption) ?_
                  rotate_left
                  · (intro w hSw; (try dsimp only at hSw); go_simp; (try with_reducible rfl))
                  (try simp only [Act.put])
                  refine wpAnyH_take (i := 12) (oi := ({ dst := some 136, op := Op.fieldAddr 46 (Operand.tmp 135) 0, type := 0, pos := "ref.go:109", after := #[{ on := 11, ground := Ground.data }], guard := none } : Oper)) (v := ?_) rfl (by kernel_rfl) (by kernel_rfl) (by kernel_rfl) (fun _ _ _ h => h) (Or.inl ⟨by rfl, ?_⟩) (by assumption) ?_
                  rotate_left
                  · (intro w hSw; (try dsimp only at hSw); go_simp; (try with_reducible rfl))
                  (try simp only [Act.put])
                  refine wpAnyH_take (i := 13) (oi := ({ dst := some 137, op := Op.load 9 (Operand.tmp 136), type := 9, pos := "ref.go:109", after := #[{ on := 12, ground := Ground.data }], guard := none } : Oper)) (v := ?_) rfl (by kernel_rfl) (by kernel_rfl) (by kernel_rfl) (fun _ _ _ h => h) (Or.inl ⟨by rfl, ?_⟩) (by assumption) ?_
                  rotate_left
                  · (intro w hSw; (try dsimp only at hSw); go_simp; (try with_reducible rfl))
                  (try simp only [Act.put])
                  refine wpAnyH_ready (rs := [1, 14]) (by kernel_rfl) (by simp) ?_
                  refine AllReadyH.cons (o := ({ dst := some 125, op := Op.load 33 (Operand.tmp 124), type := 33, pos := "ref.go:109", after := #[{ on := 0, ground := Ground.data }], guard := none } : Oper)) rfl (fun K hK => ?_) ?_
                  · go_simp
                    refine hK.out _ _ ?_ (fun hHeld => ?_)
                    · exact HSV.out _ (HN.out.inv.keep (below_drew (Below.refl _ _)))
                    clear hK K
                    (try simp only [Act.put])
                    refine wpAnyH_ready (rs := [14]) (by kernel_rfl) (by simp) ?_
                    refine AllReadyH.cons (o := ({ dst := some 138, op := Op.call { callee := Callee.value (Operand.func 25), args := #[Operand.tmp 127, Operand.tmp 137], argTypes := #[26, 9] }, type := 3, pos := "ref.go:109", after := #[{ on := 3, ground := Ground.data }, { on := 13, ground := Ground.data }], guard := none } : Oper)) rfl (fun K hK => ?_) ?_
                    · (go_simp; go_at_call 25; (with_reducible refine (HC.out).mono ?_); rintro en w7 ⟨rfl, hb7⟩; have HB7 : Hid (Below wr.heap.size wr w7) := Lib.hid ((below_drew (Below.refl _ _)).trans hb7); have HN7 : Hid (RbInv x w w7 ∧ Bk w7 T 35 #[.slice x.structs.p x.structs.l.length x.structs.cap, .slice x.globals.p x.globals.l.length x.globals.cap, .slice x.procs.p x.procs.l.length x.procs.cap, v] ∧ T + 1 ≤ w7.heap.size) := Lib.hid ⟨HN.out.inv.keep HB7.out, HN.out.tb.below HB7.out HN.out.tb.lt, Nat.le_trans HN.out.top HB7.out.size⟩; have HO7 : Hid (w7.ownsRow (T + 1) 42 2 v (endsOf (sNames x.structs.l) (ahead x.structs.l m i k)).length (pcells (endsOf (sNames x.structs.l) (ahead x.structs.l m i k)))) := Lib.hid (own_gr HN.out.own (Gr.of_below (S := fun _ => False) HB7.out) (fun _ _ _ h => h)); have tq7 : w7.cell? ⟨T, 3, none⟩ = some v := HN7.out.2.1.cell 3; have tq7a : ∀ ob, (w7.alloc ob).cell? ⟨T, 3, none⟩ = some v := (fun ob => (World.cell?_alloc_lt _ _ _ HN7.out.2.1.lt).trans tq7); have HR7 := Lib.hid HN7.out.1; have HRA := Lib.hid (fun ob => HN7.out.1.keep ((Below.refl _ _).alloc (Nat.le_refl _) ob)); clear hb7; (try dsimp only))
                      refine hK.out _ _ ?_ (fun hHeld => ?_)
                      · exact HSV.out _ HR7.out
                      clear hK K
                      (try simp only [Act.put])
                      refine wpAnyH_take (i := 15) (oi := ({ dst := some 139, op := Op.build 42 #[(0, Operand.tmp 126), (1, Operand.tmp 138)], type := 42, pos := "ref.go:109", after := #[{ on := 2, ground := Ground.data }, { on := 14, ground := Ground.data }], guard := none } : Oper)) (v := ?_) rfl (by kernel_rfl) (by kernel_rfl) (by kernel_rfl) (fun _ _ _ h => h) (Or.inl ⟨by rfl, ?_⟩) (by assumption) ?_
                      rotate_left
                      · (intro w hSw; (try dsimp only at hSw); go_simp; (try with_reducible rfl))
                      (try simp only [Act.put])
                      refine wpAnyH_ready (rs := [16]) (by kernel_rfl) (by simp) ?_
                      refine AllReadyH.cons (o := ({ dst := some 140, op := Op.buildSlice 33 1 #[(0, Operand.tmp 139)], type := 33, pos := "ref.go:109", after := #[{ on := 15, ground := Ground.data }], guard := none } : Oper)) rfl (fun K hK => ?_) ?_
                      · go_simp
                        refine hK.out _ _ ?_ (fun hHeld => ?_)
                        · exact HSV.out _ (HRA.out _)
                        clear hK K
                        (try simp only [Act.put])
                        refine wpAnyH_ready (rs := [17]) (by kernel_rfl) (by simp) ?_
                        refine AllReadyH.cons (o := ({ dst := some 141, op := Op.call { callee := Callee.builtin Builtin.append, args := #[Operand.tmp 125, Operand.tmp 140], argTypes := #[33, 33] }, type := 33, pos := "ref.go:109", after := #[{ on := 1, ground := Ground.data }, { on := 16, ground := Ground.data }, { on := 14, ground := Ground.chain }], guard := none } : Oper)) rfl (fun K hK => ?_) ?_
                        · (refine step_append_lies _ rfl (.tmp 125) (.tmp 140) 33 rfl (T + 1) 42 i0 (.agg #[.int .i64 0, .int .i64 0]) 2 16 Try.underlying33 HII.out HZ0.out HZ1.out HZ2.out rfl (by decide) _ (endsOf (sNames x.structs.l) (ahead x.structs.l m i k)).length _ rfl (HO7.out.alloc _) ⟨w7.heap.size, 0, none⟩ 1 1 [.int .i64 i, .int .i64 (numOf (sNames x.structs.l) f.type)] rfl rfl (World.news_of_block (heap_alloc_new _ _)) (two_one _ _) (by decide) (by have := HLE.out; unfold maxLen; omega) (by have := HLE.out; omega) (by have := HN7.out.2.2; simp; omega) _ rfl ?_; intro g cap w8 hown8 hgrow8 _ _; have HO8 := Lib.hid hown8; have HG8 : Hid (Gr w7 w8 (fun k => some k = v.ownBlock)) := Lib.hid (((Gr.refl w7 _).alloc _).grown hgrow8 (fun i _ e => e)); have HV8 : Hid (∀ g, v.ownBlock = some g → T + 1 ≤ g) := Lib.hid (fun g hg => (HO7.out.lt g hg).1); have HT8 : Hid (Bk w8 T 35 #[.slice x.structs.p x.structs.l.length x.structs.cap, .slice x.globals.p x.globals.l.length x.globals.cap, .slice x.procs.p x.procs.l.length x.procs.cap, v]) := Lib.hid (HG8.out.bk HN7.out.2.1 (fun e => by have := HV8.out _ e.symm; omega)); have HR8 : Hid (RbInv x w w8) := Lib.hid (HN7.out.1.gr HG8.out (fun k h => by have := HV8.out _ h.symm; have := HTT.out; omega)); have tq8 : w8.cell? ⟨T, 3, none⟩ = some v := HT8.out.cell 3; have fq8 : w8.frozen? ⟨T, 3, none⟩ = false := HT8.out.frozen 3; clear hown8 hgrow8)
                          refine hK.out _ _ ?_ (fun hHeld => ?_)
                          · exact HSV.out _ HR8.out
                          clear hK K
                          (try simp only [Act.put])
                          refine wpAnyH_take (i := 18) (oi := ({ dst := some 142, op := Op.fieldAddr 35 (Operand.tmp 13) 1, type := 0, pos := "ref.go:109", after := #[{ on := 0, ground := Ground.phase }, { on := 1, ground := Ground.phase }, { on := 2, ground := Ground.phase }, { on := 3, ground := Ground.phase }, { on := 4, ground := Ground.phase }, { on := 5, ground := Ground.phase }, { on := 6, ground := Ground.phase }, { on := 7, ground := Ground.phase }, { on := 8, ground := Ground.phase }, { on := 9, ground := Ground.phase }, { on := 10, ground := Ground.phase }, { on := 11, ground := Ground.phase }, { on := 12, ground := Ground.phase }, { on := 13, ground := Ground.phase }, { on := 14, ground := Ground.phase }, { on := 15, ground := Ground.phase }, { on := 16, ground := Ground.phase }, { on := 17, ground := Ground.phase }], guard := none } : Oper)) (v := ?_) rfl (by kernel_rfl) (by kernel_rfl) (by kernel_rfl) (fun _ _ _ h => h) (Or.inl ⟨by rfl, ?_⟩) (by assumption) ?_
                          rotate_left
                          · (intro w hSw; (try dsimp only at hSw); go_simp; (try with_reducible rfl))
                          (try simp only [Act.put])
                          refine wpAnyH_ready (rs := [19]) (by kernel_rfl) (by simp) ?_
                          refine AllReadyH.cons (o := ({ dst := none, op := Op.store 33 (Operand.tmp 142) (Operand.tmp 141), type := 0, pos := "ref.go:109", after := #[{ on := 18, ground := Ground.data }, { on := 17, ground := Ground.data }, { on := 17, ground := Ground.chain }, { on := 0, ground := Ground.phase }, { on := 1, ground := Ground.phase }, { on := 2, ground := Ground.phase }, { on := 3, ground := Ground.phase }, { on := 4, ground := Ground.phase }, { on := 5, ground := Ground.phase }, { on := 6, ground := Ground.phase }, { on := 7, ground := Ground.phase }, { on := 8, ground := Ground.phase }, { on := 9, ground := Ground.phase }, { on := 10, ground := Ground.phase }, { on := 11, ground := Ground.phase }, { on := 12, ground := Ground.phase }, { on := 13, ground := Ground.phase }, { on := 14, ground := Ground.phase }, { on := 15, ground := Ground.phase }, { on := 16, ground := Ground.phase }, { on := 17, ground := Ground.phase }], guard := none } : Oper)) rfl (fun K hK => ?_) ?_
                          · go_simp
                            refine hK.out _ _ ?_ (fun hHeld => ?_)
                            · exact HSV.out _ (HR8.out.gr ((Gr.refl w8 (fun k => k = T)).setCell (p := ⟨T, 3, none⟩) (fun _ => rfl) _) (fun k h => by have := HTT.out; omega))
                            clear hK K
                            (try simp only [Act.put])
                            refine wpAnyH_done (by kernel_rfl) ?_ _
                            refine NoPanic.normal ?_
                            have HG9 : Hid (Gr w7 (w8.setCell ⟨T, 3, none⟩ (.slice (some ⟨g, 0, none⟩) ((endsOf (sNames x.structs.l) (ahead x.structs.l m i k)).length + 1) cap)) (fun k => some k = v.ownBlock ∨ k = T)) := Lib.hid ((HG8.out.mono (fun _ _ h => .inl h)).setCell (fun _ => .inr rfl) _)
                            have HT9 : Hid (Bk (w8.setCell ⟨T, 3, none⟩ (.slice (some ⟨g, 0, none⟩) ((endsOf (sNames x.structs.l) (ahead x.structs.l m i k)).length + 1) cap)) T 35 #[.slice x.structs.p x.structs.l.length x.structs.cap, .slice x.globals.p x.globals.l.length x.globals.cap, .slice x.procs.p x.procs.l.length x.procs.cap, (.slice (some ⟨g, 0, none⟩) ((endsOf (sNames x.structs.l) (ahead x.structs.l m i k)).length + 1) cap)]) := Lib.hid (Bk.set_ HT8.out 3 _)
                            have HO9 : Hid ((w8.setCell ⟨T, 3, none⟩ (.slice (some ⟨g, 0, none⟩) ((endsOf (sNames x.structs.l) (ahead x.structs.l m i k)).length + 1) cap)).ownsRow (T + 1) 42 2 (.slice (some ⟨g, 0, none⟩) ((endsOf (sNames x.structs.l) (ahead x.structs.l m i k)).length + 1) cap) ((endsOf (sNames x.structs.l) (ahead x.structs.l m i k)).length + 1) (pcells (endsOf (sNames x.structs.l) (ahead x.structs.l m i k)) ++ [.int .i64 i, .int .i64 (numOf (sNames x.structs.l) f.type)])) := Lib.hid (own_setC HO8.out (by simp) _)
                            clear tq tq7 tq7a tq8 fq8 hHeld HRA
                            generalize w8.setCell ⟨T, 3, none⟩ (.slice (some ⟨g, 0, none⟩) ((endsOf (sNames x.structs.l) (ahead x.structs.l m i k)).length + 1) cap) = w9 at HG9 HT9 HO9 ⊢
                            have HNN : Hid (RbNum x w w9 T (.slice (some ⟨g, 0, none⟩) ((endsOf (sNames x.structs.l) (ahead x.structs.l m i k)).length + 1) cap) (ahead x.structs.l m i (k + 1))) := Lib.hid (by
                              refine ⟨HN7.out.1.gr HG9.out ?_, HT9.out, Nat.le_trans HN7.out.2.2 HG9.out.size, ?_⟩
                              · rintro k (h | h)
                                · have := HV8.out _ h.symm; have := HTT.out; omega
                                · have := HTT.out; omega
                              · rw [HSN.out, endsOf_snoc, pcells_snoc, List.length_append]
                                exact HO9.out)
                            go_wp2_with fail
                            go_roundw
                            case rel => exact ⟨k + 1, _, by go_num, by omega, HNN⟩
                            case measure => simp [intOf]; omega
                          exact AllReadyH.nil
                        exact AllReadyH.nil
                      exact AllReadyH.nil
                    exact AllReadyH.nil
                  refine AllReadyH.cons (o := ({ dst := some 138, op := Op.call { callee := Callee.value (Operand.func 25), args := #[Operand.tmp 127, Operand.tmp 137], argTypes := #[26, 9] }, type := 3, pos := "ref.go:109", after := #[{ on := 3, ground := Ground.data }, { on := 13, ground := Ground.data }], guard := none } : Oper)) rfl (fun K hK => ?_) ?_
                  · (go_simp; go_at_call 25; (with_reducible refine (HC.out).mono ?_); rintro en w7 ⟨rfl, hb7⟩; have HB7 : Hid (Below wr.heap.size wr w7) := Lib.hid ((below_drew (Below.refl _ _)).trans hb7); have HN7 : Hid (RbInv x w w7 ∧ Bk w7 T 35 #[.slice x.structs.p x.structs.l.length x.structs.cap, .slice x.globals.p x.globals.l.length x.globals.cap, .slice x.procs.p x.procs.l.length x.procs.cap, v] ∧ T + 1 ≤ w7.heap.size) := Lib.hid ⟨HN.out.inv.keep HB7.out, HN.out.tb.below HB7.out HN.out.tb.lt, Nat.le_trans HN.out.top HB7.out.size⟩; have HO7 : Hid (w7.ownsRow (T + 1) 42 2 v (endsOf (sNames x.structs.l) (ahead x.structs.l m i k)).length (pcells (endsOf (sNames x.structs.l) (ahead x.structs.l m i k)))) := Lib.hid (own_gr HN.out.own (Gr.of_below (S := fun _ => False) HB7.out) (fun _ _ _ h => h)); have tq7 : w7.cell? ⟨T, 3, none⟩ = some v := HN7.out.2.1.cell 3; have tq7a : ∀ ob, (w7.alloc ob).cell? ⟨T, 3, none⟩ = some v := (fun ob => (World.cell?_alloc_lt _ _ _ HN7.out.2.1.lt).trans tq7); have HR7 := Lib.hid HN7.out.1; have HRA := Lib.hid (fun ob => HN7.out.1.keep ((Below.refl _ _).alloc (Nat.le_refl _) ob)); clear hb7; (try dsimp only))
                    refine hK.out _ _ ?_ (fun hHeld => ?_)
                    · exact HSV.out _ HR7.out
                    clear hK K
                    (try simp only [Act.put])
                    refine wpAnyH_take (i := 15) (oi := ({ dst := some 139, op := Op.build 42 #[(0, Operand.tmp 126), (1, Operand.tmp 138)], type := 42, pos := "ref.go:109", after := #[{ on := 2, ground := Ground.data }, { on := 14, ground := Ground.data }], guard := none } : Oper)) (v := ?_) rfl (by kernel_rfl) (by kernel_rfl) (by kernel_rfl) (fun _ _ _ h => h) (Or.inl ⟨by rfl, ?_⟩) (by assumption) ?_
                    rotate_left
                    · (intro w hSw; (try dsimp only at hSw); go_simp; (try with_reducible rfl))
                    (try simp only [Act.put])
                    refine wpAnyH_ready (rs := [1, 16]) (by kernel_rfl) (by simp) ?_
                    refine AllReadyH.cons (o := ({ dst := some 125, op := Op.load 33 (Operand.tmp 124), type := 33, pos := "ref.go:109", after := #[{ on := 0, ground := Ground.data }], guard := none } : Oper)) rfl (fun K hK => ?_) ?_
                    · go_simp
                      refine hK.out _ _ ?_ (fun hHeld => ?_)
                      · exact HSV.out _ HR7.out
                      clear hK K
                      (try simp only [Act.put])
                      refine wpAnyH_ready (rs := [16]) (by kernel_rfl) (by simp) ?_
                      refine AllReadyH.cons (o := ({ dst := some 140, op := Op.buildSlice 33 1 #[(0, Operand.tmp 139)], type := 33, pos := "ref.go:109", after := #[{ on := 15, ground := Ground.data }], guard := none } : Oper)) rfl (fun K hK => ?_) ?_
                      · go_simp
                        refine hK.out _ _ ?_ (fun hHeld => ?_)
                        · exact HSV.out _ (HRA.out _)
                        clear hK K
                        (try simp only [Act.put])
                        refine wpAnyH_ready (rs := [17]) (by kernel_rfl) (by simp) ?_
                        refine AllReadyH.cons (o := ({ dst := some 141, op := Op.call { callee := Callee.builtin Builtin.append, args := #[Operand.tmp 125, Operand.tmp 140], argTypes := #[33, 33] }, type := 33, pos := "ref.go:109", after := #[{ on := 1, ground := Ground.data }, { on := 16, ground := Ground.data }, { on := 14, ground := Ground.chain }], guard := none } : Oper)) rfl (fun K hK => ?_) ?_
                        · (refine step_append_lies _ rfl (.tmp 125) (.tmp 140) 33 rfl (T + 1) 42 i0 (.agg #[.int .i64 0, .int .i64 0]) 2 16 Try.underlying33 HII.out HZ0.out HZ1.out HZ2.out rfl (by decide) _ (endsOf (sNames x.structs.l) (ahead x.structs.l m i k)).length _ rfl (HO7.out.alloc _) ⟨w7.heap.size, 0, none⟩ 1 1 [.int .i64 i, .int .i64 (numOf (sNames x.structs.l) f.type)] rfl rfl (World.news_of_block (heap_alloc_new _ _)) (two_one _ _) (by decide) (by have := HLE.out; unfold maxLen; omega) (by have := HLE.out; omega) (by have := HN7.out.2.2; simp; omega) _ rfl ?_; intro g cap w8 hown8 hgrow8 _ _; have HO8 := Lib.hid hown8; have HG8 : Hid (Gr w7 w8 (fun k => some k = v.ownBlock)) := Lib.hid (((Gr.refl w7 _).alloc _).grown hgrow8 (fun i _ e => e)); have HV8 : Hid (∀ g, v.ownBlock = some g → T + 1 ≤ g) := Lib.hid (fun g hg => (HO7.out.lt g hg).1); have HT8 : Hid (Bk w8 T 35 #[.slice x.structs.p x.structs.l.length x.structs.cap, .slice x.globals.p x.globals.l.length x.globals.cap, .slice x.procs.p x.procs.l.length x.procs.cap, v]) := Lib.hid (HG8.out.bk HN7.out.2.1 (fun e => by have := HV8.out _ e.symm; omega)); have HR8 : Hid (RbInv x w w8) := Lib.hid (HN7.out.1.gr HG8.out (fun k h => by have := HV8.out _ h.symm; have := HTT.out; omega)); have tq8 : w8.cell? ⟨T, 3, none⟩ = some v := HT8.out.cell 3; have fq8 : w8.frozen? ⟨T, 3, none⟩ = false := HT8.out.frozen 3; clear hown8 hgrow8)
                          refine hK.out _ _ ?_ (fun hHeld => ?_)
                          · exact HSV.out _ HR8.out
                          clear hK K
                          (try simp only [Act.put])
                          refine wpAnyH_take (i := 18) (oi := ({ dst := some 142, op := Op.fieldAddr 35 (Operand.tmp 13) 1, type := 0, pos := "ref.go:109", after := #[{ on := 0, ground := Ground.phase }, { on := 1, ground := Ground.phase }, { on := 2, ground := Ground.phase }, { on := 3, ground := Ground.phase }, { on := 4, ground := Ground.phase }, { on := 5, ground := Ground.phase }, { on := 6, ground := Ground.phase }, { on := 7, ground := Ground.phase }, { on := 8, ground := Ground.phase }, { on := 9, ground := Ground.phase }, { on := 10, ground := Ground.phase }, { on := 11, ground := Ground.phase }, { on := 12, ground := Ground.phase }, { on := 13, ground := Ground.phase }, { on := 14, ground := Ground.phase }, { on := 15, ground := Ground.phase }, { on := 16, ground := Ground.phase }, { on := 17, ground := Ground.phase }], guard := none } : Oper)) (v := ?_) rfl (by kernel_rfl) (by kernel_rfl) (by kernel_rfl) (fun _ _ _ h => h) (Or.inl ⟨by rfl, ?_⟩) (by assumption) ?_
                          rotate_left
                          · (intro w hSw; (try dsimp only at hSw); go_simp; (try with_reducible rfl))
                          (try simp only [Act.put])
                          refine wpAnyH_ready (rs := [19]) (by kernel_rfl) (by simp) ?_
                          refine AllReadyH.cons (o := ({ dst := none, op := Op.store 33 (Operand.tmp 142) (Operand.tmp 141), type := 0, pos := "ref.go:109", after := #[{ on := 18, ground := Ground.data }, { on := 17, ground := Ground.data }, { on := 17, ground := Ground.chain }, { on := 0, ground := Ground.phase }, { on := 1, ground := Ground.phase }, { on := 2, ground := Ground.phase }, { on := 3, ground := Ground.phase }, { on := 4, ground := Ground.phase }, { on := 5, ground := Ground.phase }, { on := 6, ground := Ground.phase }, { on := 7, ground := Ground.phase }, { on := 8, ground := Ground.phase }, { on := 9, ground := Ground.phase }, { on := 10, ground := Ground.phase }, { on := 11, ground := Ground.phase }, { on := 12, ground := Ground.phase }, { on := 13, ground := Ground.phase }, { on := 14, ground := Ground.phase }, { on := 15, ground := Ground.phase }, { on := 16, ground := Ground.phase }, { on := 17, ground := Ground.phase }], guard := none } : Oper)) rfl (fun K hK => ?_) ?_
                          · go_simp
                            refine hK.out _ _ ?_ (fun hHeld => ?_)
                            · exact HSV.out _ (HR8.out.gr ((Gr.refl w8 (fun k => k = T)).setCell (p := ⟨T, 3, none⟩) (fun _ => rfl) _) (fun k h => by have := HTT.out; omega))
                            clear hK K
                            (try simp only [Act.put])
                            refine wpAnyH_done (by kernel_rfl) ?_ _
                            refine NoPanic.normal ?_
                            have HG9 : Hid (Gr w7 (w8.setCell ⟨T, 3, none⟩ (.slice (some ⟨g, 0, none⟩) ((endsOf (sNames x.structs.l) (ahead x.structs.l m i k)).length + 1) cap)) (fun k => some k = v.ownBlock ∨ k = T)) := Lib.hid ((HG8.out.mono (fun _ _ h => .inl h)).setCell (fun _ => .inr rfl) _)
                            have HT9 : Hid (Bk (w8.setCell ⟨T, 3, none⟩ (.slice (some ⟨g, 0, none⟩) ((endsOf (sNames x.structs.l) (ahead x.structs.l m i k)).length + 1) cap)) T 35 #[.slice x.structs.p x.structs.l.length x.structs.cap, .slice x.globals.p x.globals.l.length x.globals.cap, .slice x.procs.p x.procs.l.length x.procs.cap, (.slice (some ⟨g, 0, none⟩) ((endsOf (sNames x.structs.l) (ahead x.structs.l m i k)).length + 1) cap)]) := Lib.hid (Bk.set_ HT8.out 3 _)
                            have HO9 : Hid ((w8.setCell ⟨T, 3, none⟩ (.slice (some ⟨g, 0, none⟩) ((endsOf (sNames x.structs.l) (ahead x.structs.l m i k)).length + 1) cap)).ownsRow (T + 1) 42 2 (.slice (some ⟨g, 0, none⟩) ((endsOf (sNames x.structs.l) (ahead x.structs.l m i k)).length + 1) cap) ((endsOf (sNames x.structs.l) (ahead x.structs.l m i k)).length + 1) (pcells (endsOf (sNames x.structs.l) (ahead x.structs.l m i k)) ++ [.int .i64 i, .int .i64 (numOf (sNames x.structs.l) f.type)])) := Lib.hid (own_setC HO8.out (by simp) _)
                            clear tq tq7 tq7a tq8 fq8 hHeld HRA
                            generalize w8.setCell ⟨T, 3, none⟩ (.slice (some ⟨g, 0, none⟩) ((endsOf (sNames x.structs.l) (ahead x.structs.l m i k)).length + 1) cap) = w9 at HG9 HT9 HO9 ⊢
                            have HNN : Hid (RbNum x w w9 T (.slice (some ⟨g, 0, none⟩) ((endsOf (sNames x.structs.l) (ahead x.structs.l m i k)).length + 1) cap) (ahead x.structs.l m i (k + 1))) := Lib.hid (by
                              refine ⟨HN7.out.1.gr HG9.out ?_, HT9.out, Nat.le_trans HN7.out.2.2 HG9.out.size, ?_⟩
                              · rintro k (h | h)
                                · have := HV8.out _ h.symm; have := HTT.out; omega
                                · have := HTT.out; omega
                              · rw [HSN.out, endsOf_snoc, pcells_snoc, List.length_append]
                                exact HO9.out)
                            go_wp2_with fail
                            go_roundw
                            case rel => exact ⟨k + 1, _, by go_num, by omega, HNN⟩
                            case measure => simp [intOf]; omega
                          exact AllReadyH.nil
                        exact AllReadyH.nil
                      exact AllReadyH.nil
                    refine AllReadyH.cons (o := ({ dst := some 140, op := Op.buildSlice 33 1 #[(0, Operand.tmp 139)], type := 33, pos := "ref.go:109", after := #[{ on := 15, ground := Ground.data }], guard := none } : Oper)) rfl (fun K hK => ?_) ?_
                    · go_simp
                      refine hK.out _ _ ?_ (fun hHeld => ?_)
                      · exact HSV.out _ (HRA.out _)
                      clear hK K
                      (try simp only [Act.put])
                      refine wpAnyH_ready (rs := [1]) (by kernel_rfl) (by simp) ?_
                      refine AllReadyH.cons (o := ({ dst := some 125, op := Op.load 33 (Operand.tmp 124), type := 33, pos := "ref.go:109", after := #[{ on := 0, ground := Ground.data }], guard := none } : Oper)) rfl (fun K hK => ?_) ?_
                      · go_simp
                        refine hK.out _ _ ?_ (fun hHeld => ?_)
                        · exact HSV.out _ (HRA.out _)
                        clear hK K
                        (try simp only [Act.put])
                        refine wpAnyH_ready (rs := [17]) (by kernel_rfl) (by simp) ?_
                        refine AllReadyH.cons (o := ({ dst := some 141, op := Op.call { callee := Callee.builtin Builtin.append, args := #[Operand.tmp 125, Operand.tmp 140], argTypes := #[33, 33] }, type := 33, pos := "ref.go:109", after := #[{ on := 1, ground := Ground.data }, { on := 16, ground := Ground.data }, { on := 14, ground := Ground.chain }], guard := none } : Oper)) rfl (fun K hK => ?_) ?_
                        · (refine step_append_lies _ rfl (.tmp 125) (.tmp 140) 33 rfl (T + 1) 42 i0 (.agg #[.int .i64 0, .int .i64 0]) 2 16 Try.underlying33 HII.out HZ0.out HZ1.out HZ2.out rfl (by decide) _ (endsOf (sNames x.structs.l) (ahead x.structs.l m i k)).length _ rfl (HO7.out.alloc _) ⟨w7.heap.size, 0, none⟩ 1 1 [.int .i64 i, .int .i64 (numOf (sNames x.structs.l) f.type)] rfl rfl (World.news_of_block (heap_alloc_new _ _)) (two_one _ _) (by decide) (by have := HLE.out; unfold maxLen; omega) (by have := HLE.out; omega) (by have := HN7.out.2.2; simp; omega) _ rfl ?_; intro g cap w8 hown8 hgrow8 _ _; have HO8 := Lib.hid hown8; have HG8 : Hid (Gr w7 w8 (fun k => some k = v.ownBlock)) := Lib.hid (((Gr.refl w7 _).alloc _).grown hgrow8 (fun i _ e => e)); have HV8 : Hid (∀ g, v.ownBlock = some g → T + 1 ≤ g) := Lib.hid (fun g hg => (HO7.out.lt g hg).1); have HT8 : Hid (Bk w8 T 35 #[.slice x.structs.p x.structs.l.length x.structs.cap, .slice x.globals.p x.globals.l.length x.globals.cap, .slice x.procs.p x.procs.l.length x.procs.cap, v]) := Lib.hid (HG8.out.bk HN7.out.2.1 (fun e => by have := HV8.out _ e.symm; omega)); have HR8 : Hid (RbInv x w w8) := Lib.hid (HN7.out.1.gr HG8.out (fun k h => by have := HV8.out _ h.symm; have := HTT.out; omega)); have tq8 : w8.cell? ⟨T, 3, none⟩ = some v := HT8.out.cell 3; have fq8 : w8.frozen? ⟨T, 3, none⟩ = false := HT8.out.frozen 3; clear hown8 hgrow8)
                          refine hK.out _ _ ?_ (fun hHeld => ?_)
                          · exact HSV.out _ HR8.out
                          clear hK K
                          (try simp only [Act.put])
                          refine wpAnyH_take (i := 18) (oi := ({ dst := some 142, op := Op.fieldAddr 35 (Operand.tmp 13) 1, type := 0, pos := "ref.go:109", after := #[{ on := 0, ground := Ground.phase }, { on := 1, ground := Ground.phase }, { on := 2, ground := Ground.phase }, { on := 3, ground := Ground.phase }, { on := 4, ground := Ground.phase }, { on := 5, ground := Ground.phase }, { on := 6, ground := Ground.phase }, { on := 7, ground := Ground.phase }, { on := 8, ground := Ground.phase }, { on := 9, ground := Ground.phase }, { on := 10, ground := Ground.phase }, { on := 11, ground := Ground.phase }, { on := 12, ground := Ground.phase }, { on := 13, ground := Ground.phase }, { on := 14, ground := Ground.phase }, { on := 15, ground := Ground.phase }, { on := 16, ground := Ground.phase }, { on := 17, ground := Ground.phase }], guard := none } : Oper)) (v := ?_) rfl (by kernel_rfl) (by kernel_rfl) (by kernel_rfl) (fun _ _ _ h => h) (Or.inl ⟨by rfl, ?_⟩) (by assumption) ?_
                          rotate_left
                          · (intro w hSw; (try dsimp only at hSw); go_simp; (try with_reducible rfl))
                          (try simp only [Act.put])
                          refine wpAnyH_ready (rs := [19]) (by kernel_rfl) (by simp) ?_
                          refine AllReadyH.cons (o := ({ dst := none, op := Op.store 33 (Operand.tmp 142) (Operand.tmp 141), type := 0, pos := "ref.go:109", after := #[{ on := 18, ground := Ground.data }, { on := 17, ground := Ground.data }, { on := 17, ground := Ground.chain }, { on := 0, ground := Ground.phase }, { on := 1, ground := Ground.phase }, { on := 2, ground := Ground.phase }, { on := 3, ground := Ground.phase }, { on := 4, ground := Ground.phase }, { on := 5, ground := Ground.phase }, { on := 6, ground := Ground.phase }, { on := 7, ground := Ground.phase }, { on := 8, ground := Ground.phase }, { on := 9, ground := Ground.phase }, { on := 10, ground := Ground.phase }, { on := 11, ground := Ground.phase }, { on := 12, ground := Ground.phase }, { on := 13, ground := Ground.phase }, { on := 14, ground := Ground.phase }, { on := 15, ground := Ground.phase }, { on := 16, ground := Ground.phase }, { on := 17, ground := Ground.phase }], guard := none } : Oper)) rfl (fun K hK => ?_) ?_
                          · go_simp
                            refine hK.out _ _ ?_ (fun hHeld => ?_)
                            · exact HSV.out _ (HR8.out.gr ((Gr.refl w8 (fun k => k = T)).setCell (p := ⟨T, 3, none⟩) (fun _ => rfl) _) (fun k h => by have := HTT.out; omega))
                            clear hK K
                            (try simp only [Act.put])
                            refine wpAnyH_done (by kernel_rfl) ?_ _
                            refine NoPanic.normal ?_
                            have HG9 : Hid (Gr w7 (w8.setCell ⟨T, 3, none⟩ (.slice (some ⟨g, 0, none⟩) ((endsOf (sNames x.structs.l) (ahead x.structs.l m i k)).length + 1) cap)) (fun k => some k = v.ownBlock ∨ k = T)) := Lib.hid ((HG8.out.mono (fun _ _ h => .inl h)).setCell (fun _ => .inr rfl) _)
                            have HT9 : Hid (Bk (w8.setCell ⟨T, 3, none⟩ (.slice (some ⟨g, 0, none⟩) ((endsOf (sNames x.structs.l) (ahead x.structs.l m i k)).length + 1) cap)) T 35 #[.slice x.structs.p x.structs.l.length x.structs.cap, .slice x.globals.p x.globals.l.length x.globals.cap, .slice x.procs.p x.procs.l.length x.procs.cap, (.slice (some ⟨g, 0, none⟩) ((endsOf (sNames x.structs.l) (ahead x.structs.l m i k)).length + 1) cap)]) := Lib.hid (Bk.set_ HT8.out 3 _)
                            have HO9 : Hid ((w8.setCell ⟨T, 3, none⟩ (.slice (some ⟨g, 0, none⟩) ((endsOf (sNames x.structs.l) (ahead x.structs.l m i k)).length + 1) cap)).ownsRow (T + 1) 42 2 (.slice (some ⟨g, 0, none⟩) ((endsOf (sNames x.structs.l) (ahead x.structs.l m i k)).length + 1) cap) ((endsOf (sNames x.structs.l) (ahead x.structs.l m i k)).length + 1) (pcells (endsOf (sNames x.structs.l) (ahead x.structs.l m i k)) ++ [.int .i64 i, .int .i64 (numOf (sNames x.structs.l) f.type)])) := Lib.hid (own_setC HO8.out (by simp) _)
                            clear tq tq7 tq7a tq8 fq8 hHeld HRA
                            generalize w8.setCell ⟨T, 3, none⟩ (.slice (some ⟨g, 0, none⟩) ((endsOf (sNames x.structs.l) (ahead x.structs.l m i k)).length + 1) cap) = w9 at HG9 HT9 HO9 ⊢
                            have HNN : Hid (RbNum x w w9 T (.slice (some ⟨g, 0, none⟩) ((endsOf (sNames x.structs.l) (ahead x.structs.l m i k)).length + 1) cap) (ahead x.structs.l m i (k + 1))) := Lib.hid (by
                              refine ⟨HN7.out.1.gr HG9.out ?_, HT9.out, Nat.le_trans HN7.out.2.2 HG9.out.size, ?_⟩
                              · rintro k (h | h)
                                · have := HV8.out _ h.symm; have := HTT.out; omega
                                · have := HTT.out; omega
                              · rw [HSN.out, endsOf_snoc, pcells_snoc, List.length_append]
                                exact HO9.out)
                            go_wp2_with fail
                            go_roundw
                            case rel => exact ⟨k + 1, _, by go_num, by omega, HNN⟩
                            case measure => simp [intOf]; omega
                          exact AllReadyH.nil
                        exact AllReadyH.nil
                      exact AllReadyH.nil
                    exact AllReadyH.nil
                  exact AllReadyH.nil
                · have hkm : k = m.length := by omega
                  subst hkm
                  have HN2 : Hid (RbNum x w wr T v (pairsFrom 0 (x.structs.l.take (i + 1)))) := Lib.hid (by have := HN.out; rwa [HNX.out] at this)
                  go_wp2_with fail
                  go_roundw
                  case rel => exact ⟨i + 1, v, by go_num, by omega, HN2⟩
                  case measure => simp [intOf]; omega
            · have HNF : Hid (RbNum x w wr T v (allPairs x)) := Lib.hid (by have := HN.out; rwa [List.take_of_length_le (by omega)] at this)
              clear HN
              go_wp2_with (first | ((with_reducible show wpList _ _ _ (Oper.mk (some 143) _ _ _ _ _ :: _) _ _); refine wpList_load_arr rfl 35 (.tmp 13) rfl T 0 rfl #[.slice x.structs.p x.structs.l.length x.structs.cap, .slice x.globals.p x.globals.l.length x.globals.cap, .slice x.procs.p x.procs.l.length x.procs.cap, v] _ HNF.out.tb.range Try.underlying35 rfl size35 ?_) | ((with_reducible show wpList _ _ _ (Oper.mk none (Op.store 35 _ _) _ _ _ _ :: _) _ _); refine wpList_store_bk rfl 35 (.tmp 2) (.tmp 143) rfl (w.heap.size + 1) 35 _ #[.slice x.structs.p x.structs.l.length x.structs.cap, .slice x.globals.p x.globals.l.length x.globals.cap, .slice x.procs.p x.procs.l.length x.procs.cap, v] rfl rfl HNF.out.inv.res size35 rfl (by simp [slice_one, own_one HNF.out.own]) ?_; intro w7 hB hF; have HB := Lib.hid hB; have HF := Lib.hid hF; clear hB hF))
              exact bodyPost_ret (results9_run rfl rfl rfl HB.out) rfl ⟨_, by rw [HBZ.out]; rfl, HNF.out.inv.below.trans ((Gr.of_grown HF.out).below (N := w.heap.size) HNF.out.inv.below.size (fun k h => by injection h with h; omega)), ⟨rfl, by simp [slice_one, own_one HNF.out.own]⟩, fun _ => ⟨v, T + 1, rfl, own_gr HNF.out.own (Gr.of_grown HF.out) (fun i hi _ h => by injection h with h; have := HTT.out; omega), HOK.out.1⟩⟩
    · have HBG : Hid (buildGo x = declsGo (sNames x.structs.l) [] x.globals.l) := Lib.hid (by rw [buildGo_st, if_pos HE1.out, if_neg e2])
      have hne : ((declsGo (sNames x.structs.l) [] x.globals.l).2 != 0) = true := by rw [bne_iff_ne]; exact e2
      have HNE := Lib.hid e2
      clear e2
      go_wp2_with (first | ((with_reducible show wpList _ _ _ (Oper.mk none (Op.store 35 _ _) _ _ _ _ :: _) _ _); refine wpList_store_bk rfl 35 (.tmp 2) (.tmp 35) rfl (w.heap.size + 1) 35 _ #[.slice none 0 0, .slice none 0 0, .slice none 0 0, .slice none 0 0] rfl rfl HI2.out.res size35 rfl (by simp [Value.oneCell']) ?_; intro w3 hB hF; have HB := Lib.hid hB; have HF := Lib.hid hF; clear hB hF))
      exact bodyPost_ret (results9_run rfl rfl rfl HB.out) rfl (RbPost.zero (by rw [HBG.out]) HNE.out (HI2.out.below.trans ((Gr.of_grown HF.out).below (N := w.heap.size) HI2.out.below.size (fun k h => by injection h with h; omega))))
  · have HBG : Hid (buildGo x = stGo x.structs.l) := Lib.hid (by rw [buildGo_st, if_neg e1])
    have hne : ((stGo x.structs.l).2 != 0) = true := by rw [bne_iff_ne]; exact e1
    have HNE := Lib.hid e1
    clear e1
    go_wp2_with (first | ((with_reducible show wpList _ _ _ (Oper.mk none (Op.store 35 _ _) _ _ _ _ :: _) _ _); refine wpList_store_bk rfl 35 (.tmp 2) (.tmp 23) rfl (w.heap.size + 1) 35 _ #[.slice none 0 0, .slice none 0 0, .slice none 0 0, .slice none 0 0] rfl rfl HI1.out.res size35 rfl (by simp [Value.oneCell']) ?_; intro w3 hB hF; have HB := Lib.hid hB; have HF := Lib.hid hF; clear hB hF))
    exact bodyPost_ret (results9_run rfl rfl rfl HB.out) rfl (RbPost.zero (by rw [HBG.out]) HNE.out (HI1.out.below.trans ((Gr.of_grown HF.out).below (N := w.heap.size) HI1.out.below.size (fun k h => by injection h with h; omega))))
end Go.Proofs.Ytjkgkigfmcegoaa
