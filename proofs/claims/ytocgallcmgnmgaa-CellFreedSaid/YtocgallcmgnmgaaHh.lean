/-
  DERIVED. The walk of held.lead.
-/
import Derived.Test.YtocgallcmgnmgaaHg
namespace Go.Proofs.Ytocgallcmgnmgaa
open Go.RowKit Go.Maps

theorem set_same {cur : Array Value} {i : Nat} {v : Value} (h : cur[i]? = some v) : cur.setIfInBounds i v = cur := by
  refine Array.ext_getElem? fun j => ?_
  rw [Array.getElem?_setIfInBounds]
  by_cases e : i = j
  · subst e; rw [if_pos rfl, if_pos (Array.getElem?_eq_some_iff.1 h).1, h]
  · rw [if_neg e]
theorem put_far {F g cap : Nat} {w w' : World} {R : Nat → Prop} {cur : Array Value} {fm : Nat → Option Nat} {cs : List PC} {i k : Nat} {x : PC} {t : Int} {far' : Option Nat}
    (ha : (HeldK F).At w R g cap cur fm cs) (hl : ∀ k, R k → k < w.heap.size) (hi : cs[i]? = some x) (h8 : 8 ≤ k) (hk : k < F) (ht : okI t)
    (hg : Gr w w' (fun b => b = g ∨ fm i = some b)) (hrow : Bk w' g 59 (cur.setIfInBounds (i * 11 + 10) (.map far'))) (hf : FarIs w' F (putTo x k t) far') (hb : far' = fm i ∨ far' = some w.heap.size) (hlt : ∀ m, far' = some m → m < w'.heap.size) :
    RowPost F w R g cap (cs.set i (putTo x k t)) (.returned (.tuple #[])) w' := by
  have hsub := ha.sub i x hi
  have hil : i < cs.length := (List.getElem?_eq_some_iff.1 hi).1
  have hxl : x.to.length = F := hsub.1
  have hlR : ∀ k, k < w.heap.size → (k = g ∨ fm i = some k) → R k := fun k _ h => by
    rcases h with h | h
    · subst h; exact ha.mine
    · exact (ha.own i k hil h).1
  have hst : Stp w w' R (fun b => R b ∨ far' = some b) := ⟨hg.mono hlR, fun _ h => .inl h, fun b h => by
    rcases h with h | h
    · exact .inl h
    · rcases hb with e | e
      · exact .inl (ha.own i b hil (e.symm.trans h)).1
      · rw [e] at h; injection h with h; exact .inr (by omega), fun b h => by
    rcases h with h | h
    · exact Nat.lt_of_lt_of_le (hl b h) hg.size
    · exact hlt b h⟩
  refine ⟨rfl, _, _, _, ha.put (b' := far') hi hg hrow (by simp) (fun j hj => ?_) (fun j hj => ?_) ⟨(putTo_len x k t).trans hxl, ok_put hsub.2.1 ht (by omega), hf⟩ (fun k _ hk => hk) (fun _ h => .inl h) hl ?_, hst⟩
  · show (cur.setIfInBounds (i * 11 + 10) _)[i * 11 + j]? = (hcells (putTo x k t) far')[j]?
    have hcs : i * 11 + 11 ≤ cur.size := by
      have h1 := ha.size; have h2 := ha.room
      have : (HeldK F).sz = 11 := rfl
      rw [this] at h1
      have := Nat.mul_le_mul_right 11 (Nat.le_trans (Nat.succ_le_of_lt hil) h2)
      omega
    have hj11 : j < 11 := hj
    rw [hcells_far x (fm i) far' k t h8 (by omega) j hj, Array.getElem?_setIfInBounds]
    by_cases e : j = 10
    · subst e
      rw [if_pos rfl, if_pos (by omega), if_pos rfl]
    · rw [if_neg (by omega), if_neg e]
      exact ha.cell i x hi j hj
  · have hj' : j < i * 11 ∨ i * 11 + 11 ≤ j := hj
    rw [Array.getElem?_setIfInBounds, if_neg (by omega)]
  · rcases hb with e | e
    · exact .inl e
    · exact .inr (.inr ⟨w.heap.size, e, Nat.le_refl _, .inr e⟩)

set_option maxHeartbeats 3200000 in
set_option maxRecDepth 100000 in
theorem lead_any (F g cap i k : Nat) (t : Int) (w : World) (R : Nat → Prop) (cur : Array Value) (fm : Nat → Option Nat) (cs : List PC) (x : PC)
    (ha : (HeldK F).At w R g cap cur fm cs) (hl : ∀ k, R k → k < w.heap.size) (hi : cs[i]? = some x) (hk : k < F) (hF : F ≤ 2000000) (ht : okI t) :
    Calls Try.prog 19 #[.pointer (some ⟨g, i * 11, none⟩), .int .i64 k, .int .i64 t] w (RowPost F w R g cap (cs.set i (putTo x k t))) := by
  have hsub := ha.sub i x hi
  have hil : i < cs.length := (List.getElem?_eq_some_iff.1 hi).1
  have hkey := key3 (okI_nat (k := k) (by omega))
  have hval : plainElem (H := Unit) Try.prog 3 (.int .i64 t) = some (.lit (.int .i64 t), []) := plainElem_int Try.underlying3 ht
  by_cases h8 : k < 8
  · have HE := Lib.hid (put_near ha hl hi h8 hk ht)
    have e1 : w.cell? ⟨g, i * 11 + 2 + k, none⟩ = some (.int .i64 (x.at k)) := by rw [Nat.add_assoc]; exact ha.at_cell hi (2 + k) _ (hcells_near x _ k h8)
    have f1 : w.frozen? ⟨g, i * 11 + 2 + k, none⟩ = false := ha.row.frozen _
    have hk8 : decide ((k : Int) < 8) = true := decide_eq_true (by omega)
    have hk8n : (k : Int) < 8 := by omega
    clear ha hl hi hsub hkey hval
    go_enter Try.func19, Try.ntmps19
    go_wp2_with fail
    go_end0
    exact HE.out
  · have hk8 : decide ((k : Int) < 8) = false := decide_eq_false (by omega)
    have e0 : w.cell? ⟨g, i * 11 + 10, none⟩ = some (.map (fm i)) := ha.at_cell hi 10 _ rfl
    have f0 : w.frozen? ⟨g, i * 11 + 10, none⟩ = false := ha.row.frozen _
    have hs0 : cur.setIfInBounds (i * 11 + 10) (.map (fm i)) = cur := set_same (by have := ha.cell i x hi 10 (show 10 < 11 by decide); exact this)
    have hxl : x.to.length = F := hsub.1
    have hfar := hsub.2.2
    have hrow : Bk w g 59 cur := ha.row
    cases hfi : fm i with
    | none =>
      rw [hfi] at e0 hfar hs0
      have hnn := fun (w : World) => run_eql_map_nil (P := Try.prog) w 57 3 3 none Try.underlying57
      by_cases ht0 : t = 0
      · have HE : Hid (RowPost F w R g cap (cs.set i (putTo x k t)) (.returned (.tuple #[])) w) := Lib.hid (put_far (far' := none) ha hl hi (by omega) hk ht (Gr.refl _ _) (by rw [hs0]; exact hrow)
          (fun j hj => by rw [at_set _ _ _ _ (by omega)]; split; · exact ht0
                          · exact hfar j hj) (.inl hfi.symm) (by intro m e; cases e))
        have hdr : ∀ ty, (Builtin.delete_ #[57, 3] ty #[.map none, .int .i64 k]).run Try.prog w = .ok (.tuple #[]) w := fun ty => drop_nil law3 Try.underlying57 hkey ty
        subst ht0
        clear ha hl hi hsub hkey hval hfar hs0 hfi hrow
        go_enter Try.func19, Try.ntmps19
        go_wp2_with fail
        go_end0
        exact HE.out
      · have hown0 := World.ownsMap_made (H := Unit) w Try.prog 3 (plainElem Try.prog 3)
        obtain ⟨w2, hup, hown2, hg2⟩ := hown0.update law3 Try.underlying57 (by decide) hkey hval
        have hfd : FarD F (putTo x k t) ((DataW.map []).put (IK k) (.lit (.int .i64 t))) := far_put ⟨_, rfl⟩ (far_none hfar) (by omega) hk hF hxl t
        have hown3 := owns_fit hown2 (far_size (hown2.entries law3) hfd)
        have hg0 : Gr w w2 (fun b => b = g ∨ fm i = some b) := ((Gr.refl w _).alloc _).grown hg2 (fun j hj e => by injection e with e; omega)
        have hrow2 : Bk w2 g 59 cur := (hg2.block g (by have := hrow.lt; simp; omega) (by have := hrow.lt; intro e; injection e with e; omega)).trans ((World.grownBy_alloc w (.map #[] 0) none).block g hrow.lt (by simp) |>.trans hrow)
        have f2 : w2.frozen? ⟨g, i * 11 + 10, none⟩ = false := hrow2.frozen _
        have e2 : w2.cell? ⟨g, i * 11 + 10, none⟩ = some (.map none) := by rw [hrow2.cell, ← hrow.cell]; exact e0
        have HE : Hid (RowPost F w R g cap (cs.set i (putTo x k t)) (.returned (.tuple #[])) (w2.setCell ⟨g, i * 11 + 10, none⟩ (.map (some w.heap.size)))) := Lib.hid (put_far (far' := some w.heap.size) ha hl hi (by omega) hk ht
          (hg0.setCell (fun _ => .inl rfl) _) (hrow2.set_ _ _) ⟨_, hown3.setCell (by have := hrow.lt; simp; omega) _, hfd⟩ (.inr rfl) (by intro m e; injection e with e; have := hg2.size; simp at this; simp [World.setCell]; omega))
        have ht1 : decide (t = 0) = false := decide_eq_false ht0
        have ht2 : (t == 0) = false := by simpa using ht0
        have HU : (Instr.mapUpdate 57 (.map (some w.heap.size)) (.int .i64 k) (.int .i64 t)).run Try.prog (w.alloc (.map #[] 0)) = .ok () w2 := hup
        have hmm := @run_makeMap Try.prog
        clear ha hl hi hsub hkey hval hfar hs0 hfi hrow hup hown0 hown2 hown3 hfd hg2 hg0 hrow2 ht0 ht1
        go_enter Try.func19, Try.ntmps19
        go_wp2_with fail
        go_end0
        exact HE.out
    | some m =>
      rw [hfi] at e0 hfar hs0
      obtain ⟨D, hown, hfd0⟩ := hfar
      have hmg : m ≠ g := (ha.own i m hil hfi).2
      have hnn := fun (w : World) => run_eql_map_nil (P := Try.prog) w 57 3 3 (some m) Try.underlying57
      by_cases ht0 : t = 0
      · have HE : ∀ w', w'.ownsMap Try.prog 3 (plainElem Try.prog 3) m F (D.del (IK k)) → w.mapTurned w' m → Hid (RowPost F w R g cap (cs.set i (putTo x k t)) (.returned (.tuple #[])) w') := fun w' ho hm =>
          Lib.hid (put_far (far' := some m) ha hl hi (by omega) hk ht ((Gr.of_grown hm.grown).mono (fun b _ e => .inr (by rw [hfi]; exact e.symm))) (by rw [hs0]; exact (hm.grown.block g hrow.lt (by intro e; injection e with e; exact hmg e.symm)).trans hrow)
            ⟨_, ho, by rw [ht0]; exact far_del hfd0 hk hxl⟩ (.inl hfi.symm) (by intro m' e; injection e with e; subst e; exact ho.lt))
        have HE' := Lib.hid HE
        have HO := Lib.hid hown
        have HK := Lib.hid hkey
        subst ht0
        clear ha hl hi hsub hkey hval hown hfd0 hs0 hfi hrow HE hmg
        go_enter Try.func19, Try.ntmps19
        go_wp2_with ((with_reducible show wpList _ _ _ (Oper.mk _ (Op.call _) _ _ _ _ :: _) _ _); refine wpList_delete_own _ rfl _ _ 57 3 rfl 3 law3 Try.underlying57 (plainElem Try.prog 3) m F D rfl HO.out _ (IK k) rfl HK.out ?_; intro w2 ho2 hm2; have HZ := HE'.out w2 ho2 hm2; clear ho2 hm2)
        go_end0
        exact HZ.out
      · have HE : ∀ w', w'.ownsMap Try.prog 3 (plainElem Try.prog 3) m (F + 1) (D.put (IK k) (.lit (.int .i64 t))) → w.grownBy w' (some m) → Hid (RowPost F w R g cap (cs.set i (putTo x k t)) (.returned (.tuple #[])) w') := fun w' ho hm => by
          have hfd := far_put (hown.isMap) hfd0 (by omega) hk hF hxl t
          exact Lib.hid (put_far (far' := some m) ha hl hi (by omega) hk ht ((Gr.of_grown hm).mono (fun b _ e => .inr (by rw [hfi]; exact e.symm))) (by rw [hs0]; exact (hm.block g hrow.lt (by intro e; injection e with e; exact hmg e.symm)).trans hrow)
            ⟨_, owns_fit ho (far_size (ho.entries law3) hfd), hfd⟩ (.inl hfi.symm) (by intro m' e; injection e with e; subst e; exact ho.lt))
        have HE' := Lib.hid HE
        have HO := Lib.hid hown
        have HK := Lib.hid hkey
        have HV := Lib.hid hval
        have hFm : F < maxLen := by unfold maxLen; omega
        have ht2 : (t == 0) = false := by simpa using ht0
        clear ha hl hi hsub hkey hval hown hfd0 hs0 hfi hrow HE hmg ht0
        go_enter Try.func19, Try.ntmps19
        go_wp2_with (at_mapUpdate; refine wpList_mapUpdate_own _ rfl _ _ _ 57 rfl 3 3 law3 Try.underlying57 (plainElem Try.prog 3) m F D rfl HO.out hFm _ _ (IK k) rfl rfl HK.out _ [] HV.out ?_; intro w2 ho2 hm2; have HZ := HE'.out w2 ho2 hm2; clear ho2 hm2)
        go_end0
        exact HZ.out
end Go.Proofs.Ytocgallcmgnmgaa
