/-
  DERIVED. The walk of the document's Build: words.
-/
import Derived.Test.YtjkgkigfmcegoaaRs
namespace Go.Proofs.Ytjkgkigfmcegoaa
open Go.RowKit Go.Sort Go.Maps

theorem Bk.setRow {w : World} {R : Nat} {t : TypeId} {old : Array Value} (h : Bk w R t old) (cs : Array Value) : Bk (w.setRow R cs) R t cs ∧ w.grownBy (w.setRow R cs) (some R) := by
  refine ⟨?_, ⟨rfl, rfl, rfl, by simp [World.setRow], fun i _ hne => ?_⟩⟩
  · unfold Bk at h ⊢
    simp [World.setRow, Array.getElem?_modify, h]
  · have hne' : ¬ R = i := fun e => hne (by rw [e])
    simp [World.setRow, Array.getElem?_modify, hne']
/-- A struct's value goes into a block of its size. -/
theorem wpList_store_bk {P : Program} {ops : Array Oper} {rest : List Oper} {op : Oper} {a : Act} {w : World} {Q : Exit → Act → World → Prop} (hgd : op.guard = none) (ty : TypeId) (x y : Operand) (ho : op.op = .store ty x y)
    (R : Nat) (t : TypeId) (old cs : Array Value) (hx : a.eval x = .pointer (some ⟨R, 0, none⟩)) (hy : a.eval y = .agg cs) (hk : Bk w R t old) (hi : (P.info? ty).map (·.size) = some cs.size) (hc : old.size = cs.size) (h1 : cs.all (·.oneCell') = true)
    (h : ∀ w', Bk w' R t cs → w.grownBy w' (some R) → wpList P ops Q rest (a.put op.dst undef) w') : wpList P ops Q (op :: rest) a w :=
  wpList_plain hgd fun _ hK => by
    unfold Oper.wp execOp
    simp only [ho, hx, hy, Instr.storeAt, Instr.sureAddr, Sem.run_bind, Sem.run_pure, Result.andThen_ok, run_storeVar_row w R t ty old cs hk hi hc h1]
    exact hK _ _ (h _ (hk.setRow cs).1 (hk.setRow cs).2)
theorem Bk.range {w : World} {g : Nat} {t : TypeId} {cs : Array Value} (h : Bk w g t cs) : w.rangeAt g 0 cs.toList := fun j v hv => by
  rw [Nat.zero_add, h.cell]; simpa using hv
theorem setCell_self {w : World} {b o : Nat} {v : Value} (h : w.cell? ⟨b, o, none⟩ = some v) : w.setCell ⟨b, o, none⟩ v = w := by
  have hlt := World.block_lt_of_cell? w _ h
  unfold World.cell? at h
  cases hb : w.heap[b]? with
  | none => rw [hb] at h; simp at h
  | some ob =>
    rw [hb] at h
    cases ob with
    | cells cs t fr =>
      simp only [] at h
      have hset : cs.setIfInBounds o v = cs := by
        apply Array.ext_getElem?
        intro i
        rw [Array.getElem?_setIfInBounds]
        split
        · rename_i he
          subst he
          rw [if_pos (Array.getElem?_eq_some_iff.1 h).1]; exact h.symm
        · rfl
      have hh : (w.setCell ⟨b, o, none⟩ v).heap = w.heap := by
        apply Array.ext_getElem?
        intro i
        by_cases hi : b = i
        · subst hi
          simp [World.setCell, Array.getElem?_modify, hb, hset]
        · exact Below.heap_setCell w ⟨b, o, none⟩ v i (fun e => hi e.symm)
      have he : w.setCell ⟨b, o, none⟩ v = { w with heap := (w.setCell ⟨b, o, none⟩ v).heap } := rfl
      rw [he, hh]
    | _ => simp at h

theorem zinfo46 : (Try.prog.info? 46).map (fun i => (i.zero, i.size, i.bytes)) = some (some (.agg #[.string ByteArray.empty, .string ByteArray.empty, .int .i64 0]), 3, 40) := by kernel_rfl
def dcells (l : List Dc) : List Value := l.flatMap Dc.cells
theorem dcells_len (l : List Dc) : (dcells l).length = l.length * 3 := by
  induction l with
  | nil => rfl
  | cons a r ih => simp [dcells] at ih ⊢; omega
theorem dcells_one (l : List Dc) : ∀ u ∈ dcells l, u.oneCell' = true := by
  intro u hu
  simp only [dcells, List.mem_flatMap] at hu
  obtain ⟨d, _, hd⟩ := hu
  simp at hd
  rcases hd with rfl | rfl | rfl <;> rfl
theorem dcells_at : ∀ (l : List Dc) (j : Nat) (u : Value), (dcells l)[j]? = some u → ∃ k i d, j = k * 3 + i ∧ l[k]? = some d ∧ (Dc.cells d)[i]? = some u
  | [], j, u, h => by simp [dcells] at h
  | a :: r, j, u, h => by
    have he : dcells (a :: r) = Dc.cells a ++ dcells r := rfl
    rw [he] at h
    by_cases hj : j < 3
    · rw [List.getElem?_append_left (by simpa using hj)] at h
      exact ⟨0, j, a, by omega, rfl, h⟩
    · rw [List.getElem?_append_right (by simp; omega)] at h
      obtain ⟨k, i, d, h1, h2, h3⟩ := dcells_at r (j - 3) u (by simpa using h)
      exact ⟨k + 1, i, d, by omega, by simpa using h2, h3⟩
theorem dcells_get {l : List Dc} {k : Nat} {d : Dc} (h : l[k]? = some d) {i : Nat} {u : Value} (hu : (Dc.cells d)[i]? = some u) : (dcells l)[k * 3 + i]? = some u := by
  induction l generalizing k with
  | nil => simp at h
  | cons a r ih =>
    have he : dcells (a :: r) = Dc.cells a ++ dcells r := rfl
    rw [he]
    have hi : i < 3 := by have := (List.getElem?_eq_some_iff.1 hu).1; simpa using this
    cases k with
    | zero =>
      simp at h
      subst h
      rw [Nat.zero_mul, Nat.zero_add, List.getElem?_append_left (by simpa using hi)]
      exact hu
    | succ k =>
      rw [List.getElem?_append_right (by simp; omega)]
      have := ih (k := k) (by simpa using h)
      rw [show (k + 1) * 3 + i - (Dc.cells a).length = k * 3 + i by simp; omega]
      exact this
theorem lay_cells {w : World} {p : Option Addr} {l : List Dc} (h : Lay 3 Dc.cells dcR w p l) {ad : Addr} (hp : p = some ad) : ∀ j u, (dcells l)[j]? = some u → w.cell? (ad.add j) = some u := by
  intro j u hu
  obtain ⟨k, i, d, rfl, hd, hi⟩ := dcells_at l j u hu
  obtain ⟨b, o, h1, h2, _⟩ := h.at_ (List.getElem?_eq_some_iff.1 hd).1
  rw [h1] at hp
  injection hp with hp
  subst hp
  have := h2 i u (by rw [(List.getElem?_eq_some_iff.1 hd).2]; exact hi)
  rw [Addr.add_mid]
  rwa [Nat.add_assoc] at this
theorem run_append_none (w : World) (base : Nat) (ty : TypeId) (i0 : TypeInfo) (hi : Try.prog.info? 46 = some i0) (v : Value) (n c : Nat) (xs : List Value) (hown : w.ownsRow base 46 3 v n xs) :
    (Builtin.append_ #[23, 23] ty #[v, .slice none 0 c]).run Try.prog w = .ok v w := by
  rcases hown.2 with ⟨rfl, rfl⟩ | ⟨g, cap, cur, rfl, _, _, hnc, _⟩
  · simp [Builtin.append_, run_underlying Try.underlying23, sizeOf, typeInfo, hi, Builtin.lenOf, Builtin.firstCells]
  · simp [Builtin.append_, run_underlying Try.underlying23, sizeOf, typeInfo, hi, Builtin.lenOf, Builtin.firstCells, hnc, storeCells]
/-- 'append(a, b...)' of declarations, the first of the call's own. -/
theorem run_append_dcs (w : World) (base : Nat) (ty : TypeId) (v : Value) (L l : List Dc) (hown : w.ownsRow base 46 3 v L.length (dcells L)) (p : Option Addr) (c : Nat) (hlay : Lay 3 Dc.cells dcR w p l)
    (hb : (L ++ l).length ≤ 4194304) (hbase : base ≤ w.heap.size) :
    ∃ v' w', (Builtin.append_ #[23, 23] ty #[v, .slice p l.length c]).run Try.prog w = .ok v' w' ∧ w'.ownsRow base 46 3 v' (L ++ l).length (dcells (L ++ l)) ∧ w.grownBy w' v.ownBlock := by
  obtain ⟨i0, hi0, hz0, hz1, hz2⟩ := info_parts zinfo46
  rw [List.length_append] at hb
  cases p with
  | none =>
    have hl : l = [] := by
      rcases hlay.2 with h | ⟨b, o, h, _⟩
      · exact h
      · cases h
    subst hl
    refine ⟨v, w, run_append_none w base ty i0 hi0 v L.length c _ hown, ?_, grown_refl _ _⟩
    rw [List.append_nil]; exact hown
  | some ad =>
    obtain ⟨v', w', h1, h2, h3, _⟩ := run_append_own w base 23 ty 46 i0 _ 3 40 Try.underlying23 hi0 hz0 hz1 hz2 rfl (by decide) v L.length (dcells L) hown ad l.length c (dcells l) (dcells_len l) (lay_cells hlay rfl) (dcells_one l) (by unfold maxLen; omega) (by omega) hbase
    refine ⟨v', w', h1, ?_, h3⟩
    rw [List.length_append, show dcells (L ++ l) = dcells L ++ dcells l by simp [dcells]]
    exact h2
theorem step_append_dcs {w : World} {ops : Array Oper} {o : Oper} {a : Act} {K : Act → World → Prop} {Q : Exit → Act → World → Prop} {E : Prop} (hgd : o.guard = none) (s x : Operand)
    (ho : o.op = .call { callee := .builtin .append, args := #[s, x], argTypes := #[23, 23] })
    (base : Nat) (v : Value) (L l L' : List Dc) (hLL : L ++ l = L') (hs : a.eval s = v) (hown : w.ownsRow base 46 3 v L.length (dcells L)) (p : Option Addr) (c : Nat) (hx : a.eval x = .slice p l.length c) (hlay : Lay 3 Dc.cells dcR w p l)
    (hb : L'.length ≤ 4194304) (hbase : base ≤ w.heap.size)
    (h : ∀ p' c' w', w'.ownsRow base 46 3 (.slice p' L'.length c') L'.length (dcells L') → w.grownBy w' v.ownBlock → K (a.put o.dst (.slice p' L'.length c')) w') :
    if Region.wanted o (yielded ops a.tmps) = true then Oper.wp Try.prog o a w K Q else E := by
  have hw : Region.wanted o (yielded ops a.tmps) = true := by simp [Region.wanted, hgd]
  rw [if_pos hw]
  subst hLL
  obtain ⟨v', w', hr, h2, h3⟩ := run_append_dcs w base o.type v L l hown p c hlay hb hbase
  obtain ⟨p', c', rfl⟩ : ∃ a c, v' = .slice a (L ++ l).length c := by
    rcases h2.2 with ⟨rfl, h0⟩ | ⟨g, cap, _, rfl, _⟩
    · exact ⟨none, 0, by rw [h0]⟩
    · exact ⟨_, _, rfl⟩
  unfold Oper.wp execOp
  simp only [ho, resolve, invoke, builtin, Sem.run_bind, Sem.run_pure, Result.andThen_ok, List.map_toArray, List.map_cons, List.map_nil, hs, hx, hr]
  exact h _ _ _ h2 h3
theorem lay_of_own {w : World} {base : Nat} {p : Option Addr} {c : Nat} {L : List Dc} (h : w.ownsRow base 46 3 (.slice p L.length c) L.length (dcells L)) (hb : L.length ≤ 4194304) (hok : ∀ d ∈ L, dcOk d) : Lay2 3 Dc.cells dcR w p L := by
  refine ⟨hb, ?_⟩
  have h0 := h
  rcases h.2 with ⟨_, h1⟩ | ⟨g, cap, cur, he, _⟩
  · exact .inl (List.length_eq_zero_iff.1 h1)
  · injection he with hp _ _
    subst hp
    refine .inr ⟨g, 0, rfl, fun k d hd => ⟨fun i u hu => ?_, hok d (List.mem_of_getElem? hd)⟩⟩
    have := h0.cells (g := g) rfl (k * 3 + i) u (dcells_get hd hu)
    rw [Addr.add_mid] at this
    rwa [Nat.add_assoc]
/-- Build, as the document says it. -/
theorem buildGo_st (x : Pg) : buildGo x = if (stGo x.structs.l).2 = 0 then (if (declsGo (sNames x.structs.l) [] x.globals.l).2 = 0 then procsGo (sNames x.structs.l) [] x.procs.l else declsGo (sNames x.structs.l) [] x.globals.l) else stGo x.structs.l := by
  unfold buildGo stGo
  by_cases h1 : (structsGo [] x.structs.l).2 = 0
  · rw [if_pos h1, if_pos h1]
  · rw [if_neg h1, if_neg h1, if_neg h1]
theorem results9_run {tmps : Array Value} {w : World} {R : Nat} {c0 c1 c2 c3 a e : Value} (h2 : tmps.getD 2 undef = .pointer (some ⟨R, 0, none⟩)) (h3 : tmps.getD 3 undef = a) (h4 : tmps.getD 4 undef = e)
    (k0 : Bk w R 35 #[c0, c1, c2, c3]) : (results Try.f9 tmps).run Try.prog w = .ok (.tuple #[.agg #[c0, c1, c2, c3], a, e]) w := by
  have e0 : w.cell? ⟨R, 0, none⟩ = some c0 := k0.cell 0
  have e1 : w.cell? ⟨R, 1, none⟩ = some c1 := k0.cell 1
  have e2 : w.cell? ⟨R, 2, none⟩ = some c2 := k0.cell 2
  have e3 : w.cell? ⟨R, 3, none⟩ = some c3 := k0.cell 3
  rw [Array.getD_eq_getD_getElem?] at h2 h3 h4
  simp [results, Try.results9, go_sem, h2, h3, h4, e0, e1, e2, e3]
theorem size35 : (Try.prog.info? 35).map (·.size) = some 4 := by kernel_rfl
theorem size26 : (Try.prog.info? 26).map (·.size) = some 3 := by kernel_rfl
end Go.Proofs.Ytjkgkigfmcegoaa
