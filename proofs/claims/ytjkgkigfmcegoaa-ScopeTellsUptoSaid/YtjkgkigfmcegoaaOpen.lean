/-
  DERIVED. How what is handed in reads: programs and statements as trees that lie in memory.
-/
import Derived.Test.YtjkgkigfmcegoaaDt
import Derived.Test.YtjkgkigfmcegoaaBulk
import Derived.SizedLaws
import Derived.ChangeArms
namespace Go.Proofs.Ytjkgkigfmcegoaa
open Go.RowKit Go.Sort

def dcOk (d : Dc) : Prop := d.type.size ≤ maxLen ∧ d.name.size ≤ maxLen
def declsLie (w : World) (s : Sl Dc) : Prop := slLies w 3 40 Dc.cells dcOk s
def srLies (w : World) (x : Sr) : Prop := declsLie w x.fields ∧ x.name.size ≤ maxLen
def srsLie (w : World) (s : Sl Sr) : Prop := slLies w 3 48 Sr.cells (srLies w) s
def pcLies (w : World) (x : Pc) : Prop := declsLie w x.params ∧ declsLie w x.locals_ ∧ sLies w x.bp x.body ∧ x.name.size ≤ maxLen
def pcsLie (w : World) (s : Sl Pc) : Prop := slLies w 6 104 Pc.cells (pcLies w) s
def pgLies (w : World) (p : Pg) : Prop := srsLie w p.structs ∧ declsLie w p.globals ∧ pcsLie w p.procs
theorem declsLie_below {w w' : World} {s : Sl Dc} (h : declsLie w s) (hb : Below w.heap.size w w') : declsLie w' s := slLies_below h hb (fun _ h => h)
theorem srsLie_below {w w' : World} {s : Sl Sr} (h : srsLie w s) (hb : Below w.heap.size w w') : srsLie w' s := slLies_below h hb (fun _ h => ⟨declsLie_below h.1 hb, h.2⟩)
theorem pcLies_below {w w' : World} {x : Pc} (h : pcLies w x) (hb : Below w.heap.size w w') : pcLies w' x := ⟨declsLie_below h.1 hb, declsLie_below h.2.1 hb, sLies_below h.2.2.1 hb, h.2.2.2⟩
theorem pcsLie_below {w w' : World} {s : Sl Pc} (h : pcsLie w s) (hb : Below w.heap.size w w') : pcsLie w' s := slLies_below h hb (fun _ h => pcLies_below h hb)
theorem pgLies_below {w w' : World} {p : Pg} (h : pgLies w p) (hb : Below w.heap.size w w') : pgLies w' p := ⟨srsLie_below h.1 hb, declsLie_below h.2.1 hb, pcsLie_below h.2.2 hb⟩

theorem chunk {cs c : List Value} {o n m : Nat} (h : (cs.drop o).take n = c) (hm : o + n = m) : cs.drop o = c ++ cs.drop m := by
  rw [← h, ← hm, ← List.drop_drop]; exact (List.take_append_drop n _).symm
theorem weightsAll_mem {H : Type} {P : Program} {e : TypeId} {k : Nat} : ∀ {l : List (DataW H)} {d : DataW H}, d ∈ l → k ∈ d.weights P e → k ∈ DataW.weightsAll P e l
  | x :: l, d, hd, hk => by
    simp only [DataW.weightsAll, List.mem_append]
    rcases List.mem_cons.1 hd with rfl | h
    · exact .inl hk
    · exact .inr (weightsAll_mem h hk)
theorem choose_lt {α : Type} {n : Nat} {p : Nat → α → Prop} (d : α) (h : ∀ i, i < n → ∃ x, p i x) : ∃ f : Nat → α, ∀ i, i < n → p i (f i) := by
  classical
  exact ⟨fun i => if hi : i < n then (h i hi).choose else d, fun i hi => by simp only [dif_pos hi]; exact (h i hi).choose_spec⟩

section
variable {H : Type} {enc : TypeId × Value → H} {w : World} {base : Nat} {spare : Nat → Bool} {held : Bool}

/-- What a reading weighs is within the reach. -/
def Wt (_ : TypeId) (d : DataW H) : Prop := Rows.uptoBulk d ≤ 1048576
theorem fld {T : TypeId} {fs : Array Field} {fuel : Nat} {cs : List Value} {x : DataW H × List MemPlace} (hu : Try.prog.underlying T = some (.struct fs)) (h : DataW.trod enc Try.prog w base spare held fuel T cs = some x) (hw : Wt T x.1) :
    ∃ n, fuel = n + 1 ∧ cs.length = Try.prog.cellsOf T ∧ ∀ (i t o c : Nat), fs[i]?.map (fun f => (f.type, f.offset)) = some (t, o) → Try.prog.cellsOf t = c → ∃ y, DataW.trod enc Try.prog w base spare held n t ((cs.drop o).take c) = some y ∧ Wt t y.1 := by
  obtain ⟨xs, n, rfl, rfl, hl, hx, hf⟩ := DataW.trod_struct hu h
  refine ⟨n, rfl, hl, fun i t o c hi0 hc => ?_⟩
  obtain ⟨f, hi, he⟩ := Option.map_eq_some_iff.1 hi0
  injection he with e1 e2
  subst e1; subst e2; subst hc
  have hlt : i < xs.length := by rw [hx]; exact (Array.getElem?_eq_some_iff.1 hi).1
  refine ⟨xs[i], (hf i f hi).trans (List.getElem?_eq_getElem hlt), ?_⟩
  have h1 := bulks.part_le (d := xs[i].1) (l := xs.map (·.1)) (List.mem_map.2 ⟨_, List.getElem_mem _, rfl⟩)
  have h2 : Rows.uptoBulk (DataW.agg (xs.map (·.1))) ≤ 1048576 := hw
  simp only [Rows.uptoBulk] at h2
  unfold Wt
  omega
theorem slice_open {t e : TypeId} {size fuel : Nat} {cs : List Value} {x : DataW H × List MemPlace} (ht : Try.prog.underlying t = some (.slice e)) (hc : Try.prog.cellsOf e = size) (hs : 0 < size)
    (h : DataW.trod enc Try.prog w base spare held fuel t cs = some x) (hw : Wt t x.1) :
    ∃ p len cap, cs = [.slice p len cap] ∧ len ≤ 1048576 ∧ (len = 0 ∨ ∃ b o n, p = some ⟨b, o, none⟩ ∧ n < fuel ∧ ∀ i, i < len → ∃ cs' y, w.rangeAt b (o + i * size) cs' ∧ DataW.trod enc Try.prog w base spare held n e cs' = some y ∧ Wt e y.1) := by
  rcases DataW.trod_slice ht h with ⟨rfl, rfl⟩ | ⟨a, len, cap, elems, rest, n, rfl, rfl, rfl, _, _, _, hlen, hel, _, _⟩
  · exact ⟨none, 0, 0, rfl, by simp, .inl rfl⟩
  · have h1 := bulks.slice_le (elems.map (·.1)) (rest.map (·.1))
    have h2 := bulks.slice_elems (elems.map (·.1)) (rest.map (·.1))
    have hw' : Rows.uptoBulk (DataW.slice (elems.map (·.1)) (rest.map (·.1))) ≤ 1048576 := hw
    simp only [List.length_map] at h1
    refine ⟨some a, len, cap, rfl, by omega, ?_⟩
    · by_cases h0 : len = 0
      · exact .inl h0
      · have hcells : ∀ i, i < len → ∃ cs', w.cells? base (a.add (i * size)) size = some cs' ∧ DataW.trod enc Try.prog w base spare held n e cs' = elems[i]? := fun i hi => by
          have h1 := hel i hi
          rw [hc] at h1
          have hsome : elems[i]? = some (elems[i]'(by omega)) := List.getElem?_eq_getElem (by omega)
          rw [hsome] at h1
          cases hq : w.cells? base (a.add (i * size)) size with
          | none => rw [hq] at h1; simp at h1
          | some cs' => rw [hq] at h1; exact ⟨cs', rfl, by rw [hsome]; simpa using h1⟩
        obtain ⟨c0, hc0, _⟩ := hcells 0 (by omega)
        obtain ⟨_, hl0, hat0⟩ := World.cells?_some hc0
        obtain ⟨b, off, sp⟩ := a
        have hsp : sp = none := by
          have h2 := hat0 0 hs
          have h3 : c0[0]? = some (c0[0]'(by omega)) := List.getElem?_eq_getElem (by omega)
          rw [h3] at h2
          cases sp with
          | none => rfl
          | some s => simp [World.cell?, Addr.add] at h2; split at h2 <;> simp at h2
        subst hsp
        refine .inr ⟨b, off, n, rfl, by omega, fun i hi => ?_⟩
        obtain ⟨cs', hcs, htr⟩ := hcells i hi
        obtain ⟨_, hl, hat⟩ := World.cells?_some hcs
        refine ⟨cs', elems[i]'(by omega), fun j v hj => ?_, by rw [htr]; exact List.getElem?_eq_getElem (by omega), ?_⟩
        · have hjl : j < size := by rw [← hl]; exact (List.getElem?_eq_some_iff.1 hj).1
          have h4 := hat j hjl
          rw [hj] at h4
          rw [← h4]
          rw [Addr.add_mid, Addr.add_mid]
        · have h3 := bulks.part_le (d := (elems[i]'(by omega)).1) (l := elems.map (·.1)) (List.mem_map.2 ⟨_, List.getElem_mem _, rfl⟩)
          unfold Wt
          omega
/-- A slice whose items each read. -/
theorem sl_open {α : Type} (d0 : α) {t e : TypeId} {size bytes fuel : Nat} {cs : List Value} {x : DataW H × List MemPlace} {cells : α → List Value} {R : α → Prop} (ht : Try.prog.underlying t = some (.slice e)) (hc : Try.prog.cellsOf e = size) (hs : 0 < size) (_ : Try.prog.bytesOf e = bytes)
    (hel : ∀ n cs y, n < fuel → DataW.trod enc Try.prog w base spare held n e cs = some y → Wt e y.1 → ∃ v : α, cs = cells v ∧ R v)
    (h : DataW.trod enc Try.prog w base spare held fuel t cs = some x) (hw : Wt t x.1) : ∃ s : Sl α, cs = [.slice s.p s.l.length s.cap] ∧ slLies w size bytes cells R s := by
  obtain ⟨p, len, cap, rfl, hl, h2⟩ := slice_open ht hc hs h hw
  rcases h2 with rfl | ⟨b, o, n, rfl, hn, hx⟩
  · exact ⟨⟨p, cap, []⟩, rfl, hl, .inl rfl⟩
  · have hx' : ∀ i, i < len → ∃ v : α, w.rangeAt b (o + i * size) (cells v) ∧ R v := fun i hi => by
      obtain ⟨cs', y, h1, h2, h3⟩ := hx i hi
      obtain ⟨v, rfl, hv⟩ := hel n cs' y hn h2 h3
      exact ⟨v, h1, hv⟩
    obtain ⟨f, hf⟩ := choose_lt d0 hx'
    refine ⟨⟨some ⟨b, o, none⟩, cap, (List.range len).map f⟩, by simp, by simpa using hl, .inr ⟨b, o, rfl, fun k v hk => ?_⟩⟩
    simp only [List.getElem?_map, Option.map_eq_some_iff] at hk
    obtain ⟨j, hj, rfl⟩ := hk
    have hjl := (List.getElem?_eq_some_iff.1 hj)
    obtain ⟨hlt, he⟩ := hjl
    simp only [List.length_range] at hlt
    simp only [List.getElem_range] at he
    subst he
    exact hf k hlt
theorem cells3 : Try.prog.cellsOf 3 = 1 := by kernel_rfl
theorem cells9 : Try.prog.cellsOf 9 = 1 := by kernel_rfl
theorem cells4 : Try.prog.cellsOf 4 = 1 := by kernel_rfl
theorem cells82 : Try.prog.cellsOf 82 = 1 := by kernel_rfl
theorem cells91 : Try.prog.cellsOf 91 = 1 := by kernel_rfl
theorem cells47 : Try.prog.cellsOf 47 = 1 := by kernel_rfl
theorem cells23 : Try.prog.cellsOf 23 = 1 := by kernel_rfl
theorem cells84 : Try.prog.cellsOf 84 = 3 := by kernel_rfl
theorem cells86 : Try.prog.cellsOf 86 = 3 := by kernel_rfl
theorem cells88 : Try.prog.cellsOf 88 = 12 := by kernel_rfl
theorem cells90 : Try.prog.cellsOf 90 = 26 := by kernel_rfl
theorem cells93 : Try.prog.cellsOf 93 = 48 := by kernel_rfl
theorem cells118 : Try.prog.cellsOf 118 = 2 := by kernel_rfl
theorem cells46 : Try.prog.cellsOf 46 = 3 := by kernel_rfl
theorem cells44 : Try.prog.cellsOf 44 = 3 := by kernel_rfl
theorem cells49 : Try.prog.cellsOf 49 = 6 := by kernel_rfl
theorem cells22 : Try.prog.cellsOf 22 = 1 := by kernel_rfl
theorem cells24 : Try.prog.cellsOf 24 = 1 := by kernel_rfl
theorem cells26 : Try.prog.cellsOf 26 = 3 := by kernel_rfl
theorem bytes93 : Try.prog.bytesOf 93 = 608 := by kernel_rfl
theorem bytes118 : Try.prog.bytesOf 118 = 24 := by kernel_rfl
theorem bytes88 : Try.prog.bytesOf 88 = 144 := by kernel_rfl
theorem bytes46 : Try.prog.bytesOf 46 = 40 := by kernel_rfl
theorem bytes44 : Try.prog.bytesOf 44 = 48 := by kernel_rfl
theorem bytes49 : Try.prog.bytesOf 49 = 104 := by kernel_rfl
theorem hop_open {fuel : Nat} {cs : List Value} {x : DataW H × List MemPlace} (h : DataW.trod enc Try.prog w base spare held fuel 118 cs = some x) (hw : Wt 118 x.1) :
    ∃ v : Hp, cs = v.cells := by
  obtain ⟨n, rfl, hl, hf⟩ := fld Try.underlying118 h hw
  rw [cells118] at hl
  obtain ⟨y0, t0, w0⟩ := hf 0 9 0 _ rfl cells9
  obtain ⟨nm, k0, _, z0⟩ := DataW.trod_string Try.underlying9 t0
  obtain ⟨y1, t1, w1⟩ := hf 1 3 1 _ rfl cells3
  obtain ⟨a, k1, _⟩ := DataW.trod_int Try.underlying3 t1
  have e : cs.drop 0 = cs.drop 0 := rfl
  conv at e => rhs; rw [chunk k0 (show _ = 1 from rfl), chunk k1 (show _ = 2 from rfl), List.drop_eq_nil_of_le (show cs.length ≤ 2 by omega)]
  exact ⟨⟨nm, a⟩, e⟩
theorem hops_open {fuel : Nat} {cs : List Value} {x : DataW H × List MemPlace} (h : DataW.trod enc Try.prog w base spare held fuel 82 cs = some x) (hw : Wt 82 x.1) : ∃ s : Sl Hp, cs = [.slice s.p s.l.length s.cap] ∧ hopsLie w s :=
  sl_open ⟨ByteArray.empty, 0⟩ Try.underlying82 cells118 (by decide) bytes118 (fun n cs y _ h hw => by obtain ⟨v, hv⟩ := hop_open h hw; exact ⟨v, hv, trivial⟩) h hw
theorem path_open {fuel : Nat} {cs : List Value} {x : DataW H × List MemPlace} (h : DataW.trod enc Try.prog w base spare held fuel 84 cs = some x) (hw : Wt 84 x.1) :
    ∃ v : Pth, cs = v.cells ∧ hopsLie w v.hops := by
  obtain ⟨n, rfl, hl, hf⟩ := fld Try.underlying84 h hw
  rw [cells84] at hl
  obtain ⟨y0, t0, w0⟩ := hf 0 9 0 _ rfl cells9
  obtain ⟨nm, k0, _, z0⟩ := DataW.trod_string Try.underlying9 t0
  obtain ⟨y1, t1, w1⟩ := hf 1 3 1 _ rfl cells3
  obtain ⟨a, k1, _⟩ := DataW.trod_int Try.underlying3 t1
  obtain ⟨y2, t2, w2⟩ := hf 2 82 2 _ rfl cells82
  obtain ⟨s, k2, l2⟩ := hops_open t2 w2
  have e : cs.drop 0 = cs.drop 0 := rfl
  conv at e => rhs; rw [chunk k0 (show _ = 1 from rfl), chunk k1 (show _ = 2 from rfl), chunk k2 (show _ = 3 from rfl), List.drop_eq_nil_of_le (show cs.length ≤ 3 by omega)]
  exact ⟨⟨nm, a, s⟩, e, l2⟩
theorem term_open {fuel : Nat} {cs : List Value} {x : DataW H × List MemPlace} (h : DataW.trod enc Try.prog w base spare held fuel 86 cs = some x) (hw : Wt 86 x.1) :
    ∃ v : Tm, cs = v.cells ∧ True := by
  obtain ⟨n, rfl, hl, hf⟩ := fld Try.underlying86 h hw
  rw [cells86] at hl
  obtain ⟨y0, t0, w0⟩ := hf 0 9 0 _ rfl cells9
  obtain ⟨nm, k0, _, z0⟩ := DataW.trod_string Try.underlying9 t0
  obtain ⟨y1, t1, w1⟩ := hf 1 3 1 _ rfl cells3
  obtain ⟨a, k1, _⟩ := DataW.trod_int Try.underlying3 t1
  obtain ⟨y2, t2, w2⟩ := hf 2 3 2 _ rfl cells3
  obtain ⟨b, k2, _⟩ := DataW.trod_int Try.underlying3 t2
  have e : cs.drop 0 = cs.drop 0 := rfl
  conv at e => rhs; rw [chunk k0 (show _ = 1 from rfl), chunk k1 (show _ = 2 from rfl), chunk k2 (show _ = 3 from rfl), List.drop_eq_nil_of_le (show cs.length ≤ 3 by omega)]
  exact ⟨⟨nm, a, b⟩, e, trivial⟩
theorem value_open {fuel : Nat} {cs : List Value} {x : DataW H × List MemPlace} (h : DataW.trod enc Try.prog w base spare held fuel 88 cs = some x) (hw : Wt 88 x.1) :
    ∃ v : Vl, cs = v.cells ∧ vlLies w v := by
  obtain ⟨n, rfl, hl, hf⟩ := fld Try.underlying88 h hw
  rw [cells88] at hl
  obtain ⟨y0, t0, w0⟩ := hf 0 3 0 _ rfl cells3
  obtain ⟨a, k0, _⟩ := DataW.trod_int Try.underlying3 t0
  obtain ⟨y1, t1, w1⟩ := hf 1 3 1 _ rfl cells3
  obtain ⟨b, k1, _⟩ := DataW.trod_int Try.underlying3 t1
  obtain ⟨y2, t2, w2⟩ := hf 2 84 2 _ rfl cells84
  obtain ⟨p, k2, l2⟩ := path_open t2 w2
  obtain ⟨y3, t3, w3⟩ := hf 3 9 5 _ rfl cells9
  obtain ⟨ty, k3, _, z3⟩ := DataW.trod_string Try.underlying9 t3
  obtain ⟨y4, t4, w4⟩ := hf 4 86 6 _ rfl cells86
  obtain ⟨l, k4, l4⟩ := term_open t4 w4
  obtain ⟨y5, t5, w5⟩ := hf 5 86 9 _ rfl cells86
  obtain ⟨r, k5, l5⟩ := term_open t5 w5
  have e : cs.drop 0 = cs.drop 0 := rfl
  conv at e => rhs; rw [chunk k0 (show _ = 1 from rfl), chunk k1 (show _ = 2 from rfl), chunk k2 (show _ = 5 from rfl), chunk k3 (show _ = 6 from rfl), chunk k4 (show _ = 9 from rfl), chunk k5 (show _ = 12 from rfl), List.drop_eq_nil_of_le (show cs.length ≤ 12 by omega)]
  exact ⟨⟨a, b, p, ty, l, r⟩, e, l2⟩
theorem args_open {fuel : Nat} {cs : List Value} {x : DataW H × List MemPlace} (h : DataW.trod enc Try.prog w base spare held fuel 91 cs = some x) (hw : Wt 91 x.1) : ∃ s : Sl Vl, cs = [.slice s.p s.l.length s.cap] ∧ argsLie w s :=
  sl_open ⟨0, 0, ⟨ByteArray.empty, 0, ⟨none, 0, []⟩⟩, ByteArray.empty, ⟨ByteArray.empty, 0, 0⟩, ⟨ByteArray.empty, 0, 0⟩⟩ Try.underlying91 cells88 (by decide) bytes88 (fun n cs y _ h hw => value_open h hw) h hw
theorem cond_open {fuel : Nat} {cs : List Value} {x : DataW H × List MemPlace} (h : DataW.trod enc Try.prog w base spare held fuel 90 cs = some x) (hw : Wt 90 x.1) :
    ∃ v : Cd, cs = v.cells ∧ vlLies w v.left ∧ vlLies w v.right := by
  obtain ⟨n, rfl, hl, hf⟩ := fld Try.underlying90 h hw
  rw [cells90] at hl
  obtain ⟨y0, t0, w0⟩ := hf 0 3 0 _ rfl cells3
  obtain ⟨a, k0, _⟩ := DataW.trod_int Try.underlying3 t0
  obtain ⟨y1, t1, w1⟩ := hf 1 3 1 _ rfl cells3
  obtain ⟨b, k1, _⟩ := DataW.trod_int Try.underlying3 t1
  obtain ⟨y2, t2, w2⟩ := hf 2 88 2 _ rfl cells88
  obtain ⟨l, k2, l2⟩ := value_open t2 w2
  obtain ⟨y3, t3, w3⟩ := hf 3 88 14 _ rfl cells88
  obtain ⟨r, k3, l3⟩ := value_open t3 w3
  have e : cs.drop 0 = cs.drop 0 := rfl
  conv at e => rhs; rw [chunk k0 (show _ = 1 from rfl), chunk k1 (show _ = 2 from rfl), chunk k2 (show _ = 14 from rfl), chunk k3 (show _ = 26 from rfl), List.drop_eq_nil_of_le (show cs.length ≤ 26 by omega)]
  exact ⟨⟨a, b, l, r⟩, e, l2, l3⟩
theorem decl_open {fuel : Nat} {cs : List Value} {x : DataW H × List MemPlace} (h : DataW.trod enc Try.prog w base spare held fuel 46 cs = some x) (hw : Wt 46 x.1) :
    ∃ v : Dc, cs = v.cells ∧ dcOk v := by
  obtain ⟨n, rfl, hl, hf⟩ := fld Try.underlying46 h hw
  rw [cells46] at hl
  obtain ⟨y0, t0, w0⟩ := hf 0 9 0 _ rfl cells9
  obtain ⟨ty, k0, _, z0⟩ := DataW.trod_string Try.underlying9 t0
  obtain ⟨y1, t1, w1⟩ := hf 1 9 1 _ rfl cells9
  obtain ⟨nm, k1, _, z1⟩ := DataW.trod_string Try.underlying9 t1
  obtain ⟨y2, t2, w2⟩ := hf 2 3 2 _ rfl cells3
  obtain ⟨a, k2, _⟩ := DataW.trod_int Try.underlying3 t2
  have e : cs.drop 0 = cs.drop 0 := rfl
  conv at e => rhs; rw [chunk k0 (show _ = 1 from rfl), chunk k1 (show _ = 2 from rfl), chunk k2 (show _ = 3 from rfl), List.drop_eq_nil_of_le (show cs.length ≤ 3 by omega)]
  exact ⟨⟨ty, nm, a⟩, e, z0, z1⟩
theorem decls_open {fuel : Nat} {cs : List Value} {x : DataW H × List MemPlace} (h : DataW.trod enc Try.prog w base spare held fuel 23 cs = some x) (hw : Wt 23 x.1) : ∃ s : Sl Dc, cs = [.slice s.p s.l.length s.cap] ∧ declsLie w s :=
  sl_open ⟨ByteArray.empty, ByteArray.empty, 0⟩ Try.underlying23 cells46 (by decide) bytes46 (fun n cs y _ h hw => decl_open h hw) h hw
theorem struct_open {fuel : Nat} {cs : List Value} {x : DataW H × List MemPlace} (h : DataW.trod enc Try.prog w base spare held fuel 44 cs = some x) (hw : Wt 44 x.1) :
    ∃ v : Sr, cs = v.cells ∧ srLies w v := by
  obtain ⟨n, rfl, hl, hf⟩ := fld Try.underlying44 h hw
  rw [cells44] at hl
  obtain ⟨y0, t0, w0⟩ := hf 0 9 0 _ rfl cells9
  obtain ⟨nm, k0, _, z0⟩ := DataW.trod_string Try.underlying9 t0
  obtain ⟨y1, t1, w1⟩ := hf 1 3 1 _ rfl cells3
  obtain ⟨a, k1, _⟩ := DataW.trod_int Try.underlying3 t1
  obtain ⟨y2, t2, w2⟩ := hf 2 23 2 _ rfl cells23
  obtain ⟨s, k2, l2⟩ := decls_open t2 w2
  have e : cs.drop 0 = cs.drop 0 := rfl
  conv at e => rhs; rw [chunk k0 (show _ = 1 from rfl), chunk k1 (show _ = 2 from rfl), chunk k2 (show _ = 3 from rfl), List.drop_eq_nil_of_le (show cs.length ≤ 3 by omega)]
  exact ⟨⟨nm, a, s⟩, e, l2, z0⟩
theorem structs_open {fuel : Nat} {cs : List Value} {x : DataW H × List MemPlace} (h : DataW.trod enc Try.prog w base spare held fuel 22 cs = some x) (hw : Wt 22 x.1) : ∃ s : Sl Sr, cs = [.slice s.p s.l.length s.cap] ∧ srsLie w s :=
  sl_open ⟨ByteArray.empty, 0, ⟨none, 0, []⟩⟩ Try.underlying22 cells44 (by decide) bytes44 (fun n cs y _ h hw => struct_open h hw) h hw
theorem stmt_open {fuel : Nat} {cs : List Value} {x : DataW H × List MemPlace} (h : DataW.trod enc Try.prog w base spare held fuel 93 cs = some x) (hw : Wt 93 x.1)
    (hS : ∀ m cs y, m < fuel → DataW.trod enc Try.prog w base spare held m 47 cs = some y → Wt 47 y.1 → ∃ p c l, cs = [.slice p (SL.len l) c] ∧ sLies w p l) :
    ∃ (h : Hd) (tp : Option Addr) (tc : Nat) (t : SL) (ep : Option Addr) (ec : Nat) (e : SL), cs = scells h tp t.len tc ep e.len ec ∧ hdLies w h ∧ sLies w tp t ∧ sLies w ep e := by
  obtain ⟨n, rfl, hl, hf⟩ := fld Try.underlying93 h hw
  rw [cells93] at hl
  obtain ⟨y0, t0, w0⟩ := hf 0 3 0 _ rfl cells3
  obtain ⟨a, k0, _⟩ := DataW.trod_int Try.underlying3 t0
  obtain ⟨y1, t1, w1⟩ := hf 1 3 1 _ rfl cells3
  obtain ⟨b, k1, _⟩ := DataW.trod_int Try.underlying3 t1
  obtain ⟨y2, t2, w2⟩ := hf 2 84 2 _ rfl cells84
  obtain ⟨p, k2, l2⟩ := path_open t2 w2
  obtain ⟨y3, t3, w3⟩ := hf 3 88 5 _ rfl cells88
  obtain ⟨v, k3, l3⟩ := value_open t3 w3
  obtain ⟨y4, t4, w4⟩ := hf 4 90 17 _ rfl cells90
  obtain ⟨c, k4, l4⟩ := cond_open t4 w4
  obtain ⟨y5, t5, w5⟩ := hf 5 9 43 _ rfl cells9
  obtain ⟨nm, k5, _, z5⟩ := DataW.trod_string Try.underlying9 t5
  obtain ⟨y6, t6, w6⟩ := hf 6 91 44 _ rfl cells91
  obtain ⟨s, k6, l6⟩ := args_open t6 w6
  obtain ⟨y7, t7, w7⟩ := hf 7 47 45 _ rfl cells47
  obtain ⟨tp, tc, t, k7, l7⟩ := hS _ _ _ (Nat.lt_succ_self _) t7 w7
  obtain ⟨y8, t8, w8⟩ := hf 8 47 46 _ rfl cells47
  obtain ⟨up, uc, u, k8, l8⟩ := hS _ _ _ (Nat.lt_succ_self _) t8 w8
  obtain ⟨y9, t9, w9⟩ := hf 9 4 47 _ rfl cells4
  obtain ⟨z, k9, _⟩ := DataW.trod_bool Try.underlying4 t9
  have e : cs.drop 0 = cs.drop 0 := rfl
  conv at e => rhs; rw [chunk k0 (show _ = 1 from rfl), chunk k1 (show _ = 2 from rfl), chunk k2 (show _ = 5 from rfl), chunk k3 (show _ = 17 from rfl), chunk k4 (show _ = 43 from rfl), chunk k5 (show _ = 44 from rfl), chunk k6 (show _ = 45 from rfl), chunk k7 (show _ = 46 from rfl), chunk k8 (show _ = 47 from rfl), chunk k9 (show _ = 48 from rfl), List.drop_eq_nil_of_le (show cs.length ≤ 48 by omega)]
  exact ⟨⟨a, b, p, v, c, nm, s, z⟩, tp, tc, t, up, uc, u, e, ⟨l2, l3, l4.1, l4.2, l6, z5⟩, l7, l8⟩
theorem build_SL {b : Nat} : ∀ (len o : Nat), (∀ i, i < len → ∃ (h : Hd) (tp : Option Addr) (tc : Nat) (t : SL) (ep : Option Addr) (ec : Nat) (e : SL), w.rangeAt b (o + i * 48) (scells h tp t.len tc ep e.len ec) ∧ hdLies w h ∧ sLies w tp t ∧ sLies w ep e) → ∃ l : SL, l.len = len ∧ lies w l b o
  | 0, o, _ => ⟨.nil, rfl, trivial⟩
  | len + 1, o, hx => by
    obtain ⟨h, tp, tc, t, ep, ec, e, h1, h2, h3, h4⟩ := hx 0 (by omega)
    obtain ⟨r, hr, hl⟩ := build_SL len (o + 48) (fun i hi => by
      have := hx (i + 1) (by omega)
      rwa [show o + (i + 1) * 48 = o + 48 + i * 48 by omega] at this)
    exact ⟨.cons h tp tc t ep ec e r, by simp only [SL.len, hr], by simpa using h1, h2, h3, h4, hl⟩
theorem stmts_any : ∀ (fuel : Nat) (cs : List Value) (x : DataW H × List MemPlace), DataW.trod enc Try.prog w base spare held fuel 47 cs = some x → Wt 47 x.1 → ∃ p c l, cs = [.slice p (SL.len l) c] ∧ sLies w p l := by
  intro fuel
  induction fuel using Nat.strongRecOn with
  | _ fuel ih =>
    intro cs x h hw
    obtain ⟨p, len, cap, rfl, hl, h2⟩ := slice_open Try.underlying47 cells93 (by decide) h hw
    rcases h2 with rfl | ⟨b, o, n, rfl, hn, hx⟩
    · exact ⟨p, cap, .nil, rfl, by simp [SL.len], .inl rfl⟩
    · obtain ⟨l, hll, hli⟩ := build_SL (w := w) (b := b) len o (fun i hi => by
        obtain ⟨cs', y, h1, h3, h4⟩ := hx i hi
        obtain ⟨hd, tp, tc, t, ep, ec, e, rfl, g1, g2, g3⟩ := stmt_open h3 h4 (fun m cs y hm h hw => ih m (by omega) cs y h hw)
        exact ⟨hd, tp, tc, t, ep, ec, e, h1, g1, g2, g3⟩)
      exact ⟨some ⟨b, o, none⟩, cap, l, by rw [hll], by rw [hll]; exact hl, .inr ⟨b, o, rfl, hli⟩⟩
theorem stmts_open {fuel : Nat} {cs : List Value} {x : DataW H × List MemPlace} (h : DataW.trod enc Try.prog w base spare held fuel 47 cs = some x) (hw : Wt 47 x.1) : ∃ p c l, cs = [.slice p (SL.len l) c] ∧ sLies w p l := stmts_any fuel cs x h hw
theorem proc_open {fuel : Nat} {cs : List Value} {x : DataW H × List MemPlace} (h : DataW.trod enc Try.prog w base spare held fuel 49 cs = some x) (hw : Wt 49 x.1) :
    ∃ v : Pc, cs = v.cells ∧ pcLies w v := by
  obtain ⟨n, rfl, hl, hf⟩ := fld Try.underlying49 h hw
  rw [cells49] at hl
  obtain ⟨y0, t0, w0⟩ := hf 0 9 0 _ rfl cells9
  obtain ⟨nm, k0, _, z0⟩ := DataW.trod_string Try.underlying9 t0
  obtain ⟨y1, t1, w1⟩ := hf 1 3 1 _ rfl cells3
  obtain ⟨a, k1, _⟩ := DataW.trod_int Try.underlying3 t1
  obtain ⟨y2, t2, w2⟩ := hf 2 3 2 _ rfl cells3
  obtain ⟨b, k2, _⟩ := DataW.trod_int Try.underlying3 t2
  obtain ⟨y3, t3, w3⟩ := hf 3 23 3 _ rfl cells23
  obtain ⟨s, k3, l3⟩ := decls_open t3 w3
  obtain ⟨y4, t4, w4⟩ := hf 4 23 4 _ rfl cells23
  obtain ⟨q, k4, l4⟩ := decls_open t4 w4
  obtain ⟨y5, t5, w5⟩ := hf 5 47 5 _ rfl cells47
  obtain ⟨tp, tc, t, k5, l5⟩ := stmts_open t5 w5
  have e : cs.drop 0 = cs.drop 0 := rfl
  conv at e => rhs; rw [chunk k0 (show _ = 1 from rfl), chunk k1 (show _ = 2 from rfl), chunk k2 (show _ = 3 from rfl), chunk k3 (show _ = 4 from rfl), chunk k4 (show _ = 5 from rfl), chunk k5 (show _ = 6 from rfl), List.drop_eq_nil_of_le (show cs.length ≤ 6 by omega)]
  exact ⟨⟨nm, a, b, s, q, tp, tc, t⟩, e, l3, l4, l5, z0⟩
theorem procs_open {fuel : Nat} {cs : List Value} {x : DataW H × List MemPlace} (h : DataW.trod enc Try.prog w base spare held fuel 24 cs = some x) (hw : Wt 24 x.1) : ∃ s : Sl Pc, cs = [.slice s.p s.l.length s.cap] ∧ pcsLie w s :=
  sl_open ⟨ByteArray.empty, 0, 0, ⟨none, 0, []⟩, ⟨none, 0, []⟩, none, 0, .nil⟩ Try.underlying24 cells49 (by decide) bytes49 (fun n cs y _ h hw => proc_open h hw) h hw
theorem program_open {fuel : Nat} {cs : List Value} {x : DataW H × List MemPlace} (h : DataW.trod enc Try.prog w base spare held fuel 26 cs = some x) (hw : Wt 26 x.1) :
    ∃ v : Pg, cs = v.cells ∧ pgLies w v := by
  obtain ⟨n, rfl, hl, hf⟩ := fld Try.underlying26 h hw
  rw [cells26] at hl
  obtain ⟨y0, t0, w0⟩ := hf 0 22 0 _ rfl cells22
  obtain ⟨s, k0, l0⟩ := structs_open t0 w0
  obtain ⟨y1, t1, w1⟩ := hf 1 23 1 _ rfl cells23
  obtain ⟨g, k1, l1⟩ := decls_open t1 w1
  obtain ⟨y2, t2, w2⟩ := hf 2 24 2 _ rfl cells24
  obtain ⟨q, k2, l2⟩ := procs_open t2 w2
  have e : cs.drop 0 = cs.drop 0 := rfl
  conv at e => rhs; rw [chunk k0 (show _ = 1 from rfl), chunk k1 (show _ = 2 from rfl), chunk k2 (show _ = 3 from rfl), List.drop_eq_nil_of_le (show cs.length ≤ 3 by omega)]
  exact ⟨⟨s, g, q⟩, e, l0, l1, l2⟩
end

end Go.Proofs.Ytjkgkigfmcegoaa
