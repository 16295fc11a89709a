/-
  DERIVED. Plain: from a row of one's own to a slice that lies in the new memory.
-/
import Derived.Test.YtpbjnjnmbglllaaRpV
import Derived.Test.YtpbjnjnmbglllaaOw
namespace Go.Proofs.Ytpbjnjnmbglllaa
open Go.RowKit Go.Sort

theorem decls_lie {w : World} {B : Nat} {v : Value} {l : List Dc} (h : w.ownsRow B 45 3 v l.length (l.flatMap dcer)) (hl : l.length * 40 ≤ 140737488351232) :
    ∃ s : Sl Dc, v = s.v ∧ s.l = l.map Dc.er ∧ declsLie (fresh B w) s := by
  obtain ⟨p, c, rfl, hp⟩ := own_lies (n := 3) (fun _ => rfl) h
  refine ⟨⟨p, c, l.map Dc.er⟩, by simp [Sl.v], rfl, by simpa using hl, ?_⟩
  rcases hp with rfl | ⟨b, o, rfl, _, _, hx⟩
  · exact .inl rfl
  · refine .inr ⟨b, o, rfl, fun k x hk => ⟨?_, trivial⟩⟩
    rw [List.getElem?_map] at hk
    cases hy : l[k]? with
    | none => rw [hy] at hk; cases hk
    | some y => rw [hy] at hk; injection hk with hk; subst hk; exact hx k y hy
theorem hops_lie {w : World} {B : Nat} {v : Value} {l : List Hp} (h : w.ownsRow B 85 2 v l.length (l.flatMap hper)) (hl : l.length * 24 ≤ 140737488351232) :
    ∃ s : Sl Hp, v = s.v ∧ s.l = l.map Hp.er ∧ hopsLie (fresh B w) s := by
  obtain ⟨p, c, rfl, hp⟩ := own_lies (n := 2) (fun _ => rfl) h
  refine ⟨⟨p, c, l.map Hp.er⟩, by simp [Sl.v], rfl, by simpa using hl, ?_⟩
  rcases hp with rfl | ⟨b, o, rfl, _, _, hx⟩
  · exact .inl rfl
  · refine .inr ⟨b, o, rfl, fun k x hk => ⟨?_, trivial⟩⟩
    rw [List.getElem?_map] at hk
    cases hy : l[k]? with
    | none => rw [hy] at hk; cases hk
    | some y => rw [hy] at hk; injection hk with hk; subst hk; exact hx k y hy

theorem hops_er {s t : Sl Hp} (h : s.l = t.l.map Hp.er) : s.er Hp.er = t.er Hp.er ∧ ∀ x ∈ s.l, x.flat := by
  refine ⟨?_, fun x hx => ?_⟩
  · unfold Sl.er; rw [h, List.map_map]; rfl
  · rw [h, List.mem_map] at hx; obtain ⟨y, _, rfl⟩ := hx; rfl
theorem decls_er {s t : Sl Dc} (h : s.l = t.l.map Dc.er) : s.er Dc.er = t.er Dc.er ∧ ∀ x ∈ s.l, x.flat := by
  refine ⟨?_, fun x hx => ?_⟩
  · unfold Sl.er; rw [h, List.map_map]; rfl
  · rw [h, List.mem_map] at hx; obtain ⟨y, _, rfl⟩ := hx; rfl
theorem decls_new (s : Sl Dc) (w : World) (hl : declsLie w s) :
    Calls Try.prog 48 #[.slice s.p s.l.length s.cap] w fun e w' => ∃ t : Sl Dc, e = .returned (.slice t.p t.l.length t.cap) ∧ t.er Dc.er = s.er Dc.er ∧ (∀ x ∈ t.l, x.flat) ∧ declsLie (fresh w.heap.size w') t ∧ Below w.heap.size w w' :=
  (decls_any s.l s.p s.cap w hl).mono fun e w' ⟨v, he, ho, hb⟩ => by
    obtain ⟨t, rfl, ht, hlie⟩ := decls_lie ho hl.1
    exact ⟨t, he, (decls_er ht).1, (decls_er ht).2, hlie, hb⟩
theorem path_new (x : Pth) (w : World) (hl : hopsLie w x.hops) :
    Calls Try.prog 77 #[.agg #[.string x.name, .int .i64 x.pos, .slice x.hops.p x.hops.l.length x.hops.cap]] w fun e w' => ∃ y : Pth, e = .returned (.agg #[.string y.name, .int .i64 y.pos, .slice y.hops.p y.hops.l.length y.hops.cap]) ∧ y.er = x.er ∧ y.flat ∧ hopsLie (fresh w.heap.size w') y.hops ∧ Below w.heap.size w w' :=
  (path_any x w hl).mono fun e w' ⟨v, he, ho, hb⟩ => by
    obtain ⟨t, rfl, ht, hlie⟩ := hops_lie ho hl.1
    exact ⟨⟨x.name, 0, t⟩, he, by simp only [Pth.er, (hops_er ht).1], ⟨rfl, (hops_er ht).2⟩, hlie, hb⟩
theorem value_new (x : Vl) (w : World) (hl : vlLies w x) :
    Calls Try.prog 78 #[.agg #[.int .i64 x.kind, .int .i64 x.pos, .string x.path.name, .int .i64 x.path.pos, .slice x.path.hops.p x.path.hops.l.length x.path.hops.cap, .string x.type, .string x.left.name, .int .i64 x.left.n, .int .i64 x.left.pos, .string x.right.name, .int .i64 x.right.n, .int .i64 x.right.pos]] w fun e w' => ∃ y : Vl, e = .returned (.agg y.cells.toArray) ∧ y.er = x.er ∧ y.flat ∧ vlLies (fresh w.heap.size w') y ∧ Below w.heap.size w w' :=
  (value_any x w hl).mono fun e w' ⟨v, he, ho, hb⟩ => by
    obtain ⟨t, rfl, ht, hlie⟩ := hops_lie ho hl.1
    exact ⟨⟨x.kind, 0, ⟨x.path.name, 0, t⟩, x.type, ⟨x.left.name, x.left.n, 0⟩, ⟨x.right.name, x.right.n, 0⟩⟩, he, by simp only [Vl.er, Pth.er, Tm.er, (hops_er ht).1], ⟨rfl, ⟨rfl, (hops_er ht).2⟩, rfl, rfl⟩, hlie, hb⟩

end Go.Proofs.Ytpbjnjnmbglllaa
