/-
  DERIVED. Plain: the reach, layer by layer, as the program looks for it.
-/
import Derived.Test.YtmhpaacjioeknaaGreatTo
namespace Go.Proofs.YtmhpaacjioeknaaGreat
namespace Tj

/-- fs were found, nw of them in this round; os of the layer are still to follow. -/
structure Ly (XS : List (List Int)) (i : Nat) (bs : List Bool) (fs os nw : List Int) : Prop where
  len : bs.length = XS.length
  nod : fs.Nodup
  mem : ∀ c : Nat, bs[c]? = some true ↔ (c : Int) ∈ fs
  rt : ∀ x ∈ fs, ∃ c : Nat, x = (c : Int) ∧ c < XS.length ∧ Rt XS i c
  opn : ∀ x ∈ os, ∃ c : Nat, x = (c : Int) ∧ c < XS.length ∧ (c = i ∨ Rt XS i c)
  clo : ∀ c : Nat, (c = i ∨ (c : Int) ∈ fs) → (c : Int) ∈ nw ∨ (c : Int) ∈ os ∨ ∀ e ∈ XS.getD c [], e ∈ fs
theorem Ly.start {XS : List (List Int)} {i : Nat} (hi : i < XS.length) : Ly XS i (List.replicate XS.length false) [] [(i : Int)] [] := by
  refine ⟨by simp, List.nodup_nil, fun c => ?_, by simp, fun x hx => ⟨i, by simpa using hx, hi, .inl rfl⟩, fun c hc => ?_⟩
  · rw [List.getElem?_replicate]
    split <;> simp
  · rcases hc with rfl | hc
    · exact .inr (.inl (by simp))
    · cases hc
theorem Ly.hit {XS : List (List Int)} {i : Nat} {bs : List Bool} {fs os nw : List Int} (h : Ly XS i bs fs os nw) {x t : Nat} (hx : (x : Int) ∈ os) (ht : (t : Int) ∈ XS.getD x []) (hn : t < XS.length) (hb : bs[t]? = some false) :
    Ly XS i (bs.set t true) (fs ++ [(t : Int)]) os (nw ++ [(t : Int)]) := by
  have htl : t < bs.length := by rw [h.len]; exact hn
  have hno : (t : Int) ∉ fs := fun q => by rw [(h.mem t).2 q] at hb; cases hb
  have hset : ∀ d : Nat, (bs.set t true)[d]? = some true ↔ d = t ∨ bs[d]? = some true := by
    intro d
    by_cases hd : d = t
    · subst hd; rw [List.getElem?_set_self htl]; simp
    · rw [List.getElem?_set_ne (fun e => hd e.symm)]; simp [hd]
  have hrt : Rt XS i t := by
    obtain ⟨c, hc, -, hr⟩ := h.opn _ hx
    have : c = x := by omega
    subst this
    rcases hr with rfl | hr
    · exact .one t ht
    · exact .step c t hr ht
  refine ⟨by rw [List.length_set]; exact h.len, ?_, fun c => ?_, ?_, h.opn, fun c hc => ?_⟩
  · rw [List.nodup_append]
    exact ⟨h.nod, by simp, fun a ha b hb2 e => by simp at hb2; subst e; rw [hb2] at ha; exact hno ha⟩
  · rw [hset, h.mem, List.mem_append, List.mem_singleton]
    constructor
    · rintro (rfl | q)
      · exact .inr rfl
      · exact .inl q
    · rintro (q | q)
      · exact .inr q
      · exact .inl (by omega)
  · intro y hy
    rcases List.mem_append.1 hy with q | q
    · exact h.rt y q
    · simp at q; exact ⟨t, q, hn, hrt⟩
  · have : c = t ∨ (c = i ∨ (c : Int) ∈ fs) := by
      rcases hc with q | q
      · exact .inr (.inl q)
      · rcases List.mem_append.1 q with q | q
        · exact .inr (.inr q)
        · simp at q; exact .inl (by omega)
    rcases this with rfl | q
    · exact .inl (by simp)
    · rcases h.clo c q with q | q | q
      · exact .inl (by simp [q])
      · exact .inr (.inl q)
      · exact .inr (.inr fun e he => by simp [q e he])
theorem Ly.next {XS : List (List Int)} {i x : Nat} {bs : List Bool} {fs os nw : List Int} (h : Ly XS i bs fs ((x : Int) :: os) nw) (ha : ∀ e ∈ XS.getD x [], e ∈ fs) : Ly XS i bs fs os nw := by
  refine ⟨h.len, h.nod, h.mem, h.rt, fun y hy => h.opn y (by simp [hy]), fun c hc => ?_⟩
  rcases h.clo c hc with q | q | q
  · exact .inl q
  · rcases List.mem_cons.1 q with q | q
    · have : c = x := by omega
      subst this
      exact .inr (.inr ha)
    · exact .inr (.inl q)
  · exact .inr (.inr q)
theorem Ly.turn {XS : List (List Int)} {i : Nat} {bs : List Bool} {fs nw : List Int} (h : Ly XS i bs fs [] nw) (hs : ∀ x ∈ nw, x ∈ fs) : Ly XS i bs fs nw [] := by
  refine ⟨h.len, h.nod, h.mem, h.rt, fun x hx => ?_, fun c hc => ?_⟩
  · obtain ⟨c, h1, h2, h3⟩ := h.rt x (hs x hx)
    exact ⟨c, h1, h2, .inr h3⟩
  · rcases h.clo c hc with q | q | q
    · exact .inr (.inl q)
    · cases q
    · exact .inr (.inr q)
theorem Ly.end_ {XS : List (List Int)} {i : Nat} {bs : List Bool} {fs : List Int} (h : Ly XS i bs fs [] []) (c : Nat) : (c : Int) ∈ fs ↔ Rt XS i c := by
  have hall : ∀ d : Nat, (d = i ∨ (d : Int) ∈ fs) → ∀ e ∈ XS.getD d [], e ∈ fs := fun d hd => by
    rcases h.clo d hd with q | q | q
    · cases q
    · cases q
    · exact q
  constructor
  · intro q
    obtain ⟨d, h1, -, h3⟩ := h.rt _ q
    have : d = c := by omega
    subst this
    exact h3
  · intro hr
    induction hr with
    | one d hd => exact hall i (.inl rfl) _ hd
    | step a d _ hd ih => exact hall a (.inr ih) _ hd
theorem Ly.short {XS : List (List Int)} {i : Nat} {bs : List Bool} {fs os nw : List Int} (h : Ly XS i bs fs os nw) : fs.length ≤ XS.length :=
  nodup_len h.nod (fun x hx => by obtain ⟨c, h1, h2, -⟩ := h.rt x hx; exact ⟨c, h1, h2⟩)
end Tj
end Go.Proofs.YtmhpaacjioeknaaGreat
