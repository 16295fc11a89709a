/-
  DERIVED. The document's Text; the walk of the law ActionTexts.
-/
import Derived.Test.YtkieiclionkllaaDoorGh
import Derived.Test.YtkieiclionkllaaDoorGi
import Derived.Test.YtkieiclionkllaaDoorGj
import Derived.Test.YtkieiclionkllaaDoorEe
namespace Go.Proofs.YtkieiclionkllaaDoor
open Go.RowKit Go.Sort
open Ac
attribute [local go_sem ↓] eql_same

set_option maxHeartbeats 800000 in
set_option maxRecDepth 100000 in
theorem rtext_no (a : Acn) (hr : rights a = false) (w : World) : Calls Tryd.prog 8 #[.agg a.cs] w fun e w' => e = .returned (.string (bt (text a))) ∧ Below w.heap.size w w' := by
  have HR : Hid (bt (text a) = ⟨#[]⟩) := Lib.hid (by rw [(text_ne a).2 hr]; rfl)
  have HB0 : Hid (Bk (w.alloc (.cells a.cs 25)) w.heap.size 25 a.cs) := Lib.hid (heap_alloc_new _ _)
  have HBA : Hid (Below w.heap.size w (w.alloc (.cells a.cs 25))) := Lib.hid ((Below.refl _ _).alloc (Nat.le_refl _) _)
  have CR := Lib.hid (rright_any a (w.alloc (.cells a.cs 25)))
  rw [hr] at CR
  clear hr
  go_enter Tryd.func8, Tryd.ntmps8
  go_upto_region 1 with fail
  generalize w.alloc (.cells a.cs 25) = w1 at HB0 HBA CR ⊢
  go_wp2_with (first
    | ((with_reducible show wpList _ _ _ (Oper.mk _ (Op.load 25 _) _ _ _ _ :: _) _ _); refine wpList_load_bk rfl 25 _ rfl w.heap.size 25 a.cs rfl _ HB0.out Tryd.underlying25 rfl size25 ?_)
    | (go_at_call 6; refine CR.out.mono ?_; rintro e w2 ⟨rfl, hb⟩; have HB2 := Lib.hid hb; clear hb))
  go_ret
  exact ⟨ret_text HR.out.symm, HBA.out.trans (HB2.out.mono HBA.out.size)⟩
theorem rtext_any (a : Acn) (w : World) : Calls Tryd.prog 8 #[.agg a.cs] w fun e w' => e = .returned (.string (bt (text a))) ∧ Below w.heap.size w w' := by
  cases hr : rights a
  · exact rtext_no a hr w
  obtain ⟨h1, h2, _⟩ := rights_k hr
  have hB := bounds a hr
  have hop : a.op = 0 ∨ a.op = 1 ∨ a.op = 2 := by have := hB.op; omega
  have hk : a.kind = 0 ∨ a.kind = 1 ∨ a.kind = 2 ∨ a.kind = 3 ∨ a.kind = 4 ∨ a.kind = 5 ∨ a.kind = 6 ∨ a.kind = 7 ∨ a.kind = 8 ∨ a.kind = 9 ∨ a.kind = 10 ∨ a.kind = 11 ∨ a.kind = 12 := by omega
  rcases hk with hk | hk | hk | hk | hk | hk | hk | hk | hk | hk | hk | hk | hk
  · exact rtext_0 a hk hr w
  · exact rtext_1 a hk hr w
  · exact rtext_2 a hk hr w
  · exact rtext_3 a hk hr w
  · exact rtext_4 a hk hr w
  · exact rtext_5 a hk hr w
  · exact rtext_6 a hk hr w
  · exact rtext_7 a hk hr w
  · cases hs : a.sense
    · exact rtext_8_f a hk hs hr w
    · exact rtext_8_t a hk hs hr w
  · cases hs : a.sense
    · exact rtext_9_f a hk hs hr w
    · exact rtext_9_t a hk hs hr w
  · exact rtext_10 a hk hr w
  · rcases hop with ho | ho | ho
    · exact rtext_11_0 a hk ho hr w
    · exact rtext_11_1 a hk ho hr w
    · exact rtext_11_2 a hk ho hr w
  · have h1 := hB.o12 hk
    rcases hop with ho | ho | ho
    · cases hs : a.sense
      · exact rtext_12_0_f a hk ho hs hr w
      · exact rtext_12_0_t a hk ho hs hr w
    · cases hs : a.sense
      · exact rtext_12_1_f a hk ho hs hr w
      · exact rtext_12_1_t a hk ho hs hr w
    · omega
set_option maxHeartbeats 3200000 in
set_option maxRecDepth 100000 in
theorem texts_any (a : Acn) (ho : a.ok) (w : World) (hG : Gl w) : Calls Tryd.prog 3 #[.agg a.cs] w fun e w' => e = .returned (.bool true) ∧ Below w.heap.size w w' := by
  have HB0 : Hid (Bk (w.alloc (.cells a.cs 25)) w.heap.size 25 a.cs) := Lib.hid (heap_alloc_new _ _)
  have HBA : Hid (Below w.heap.size w (w.alloc (.cells a.cs 25))) := Lib.hid ((Below.refl _ _).alloc (Nat.le_refl _) _)
  have HGA : Hid (Gl (w.alloc (.cells a.cs 25))) := Lib.hid (hG.below HBA.out (by have := hG.big; omega))
  have HS : Hid (11 ≤ (w.alloc (.cells a.cs 25)).heap.size) := Lib.hid (by have := hG.big; simp; omega)
  have HO := Lib.hid ho
  clear hG ho
  go_enter Tryd.func3, Tryd.ntmps3
  go_upto_region 1 with fail
  generalize w.alloc (.cells a.cs 25) = w1 at HB0 HBA HGA HS ⊢
  have HGX : Hid (∀ dd os, Gl (grow (redrawn w1 dd) os)) := Lib.hid (fun dd os => HGA.out.below (below_regrown w1 dd os) HS.out)
  have hte : ((bt (text a)).toList == (bt (text a)).toList) = true := by simp
  have c5 : ∀ dd os, Calls Tryd.prog 5 #[.agg a.cs] (grow (redrawn w1 dd) os) fun en w'' => en = .returned (.bool (rights a)) ∧ ∃ p : Regrown, w'' = grow (redrawn w1 p.d) p.os := fun dd os => Calls.regrown_of (right_any a _ (HGX.out dd os))
  have c6 : ∀ dd os, Calls Tryd.prog 6 #[.agg a.cs] (grow (redrawn w1 dd) os) fun en w'' => en = .returned (.bool (rights a)) ∧ ∃ p : Regrown, w'' = grow (redrawn w1 p.d) p.os := fun dd os => Calls.regrown_of (rright_any a _)
  have c7 : ∀ dd os, Calls Tryd.prog 7 #[.agg a.cs] (grow (redrawn w1 dd) os) fun en w'' => en = .returned (.string (bt (text a))) ∧ ∃ p : Regrown, w'' = grow (redrawn w1 p.d) p.os := fun dd os => Calls.regrown_of (text_any a HO.out _ (HGX.out dd os))
  have c8 : ∀ dd os, Calls Tryd.prog 8 #[.agg a.cs] (grow (redrawn w1 dd) os) fun en w'' => en = .returned (.string (bt (text a))) ∧ ∃ p : Regrown, w'' = grow (redrawn w1 p.d) p.os := fun dd os => Calls.regrown_of (rtext_any a _)
  have c9 : ∀ dd os, Calls Tryd.prog 9 #[.agg a.cs] (grow (redrawn w1 dd) os) fun en w'' => en = .returned (.bool (branch a)) ∧ ∃ p : Regrown, w'' = grow (redrawn w1 p.d) p.os := fun dd os => Calls.regrown_of (branch_any a _)
  have c10 : ∀ dd os, Calls Tryd.prog 10 #[.agg a.cs] (grow (redrawn w1 dd) os) fun en w'' => en = .returned (.bool (branch a)) ∧ ∃ p : Regrown, w'' = grow (redrawn w1 p.d) p.os := fun dd os => Calls.regrown_of (rbranch_any a _)
  have c11 : ∀ dd os, Calls Tryd.prog 11 #[.agg a.cs] (grow (redrawn w1 dd) os) fun en w'' => en = .returned (.bool (needs a)) ∧ ∃ p : Regrown, w'' = grow (redrawn w1 p.d) p.os := fun dd os => Calls.regrown_of (needs_any a _)
  have c12 : ∀ dd os, Calls Tryd.prog 12 #[.agg a.cs] (grow (redrawn w1 dd) os) fun en w'' => en = .returned (.bool (needs a)) ∧ ∃ p : Regrown, w'' = grow (redrawn w1 p.d) p.os := fun dd os => Calls.regrown_of (rneeds_any a _)
  have c13 : ∀ dd os, Calls Tryd.prog 13 #[.agg a.cs] (grow (redrawn w1 dd) os) fun en w'' => en = .returned (.agg (Ac.not a).cs) ∧ ∃ p : Regrown, w'' = grow (redrawn w1 p.d) p.os := fun dd os => Calls.regrown_of (not_any a _)
  have c14 : ∀ dd os, Calls Tryd.prog 14 #[.agg a.cs] (grow (redrawn w1 dd) os) fun en w'' => en = .returned (.agg (Ac.not a).cs) ∧ ∃ p : Regrown, w'' = grow (redrawn w1 p.d) p.os := fun dd os => Calls.regrown_of (rnot_any a _)
  have c15 : ∀ dd os, Calls Tryd.prog 15 #[] (grow (redrawn w1 dd) os) fun en w'' => en = .returned (.bool true) ∧ ∃ p : Regrown, w'' = grow (redrawn w1 p.d) p.os := fun dd os => Calls.regrown_of (lives_any _ (HGX.out dd os))
  have HRX : Hid (∀ w', (∃ p : Regrown, w' = grow (redrawn w1 p.d) p.os) → w'.rangeAt w.heap.size 0 a.cs.toList) := Lib.hid (fun w' hw' => by
    obtain ⟨p, rfl⟩ := hw'
    exact (HB0.out.below (below_regrown w1 p.d p.os) HB0.out.lt).range)
  generalize rights a = q at *
  generalize branch a = br at *
  generalize needs a = ne at *
  generalize bt (text a) = t at *
  refine wp_region_quiet_below (by kernel_rfl) (by kernel_rfl) ?_
  repeat (first
    | ((with_reducible show wpQuiet _ _ _ _ (Oper.mk _ (Op.load 25 _) _ _ _ _ :: _) _); refine wpQuiet_load rfl 25 _ rfl w.heap.size 0 rfl a.cs _ HRX.out Tryd.underlying25 rfl size25 ?_; simp only [Act.put, List.setIfInBounds_toArray, List.set_cons_succ, List.set_cons_zero])
    | go_big_quiet_step (first | (with_reducible exact c5 _ _) | (with_reducible exact c6 _ _) | (with_reducible exact c7 _ _) | (with_reducible exact c8 _ _) | (with_reducible exact c9 _ _) | (with_reducible exact c10 _ _) | (with_reducible exact c11 _ _) | (with_reducible exact c12 _ _) | (with_reducible exact c13 _ _) | (with_reducible exact c14 _ _) | (with_reducible exact c15 _ _)))
  refine wpQuiet_nil ?_
  intro _ hw'
  obtain ⟨⟨dq, osq⟩, hw''⟩ := hw'
  subst hw''
  have HB9 := Lib.hid (below_regrown w1 dq osq)
  clear c5 c6 c7 c8 c9 c10 c11 c12 c13 c14 c15
  generalize grow (redrawn w1 dq) osq = w9 at HB9 ⊢
  go_wp2_with fail
  go_ret
  exact ⟨rfl, HBA.out.trans (HB9.out.mono HBA.out.size)⟩
end Go.Proofs.YtkieiclionkllaaDoor
