/-
  DERIVED. The walk of a field's addition.
-/
import Derived.Test.YtjkgkigfmcegoaaDe
import Derived.Deep.AppendLies
import Derived.Deep.RegionLaw
namespace Go.Proofs.Ytjkgkigfmcegoaa
open Go.RowKit Go.Sort Go.Maps

theorem own_base {w : World} {B B' : Nat} {e : TypeId} {k : Nat} {v : Value} {n : Nat} {xs : List Value} (h : w.ownsRow B e k v n xs) (hB : B' ≤ B) : w.ownsRow B' e k v n xs := by
  refine ⟨h.1, ?_⟩
  rcases h.2 with h | ⟨g, cap, cur, h1, h2, h3⟩
  · exact .inl h
  · exact .inr ⟨g, cap, cur, h1, by omega, h3⟩
theorem own_setC {w : World} {B : Nat} {e : TypeId} {k : Nat} {v : Value} {n : Nat} {xs : List Value} (h : w.ownsRow B e k v n xs) {a : Addr} (ha : a.block < B) (u : Value) : (w.setCell a u).ownsRow B e k v n xs :=
  h.kept (grownBy_setC w a u) (by
    cases hv : v.ownBlock with
    | none => exact .inl rfl
    | some g => right; intro e; injection e with e; have := (h.lt g hv).1; omega)
theorem own_gr {w w' : World} {B : Nat} {e : TypeId} {k : Nat} {v : Value} {n : Nat} {xs : List Value} {S : Nat → Prop} (h : w.ownsRow B e k v n xs) (hg : Gr w w' S) (hS : ∀ i, B ≤ i → i < w.heap.size → ¬ S i) : w'.ownsRow B e k v n xs := by
  refine ⟨h.1, ?_⟩
  rcases h.2 with h | ⟨g, cap, cur, h1, h2, h3, h4⟩
  · exact .inl h
  · have hlt : g < w.heap.size := (Array.getElem?_eq_some_iff.1 h3).1
    exact .inr ⟨g, cap, cur, h1, h2, (hg.block g hlt (hS g h2 hlt)).trans h3, h4⟩
theorem pcells_snoc (l : List (Int × Int)) (x : Int × Int) : pcells (l ++ [x]) = pcells l ++ [.int .i64 x.1, .int .i64 x.2] := by simp [pcells]

def fieldE (sn : List ByteArray) (hv : List (Int × ByteArray)) (o : Int) (f : Dc) : Int :=
  if addE 8 hv (o, f.name) = 0 then (if f.type.toList.isEmpty = true then 9 else if isIn sn f.type = true then 0 else 8) else addE 8 hv (o, f.name)
/-- What a field's addition leaves. -/
def AfPost (sn : List ByteArray) (hv : List (Int × ByteArray)) (o : Nat) (f : Dc) (M base : Nat) (e v : Value) (el : List (Int × Int)) (w : World) (en : Ending) (w' : World) : Prop :=
  en = .returned (.int .i64 (fieldE sn hv o f)) ∧
  (fieldE sn hv o f = 0 → ∃ e', Bk w' (M + 4) 57 (tcells M e' v) ∧ Roll byMember w' (M + 1) (hv ++ [((o : Int), f.name)]) ∧ w'.ownsRow base 42 2 e' (el ++ [((o : Int), numOf sn f.type)]).length (pcells (el ++ [((o : Int), numOf sn f.type)]))) ∧
  Gr w w' (fun k => k = M + 1 ∨ k = M + 4 ∨ some k = e.ownBlock)

theorem zinfo42 : (Try.prog.info? 42).map (fun i => (i.zero, i.size, i.bytes)) = some (some (.agg #[.int .i64 0, .int .i64 0]), 2, 16) := by kernel_rfl
theorem zinfo81 : (Try.prog.info? 81).map (fun i => (i.zero, i.size, i.bytes)) = some (some (.agg #[.int .i64 0, .int .i64 0]), 2, 16) := by kernel_rfl
theorem two_one (a b : Int) : ∀ u ∈ [Value.int .i64 a, .int .i64 b], u.oneCell' = true := by simp [Value.oneCell']

set_option maxHeartbeats 3200000 in
set_option maxRecDepth 100000 in
theorem addField_any (o : Nat) (f : Dc) (sn : List ByteArray) (hv : List (Int × ByteArray)) (M base : Nat) (e v : Value) (el : List (Int × Int)) (w : World) (hf : dcOk f) (ho : o ≤ 1048576) (hel : el.length ≤ 1048576) (hbase : M + 4 < base) (hbw : base ≤ w.heap.size)
    (hT : Bk w (M + 4) 57 (tcells M e v)) (hS : Roll byName w M sn) (hR : Roll byMember w (M + 1) hv) (hE : w.ownsRow base 42 2 e el.length (pcells el)) :
    Calls Try.prog 35 #[tptr M, .int .i64 o, .agg #[.string f.type, .string f.name, .int .i64 f.pos]] w (AfPost sn hv o f M base e v el w) := by
  have HG1 : Hid (Gr w (w.alloc (.cells #[.string f.type, .string f.name, .int .i64 f.pos] 46)) (fun k => k = M + 1 ∨ k = M + 4 ∨ some k = e.ownBlock)) := Lib.hid ((Gr.refl _ _).alloc _)
  have HP : Hid (Gr w (w.alloc (.cells #[.string f.type, .string f.name, .int .i64 f.pos] 46)) (fun _ => False)) := Lib.hid ((Gr.refl _ _).alloc _)
  have HT1 : Hid (Bk (w.alloc (.cells #[.string f.type, .string f.name, .int .i64 f.pos] 46)) (M + 4) 57 (tcells M e v)) := Lib.hid (HP.out.bk hT (fun h => h))
  have HS1 : Hid (Roll byName (w.alloc (.cells #[.string f.type, .string f.name, .int .i64 f.pos] 46)) M sn) := Lib.hid (HP.out.roll hS (fun h => h))
  have HR1 : Hid (Roll byMember (w.alloc (.cells #[.string f.type, .string f.name, .int .i64 f.pos] 46)) (M + 1) hv) := Lib.hid (HP.out.roll hR (fun h => h))
  have HE1 : Hid ((w.alloc (.cells #[.string f.type, .string f.name, .int .i64 f.pos] 46)).ownsRow base 42 2 e el.length (pcells el)) := Lib.hid (own_gr hE HP.out (fun _ _ _ h => h))
  have HBX : Hid (Bk (w.alloc (.cells #[.string f.type, .string f.name, .int .i64 f.pos] 46)) w.heap.size 46 #[.string f.type, .string f.name, .int .i64 f.pos]) := Lib.hid (heap_alloc_new _ _)
  have hwf : (Lit.int .i64 (o : Int)).wf = true := WalkArith.wf_i64 (by omega)
  have HA : Hid (Calls Try.prog 38 #[.map (some (M + 1)), .agg #[.int .i64 o, .string f.name], .int .i64 8] (w.alloc (.cells #[.string f.type, .string f.name, .int .i64 f.pos] 46)).drew (Added byMember 8 (w.alloc (.cells #[.string f.type, .string f.name, .int .i64 f.pos] 46)).drew (M + 1) hv ((o : Int), f.name))) :=
    Lib.hid (addM_any ((o : Int), f.name) (M + 1) 8 hv _ (HR1.out.same rfl) ⟨hwf, hf.2⟩ (by decide))
  have HF := Lib.hid hf
  have HM : Hid (M + 4 < w.heap.size) := Lib.hid hT.lt
  have HEL : Hid (∀ g, e.ownBlock = some g → base ≤ g ∧ g < w.heap.size) := Lib.hid hE.lt
  have HBW := Lib.hid hbw
  have HBS := Lib.hid hbase
  obtain ⟨i0, hi0, hz0, hz1, hz2⟩ := info_parts zinfo42
  have HI := Lib.hid hi0; have HZ0 := Lib.hid hz0; have HZ1 := Lib.hid hz1; have HZ2 := Lib.hid hz2
  clear hf hT hS hR hE hwf hbw hbase hi0 hz0 hz1 hz2
  have k1 := HBX.out.cell 1
  replace k1 : (w.alloc (.cells #[.string f.type, .string f.name, .int .i64 f.pos] 46)).cell? ⟨w.heap.size, 1, none⟩ = some (.string f.name) := k1
  have t1 : (w.alloc (.cells #[.string f.type, .string f.name, .int .i64 f.pos] 46)).cell? ⟨M + 4, 1, none⟩ = some (.map (some (M + 1))) := HT1.out.cell 1
  unfold tptr
  go_enter Try.func35, Try.ntmps35
  go_wp2_with fail
  generalize w.alloc (.cells #[.string f.type, .string f.name, .int .i64 f.pos] 46) = wB at HG1 HP HT1 HS1 HR1 HE1 HBX HA k1 t1 ⊢
  go_still_tail 8, (by kernel_rfl)
  change wpList _ _ _ _ _ wB.drew
  go_wp2_with fail
  refine HA.out.mono ?_; rintro en w2 ⟨rfl, hr2, hg2⟩
  have HR2 := Lib.hid hr2
  have HG2 : Hid (Gr w w2 (fun k => k = M + 1 ∨ k = M + 4 ∨ some k = e.ownBlock)) := Lib.hid (HG1.out.drew.grown hg2 (fun i _ e => by injection e with e; exact .inl e))
  have HN2 : Hid (Gr wB w2 (fun k => k = M + 1)) := Lib.hid (((Gr.refl wB _).drew).grown hg2 (fun i _ e => by injection e))
  have HT2 : Hid (Bk w2 (M + 4) 57 (tcells M e v)) := Lib.hid (HN2.out.bk HT1.out (by omega))
  have HS2 : Hid (Roll byName w2 M sn) := Lib.hid (HN2.out.roll HS1.out (by omega))
  have HE2 : Hid (w2.ownsRow base 42 2 e el.length (pcells el)) := Lib.hid (own_gr HE1.out HN2.out (fun i hi _ h => by have := HBS.out; omega))
  have HBX2 : Hid (Bk w2 w.heap.size 46 #[.string f.type, .string f.name, .int .i64 f.pos]) := Lib.hid (HN2.out.bk HBX.out (by have := HM.out; omega))
  have g0 : w2.cell? ⟨w.heap.size, 0, none⟩ = some (.string f.type) := HBX2.out.cell 0
  clear hr2 hg2 k1 t1
  by_cases he : addE 8 hv ((o : Int), f.name) = 0
  · have HX := Lib.hid he
    rw [he]
    clear he
    cases hty : f.type.toList.isEmpty
    · have hty' : (f.type.toList == []) = false := by cases hh : f.type.toList <;> simp_all
      have h0 : w2.cell? ⟨M + 4, 0, none⟩ = some (.map (some M)) := HT2.out.cell 0
      have HST := Lib.hid (struct_any f.type (M + 4) M sn w2 h0 HS2.out HF.out.1)
      clear h0
      cases hin : isIn sn f.type
      · have HFE : Hid (fieldE sn hv o f = 8) := Lib.hid (by unfold fieldE; rw [if_pos HX.out, hty, hin]; rfl)
        rw [hin] at HST
        clear hin
        go_wp2_with (go_at_call 13; refine HST.out.mono ?_; rintro en w' ⟨rfl, rfl⟩)
        go_ret
        exact ⟨by rw [HFE.out]; rfl, fun h => absurd (HFE.out.symm.trans h) (by decide), HG2.out⟩
      · have HFE : Hid (fieldE sn hv o f = 0) := Lib.hid (by unfold fieldE; rw [if_pos HX.out, hty, hin]; rfl)
        rw [hin] at HST
        clear hin
        have HFX : Hid (f.type.toList.isEmpty = false) := Lib.hid hty
        have k2 : w2.cell? ⟨M + 4, 2, none⟩ = some e := HT2.out.cell 2
        have HSZ : Hid (w.heap.size < w2.heap.size) := Lib.hid HBX2.out.lt
        have HOA : Hid ((w2.alloc (.cells #[.int .i64 o, .int .i64 (numOf sn f.type)] 42)).ownsRow base 42 2 e el.length (pcells el)) := Lib.hid (HE2.out.alloc _)
        go_wp2_with (first
          | (go_at_call 13; refine HST.out.mono ?_; rintro en w' ⟨rfl, rfl⟩)
          | (at_builtin; go_must (refine wpList_append_lies _ rfl (.tmp 38) (.tmp 42) 33 rfl base 42 i0 (.agg #[.int .i64 0, .int .i64 0]) 2 16 Try.underlying33 HI.out HZ0.out HZ1.out HZ2.out rfl (by decide) e el.length (pcells el) rfl HOA.out ⟨w2.heap.size, 0, none⟩ 1 1 [.int .i64 o, .int .i64 (numOf sn f.type)] rfl rfl (World.news_of_block (heap_alloc_new _ _)) (two_one _ _) (by decide) (by unfold maxLen; omega) (by omega) (by have := HBW.out; have := HSZ.out; simp; omega) _ rfl ?_); intro g cap w3 hown3 hgrow3 hat3 hlt3; have HO3 := Lib.hid hown3; have HG3 := Lib.hid hgrow3; have HN3 : Hid (Gr w2 w3 (fun k => some k = e.ownBlock)) := Lib.hid (((Gr.refl w2 _).alloc _).grown hgrow3 (fun i _ e => e)); have HT3 : Hid (Bk w3 (M + 4) 57 (tcells M e v)) := Lib.hid (HN3.out.bk HT2.out (fun e => by have := (HEL.out _ e.symm).1; have := HBS.out; omega)); have d2 : w3.cell? ⟨M + 4, 2, none⟩ = some e := HT3.out.cell 2; have f2 : w3.frozen? ⟨M + 4, 2, none⟩ = false := HT3.out.frozen 2; have HR3 : Hid (Roll byMember w3 (M + 1) (addL 8 hv ((o : Int), f.name))) := Lib.hid (HN3.out.roll HR2.out (fun e => by have := (HEL.out _ e.symm).1; have := HBS.out; omega)); clear hown3 hgrow3 hat3 hlt3))
        go_ret
        have hR4 : Roll byMember (w3.setCell ⟨M + 4, 2, none⟩ (.slice (some ⟨g, 0, none⟩) (el.length + 1) cap)) (M + 1) (hv ++ [((o : Int), f.name)]) := by
          have := ((Gr.refl w3 (fun k => k = M + 4)).setCell (p := ⟨M + 4, 2, none⟩) (fun _ => rfl) (.slice (some ⟨g, 0, none⟩) (el.length + 1) cap)).roll HR3.out (by omega)
          unfold addL at this
          rwa [if_pos HX.out] at this
        refine ⟨by rw [HFE.out]; rfl, fun _ => ⟨.slice (some ⟨g, 0, none⟩) (el.length + 1) cap, HT3.out.set_ 2 _, hR4, ?_⟩, ?_⟩
        · have := own_setC HO3.out (a := ⟨M + 4, 2, none⟩) HBS.out (.slice (some ⟨g, 0, none⟩) (el.length + 1) cap)
          rw [pcells_snoc, List.length_append]
          exact this
        · exact ((HG2.out.then HN3.out (fun i _ h => .inr (.inr h))).setCell (fun _ => .inr (.inl rfl)) _)
    · have hty' : f.type.toList = [] := by cases hh : f.type.toList <;> simp_all
      have HFE : Hid (fieldE sn hv o f = 9) := Lib.hid (by unfold fieldE; rw [if_pos HX.out, hty]; rfl)
      go_wp2_with fail
      go_ret
      exact ⟨by rw [HFE.out]; rfl, fun h => absurd (HFE.out.symm.trans h) (by decide), HG2.out⟩
  · have hne := addE_pos he
    have HFE : Hid (fieldE sn hv o f = addE 8 hv ((o : Int), f.name)) := Lib.hid (by unfold fieldE; rw [if_neg he])
    have HX := Lib.hid he
    clear he
    go_wp2_with fail
    go_ret
    exact ⟨by rw [HFE.out]; rfl, fun h => absurd (HFE.out.symm.trans h) HX.out, HG2.out⟩
end Go.Proofs.Ytjkgkigfmcegoaa
