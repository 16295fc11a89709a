/-
  DERIVED. The walks of Free, New, Add.
-/
import Derived.Test.YtocgallcmgnmgaaQl
namespace Go.Proofs.Ytocgallcmgnmgaa
open Go.RowKit Go.Maps

set_option maxHeartbeats 800000 in
set_option maxRecDepth 100000 in
theorem free_no (q : Value) (n : Nat) (c : Int) (w : World) (hL : LenIs w q n) (hc : isCell n c = false) : Calls Try.prog 15 #[q, .int .i64 c] w fun e w' => e = .returned (.int .i64 1) ∧ w = w' := by
  have HA := Lib.hid (alive_no c n q w hc hL)
  clear hL hc
  unfold noCell at HA
  go_enter Try.func15, Try.ntmps15
  go_wp2_with (go_at_call 26; refine HA.out.mono ?_; rintro e w' ⟨rfl, rfl⟩)
  go_ret
  exact ⟨rfl, rfl⟩
theorem freeE_of {cs : List PC} {c k : Int} (h : faultC cs c = k) : freeE cs c = if k = 2 then 3 else k := by unfold freeE; rw [h]
/-- The row with one cell freed. -/
theorem free_row {F g cap : Nat} {w w' : World} {R : Nat → Prop} {cur cur' : Array Value} {fm : Nat → Option Nat} {cs : List PC} {i : Nat} {x : PC}
    (ha : (HeldK F).At w R g cap cur fm cs) (hl : ∀ k, R k → k < w.heap.size) (hi : cs[i]? = some x) (hg : w.grownBy w' (some g)) (hrow : Bk w' g 59 cur') (hsz : cur'.size = cur.size)
    (hin : ∀ j, j < 11 → cur'[i * 11 + j]? = (hcells (freed F x) none)[j]?) (hout : ∀ j, (j < i * 11 ∨ i * 11 + 11 ≤ j) → cur'[j]? = cur[j]?) :
    ∃ fm', (HeldK F).At w' R g cap cur' fm' (cs.set i (freed F x)) ∧ Stp w w' R R :=
  ⟨_, ha.put (S := fun k => some k = some g) (b' := none) hi (Gr.of_grown hg) hrow hsz hin hout ⟨by simp [freed, zeros], fun k => by show okI ((zeros F).getD k 0); rw [zeros_at]; rfl, fun k _ => zeros_at F k⟩ (fun k _ hk => .inl (by injection hk)) (fun _ h => h) hl (.inr (.inl rfl)), grownBy_stp hg ha.mine hl⟩
theorem at_zeros {c : PC} {F : Nat} (h : c.to = zeros F) (k : Nat) : c.at k = 0 := by unfold PC.at; rw [h]; exact zeros_at F k

set_option maxHeartbeats 3200000 in
set_option maxRecDepth 100000 in
theorem free_any (F b : Nat) (R : Nat → Prop) (cs : List PC) (v : Value) (c : Int) (w : World) (h : HIs w b R F cs v) (hn : cs.length ≤ maxLen) :
    Calls Try.prog 15 #[hp b, .int .i64 c] w (HPost F w b R (freeC F cs c) (.int .i64 (freeE cs c))) := by
  have hsame : ∀ k, HPost F w b R cs (.int .i64 k) (.returned (.int .i64 k)) w := fun k => ⟨rfl, R, v, h, HStp.refl _ _ _⟩
  rcases fault_ways cs c with ⟨hno, hf⟩ | ⟨i, x, rfl, hi, hil, hw⟩
  · rw [freeC_no F cs c (by rw [hf]; decide), freeE_of hf, if_neg (by decide)]
    refine (free_no _ _ c w h.len hno).mono ?_
    rintro e w' ⟨rfl, rfl⟩
    exact hsame _
  · obtain ⟨g, cap, cur, fm, rfl, ha⟩ := At.sl h.lie hi
    have hA := alive_at b R F cs _ _ g cap cur fm i x w h.top ha hi hil hn
    rcases hw with ⟨hx, hf⟩ | ⟨hx, hf⟩
    · rw [freeC_no F cs _ (by rw [hf]; decide), freeE_of hf, if_pos rfl]
      rw [hx, if_pos rfl] at hA
      have HA := Lib.hid hA
      have HE := Lib.hid (hsame 3)
      clear h ha hi hA hx hf hsame
      unfold noCell at HA
      go_enter Try.func15, Try.ntmps15
      go_wp2_with (go_at_call 26; refine HA.out.mono ?_; rintro e w' ⟨rfl, rfl⟩)
      go_ret
      exact HE.out
    · rw [hx, if_neg (by decide)] at hA
      have HA := Lib.hid hA
      rw [freeC_at F cs i x hi hx, freeE_of hf, if_neg (by decide)]
      have hcs : i * 11 + 11 ≤ cur.size := by
        have h1 := ha.size; have h2 := ha.room
        have : (HeldK F).sz = 11 := rfl
        rw [this] at h1
        have := Nat.mul_le_mul_right 11 (Nat.le_trans (Nat.succ_le_of_lt hil) h2)
        omega
      have e0 : w.cell? ⟨g, i * 11, none⟩ = some (.int .i64 x.ty) := ha.at_cell hi 0 _ rfl
      obtain ⟨ar, har⟩ : ∃ ar : Array Value, ar = (hcells (freed F x) none).toArray := ⟨_, rfl⟩
      have har' : ar = #[.int .i64 x.ty, .bool true, .int .i64 0, .int .i64 0, .int .i64 0, .int .i64 0, .int .i64 0, .int .i64 0, .int .i64 0, .int .i64 0, .map none] := by
        rw [har]; unfold hcells; simp only [at_zeros (c := freed F x) (F := F) rfl]; rfl
      have HSZ : Hid ((Try.prog.info? 59).map (·.size) = some ar.size) := Lib.hid (by rw [har']; exact size59)
      have hsz : ar.size = 11 := by rw [har']; rfl
      have HC : Hid (i * 11 + ar.size ≤ cur.size) := Lib.hid (by rw [hsz]; exact hcs)
      have HON : Hid (ar.all (·.oneCell') = true) := Lib.hid (by rw [har']; simp [Value.oneCell'])
      have hrow : Bk w g 59 cur := ha.row
      have HR := Lib.hid hrow
      have hE : ∀ w' cur', Bk w' g 59 cur' → cur'.size = cur.size → (∀ j, j < ar.size → cur'[i * 11 + j]? = ar[j]?) → (∀ j, (j < i * 11 ∨ i * 11 + ar.size ≤ j) → cur'[j]? = cur[j]?) → w.grownBy w' (some g) → HPost F w b R (cs.set i (freed F x)) (.int .i64 0) (.returned (.int .i64 0)) w' := by
        intro w' cur' h1 h2 h3 h4 h5
        obtain ⟨fm', ha', hst⟩ := free_row ha h.lie.1 hi h5 h1 h2 (fun j hj => by rw [h3 j (by omega), har]; simp) (fun j hj => h4 j (by omega))
        exact ⟨rfl, R, _, ⟨hst.gr.bk h.top h.out, h.out, ⟨hst.lt, .inr ⟨g, cap, cur', fm', by rw [List.length_set], ha'⟩⟩⟩, HStp.of hst⟩
      have HE := Lib.hid hE
      have HAR := Lib.hid har'
      clear h ha hi hA hx hf hsame hcs har har' hsz hrow hE
      go_enter Try.func15, Try.ntmps15
      go_wp2_with (first | (go_at_call 26; refine HA.out.mono ?_; rintro e w' ⟨rfl, rfl⟩) | ((with_reducible show wpList _ _ _ (Oper.mk none (Op.store _ _ _) _ _ _ _ :: _) _ _); refine wpList_store_part rfl 59 (.tmp 24) (.tmp 23) rfl g (i * 11) 59 cur ar rfl (by rw [HAR.out]; rfl) HR.out HSZ.out HC.out HON.out ?_; intro w2 cur2 h1 h2 h3 h4 h5; have HZ := Lib.hid (HE.out w2 cur2 h1 h2 h3 h4 h5); clear h1 h2 h3 h4 h5))
      go_ret
      exact HZ.out
end Go.Proofs.Ytocgallcmgnmgaa
