/-
  DERIVED. The walks of Get, Put, Free.
-/
import Derived.Test.YtocgallcmgnmgaaHh
namespace Go.Proofs.Ytocgallcmgnmgaa
open Go.RowKit Go.Maps

def two (a b : Int) : Value := .tuple #[.int .i64 a, .int .i64 b]
def LenIs (w : World) (q : Value) (n : Nat) : Prop := Calls Try.prog 17 #[q] w fun en w' => en = .returned (.int .i64 n) ∧ w = w'
def getP (w : World) (a b : Int) (e : Ending) (w' : World) : Prop := e = .returned (two a b) ∧ w = w'

set_option maxHeartbeats 800000 in
set_option maxRecDepth 100000 in
theorem get_no (q : Value) (n : Nat) (c f : Int) (w : World) (hL : LenIs w q n) (hc : isCell n c = false) : Calls Try.prog 16 #[q, .int .i64 c, .int .i64 f] w (getP w 0 1) := by
  have HA := Lib.hid (alive_no c n q w hc hL)
  clear hL hc
  unfold noCell at HA
  go_enter Try.func16, Try.ntmps16
  go_wp2_with (go_at_call 26; refine HA.out.mono ?_; rintro e w' ⟨rfl, rfl⟩)
  go_ret2
  exact ⟨rfl, rfl⟩

theorem At.sl {F : Nat} {w : World} {R : Nat → Prop} {v : Value} {cs : List PC} (h : (HeldK F).Lie w R v cs) {i : Nat} {x : PC} (hi : cs[i]? = some x) :
    ∃ g cap cur fm, v = .slice (some ⟨g, 0, none⟩) cs.length cap ∧ (HeldK F).At w R g cap cur fm cs := by
  rcases h.2 with ⟨_, rfl⟩ | ⟨g, cap, cur, fm, hv, ha⟩
  · simp at hi
  · exact ⟨g, cap, cur, fm, hv, ha⟩

set_option maxHeartbeats 1600000 in
set_option maxRecDepth 100000 in
theorem get_any (F b : Nat) (R : Nat → Prop) (cs : List PC) (v : Value) (c f : Int) (w : World) (h : HIs w b R F cs v) (hF : F ≤ 2000000) (hn : cs.length ≤ maxLen) :
    Calls Try.prog 16 #[hp b, .int .i64 c, .int .i64 f] w (getP w (getV F cs c f) (faultC cs c)) := by
  rcases fault_ways cs c with ⟨hno, hf⟩ | ⟨i, x, rfl, hi, hil, hw⟩
  · rw [getV_no F cs c f (.inl (by rw [hf]; decide)), hf]
    exact get_no _ _ c f w h.len hno
  · obtain ⟨g, cap, cur, fm, rfl, ha⟩ := At.sl h.lie hi
    have hA := alive_at b R F cs _ _ g cap cur fm i x w h.top ha hi hil hn
    rcases hw with ⟨hx, hf⟩ | ⟨hx, hf⟩
    · rw [getV_no F cs _ f (.inl (by rw [hf]; decide)), hf]
      rw [hx, if_pos rfl] at hA
      have HA := Lib.hid hA
      clear h ha hi hA hx hf
      unfold noCell at HA
      go_enter Try.func16, Try.ntmps16
      go_wp2_with (go_at_call 26; refine HA.out.mono ?_; rintro e w' ⟨rfl, rfl⟩)
      go_ret2
      exact ⟨rfl, rfl⟩
    · rw [hx, if_neg (by decide)] at hA
      have HA := Lib.hid hA
      cases hfi : isField F f with
      | false =>
        have hB := hasField_any b _ _ F f w h.top
        rw [hfi] at hB
        have HB := Lib.hid hB
        rw [getV_no F cs _ f (.inr hfi), hf]
        clear h ha hi hA hx hf hB hfi
        go_enter Try.func16, Try.ntmps16
        go_wp2_with (first | (go_at_call 26; refine HA.out.mono ?_; rintro e w' ⟨rfl, rfl⟩) | (go_at_call 27; refine HB.out.mono ?_; rintro e w' ⟨rfl, rfl⟩))
        go_ret2
        exact ⟨rfl, rfl⟩
      | true =>
        have hB := hasField_any b _ _ F f w h.top
        rw [hfi] at hB
        have HB := Lib.hid hB
        obtain ⟨k, hk, rfl⟩ := isField_iff.1 hfi
        have hG := leads_any F g (i * 11) x (fm i) k w (ha.range hi) (ha.sub i x hi) hk hF
        rw [getV_at F cs i k x hi hx hk, hf]
        have HG := Lib.hid hG
        clear h ha hi hA hx hf hB hfi hG
        go_enter Try.func16, Try.ntmps16
        go_wp2_with (first | (go_at_call 26; refine HA.out.mono ?_; rintro e w' ⟨rfl, rfl⟩) | (go_at_call 27; refine HB.out.mono ?_; rintro e w' ⟨rfl, rfl⟩) | (go_at_call 29; refine HG.out.mono ?_; rintro e w' ⟨rfl, rfl⟩))
        go_ret2
        exact ⟨rfl, rfl⟩

/-- What a call on a heap leaves. -/
structure HStp (w w' : World) (b : Nat) (R R' : Nat → Prop) : Prop where
  gr : Gr w w' (fun k => k = b ∨ R k)
  sub : ∀ k, R k → R' k
  new : ∀ k, R' k → R k ∨ w.heap.size ≤ k
def HPost (F : Nat) (w : World) (b : Nat) (R : Nat → Prop) (cs : List PC) (ret : Value) (e : Ending) (w' : World) : Prop :=
  e = .returned ret ∧ ∃ R' v', HIs w' b R' F cs v' ∧ HStp w w' b R R'
theorem HStp.refl (w : World) (b : Nat) (R : Nat → Prop) : HStp w w b R R := ⟨Gr.refl _ _, fun _ h => h, fun _ h => .inl h⟩
theorem HStp.of {w w' : World} {b : Nat} {R R' : Nat → Prop} (h : Stp w w' R R') : HStp w w' b R R' := ⟨h.gr.mono (fun _ _ h => .inr h), h.sub, h.new⟩

set_option maxHeartbeats 800000 in
set_option maxRecDepth 100000 in
theorem put_no (q : Value) (n : Nat) (c f t : Int) (w : World) (hL : LenIs w q n) (hc : isCell n c = false) : Calls Try.prog 13 #[q, .int .i64 c, .int .i64 f, .int .i64 t] w fun e w' => e = .returned (.int .i64 1) ∧ w = w' := by
  have HA := Lib.hid (alive_no c n q w hc hL)
  clear hL hc
  unfold noCell at HA
  go_enter Try.func13, Try.ntmps13
  go_wp2_with (go_at_call 26; refine HA.out.mono ?_; rintro e w' ⟨rfl, rfl⟩)
  go_ret
  exact ⟨rfl, rfl⟩

theorem okTo_ok {n : Nat} {t : Int} (h : okI t) : okI (okTo n t) := by unfold okTo; split; · exact h
                                                                       · rfl
set_option maxHeartbeats 3200000 in
set_option maxRecDepth 100000 in
theorem put_any (F b : Nat) (R : Nat → Prop) (cs : List PC) (v : Value) (c f t : Int) (w : World) (h : HIs w b R F cs v) (hF : F ≤ 2000000) (hn : cs.length ≤ maxLen) (ht : okI t) :
    Calls Try.prog 13 #[hp b, .int .i64 c, .int .i64 f, .int .i64 t] w (HPost F w b R (putC F cs c f t) (.int .i64 (faultC cs c))) := by
  have hsame : ∀ k, HPost F w b R cs (.int .i64 k) (.returned (.int .i64 k)) w := fun k => ⟨rfl, R, v, h, HStp.refl _ _ _⟩
  rcases fault_ways cs c with ⟨hno, hf⟩ | ⟨i, x, rfl, hi, hil, hw⟩
  · rw [putC_no F cs c f t (.inl (by rw [hf]; decide)), hf]
    refine (put_no _ _ c f t w h.len hno).mono ?_
    rintro e w' ⟨rfl, rfl⟩
    exact hsame _
  · obtain ⟨g, cap, cur, fm, rfl, ha⟩ := At.sl h.lie hi
    have hA := alive_at b R F cs _ _ g cap cur fm i x w h.top ha hi hil hn
    rcases hw with ⟨hx, hf⟩ | ⟨hx, hf⟩
    · rw [putC_no F cs _ f t (.inl (by rw [hf]; decide)), hf]
      rw [hx, if_pos rfl] at hA
      have HA := Lib.hid hA
      have HE := Lib.hid (hsame 2)
      clear h ha hi hA hx hf hsame
      unfold noCell at HA
      go_enter Try.func13, Try.ntmps13
      go_wp2_with (go_at_call 26; refine HA.out.mono ?_; rintro e w' ⟨rfl, rfl⟩)
      go_ret
      exact HE.out
    · rw [hx, if_neg (by decide)] at hA
      have HA := Lib.hid hA
      have hB := hasField_any b _ _ F f w h.top
      cases hfi : isField F f with
      | false =>
        rw [hfi] at hB
        have HB := Lib.hid hB
        rw [putC_no F cs _ f t (.inr hfi), hf]
        have HE := Lib.hid (hsame 0)
        clear h ha hi hA hx hf hB hfi hsame
        go_enter Try.func13, Try.ntmps13
        go_wp2_with (first | (go_at_call 26; refine HA.out.mono ?_; rintro e w' ⟨rfl, rfl⟩) | (go_at_call 27; refine HB.out.mono ?_; rintro e w' ⟨rfl, rfl⟩))
        go_ret
        exact HE.out
      | true =>
        rw [hfi] at hB
        have HB := Lib.hid hB
        obtain ⟨k, hk, rfl⟩ := isField_iff.1 hfi
        rw [putC_at F cs i k t x hi hx hk, hf]
        have hG := fun t (ht : okI t) => lead_any F g cap i k t w R cur fm cs x ha h.lie.1 hi hk hF ht
        have hE : ∀ t e w', RowPost F w R g cap (cs.set i (putTo x k t)) e w' → HPost F w b R (cs.set i (putTo x k t)) (.int .i64 0) (.returned (.int .i64 0)) w' := by
          rintro t e w' ⟨_, R', cur', fm', ha', hst⟩
          refine ⟨rfl, R', _, ⟨hst.gr.bk h.top h.out, fun hb => ?_, ⟨hst.lt, .inr ⟨g, cap, cur', fm', ?_, ha'⟩⟩⟩, HStp.of hst⟩
          · rcases hst.new b hb with h1 | h1
            · exact h.out h1
            · have := h.top.lt; omega
          · rw [List.length_set]
        have hH := hasCell_of t cs.length (hp b) w h.len
        have HG := Lib.hid hG
        have HE := Lib.hid hE
        have HT := Lib.hid ht
        unfold okTo
        cases hct : isCell cs.length t with
        | true =>
          rw [hct] at hH
          have HH := Lib.hid hH
          clear h ha hi hA hx hf hB hfi hsame hG hE hH hct ht
          rw [if_pos rfl]
          go_enter Try.func13, Try.ntmps13
          go_wp2_with (first | (go_at_call 26; refine HA.out.mono ?_; rintro e w' ⟨rfl, rfl⟩) | (go_at_call 27; refine HB.out.mono ?_; rintro e w' ⟨rfl, rfl⟩) | (go_at_call 18; refine HH.out.mono ?_; rintro e w' ⟨rfl, rfl⟩) | (go_at_call 19; refine (HG.out t HT.out).mono ?_; intro e w2 hp2; have HZ := Lib.hid (HE.out t e w2 hp2); obtain ⟨rfl, _⟩ := hp2))
          go_ret
          exact HZ.out
        | false =>
          rw [hct] at hH
          have HH := Lib.hid hH
          clear h ha hi hA hx hf hB hfi hsame hG hE hH hct ht
          rw [if_neg (by decide)]
          go_enter Try.func13, Try.ntmps13
          go_wp2_with (first | (go_at_call 26; refine HA.out.mono ?_; rintro e w' ⟨rfl, rfl⟩) | (go_at_call 27; refine HB.out.mono ?_; rintro e w' ⟨rfl, rfl⟩) | (go_at_call 18; refine HH.out.mono ?_; rintro e w' ⟨rfl, rfl⟩) | (go_at_call 19; refine (HG.out 0 rfl).mono ?_; intro e w2 hp2; have HZ := Lib.hid (HE.out 0 e w2 hp2); obtain ⟨rfl, _⟩ := hp2))
          go_ret
          exact HZ.out
end Go.Proofs.Ytocgallcmgnmgaa
