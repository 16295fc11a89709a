/-
  DERIVED. The walk of the law on the texts of signs.
-/
import Derived.Test.YtbanidkfeibikaaDoorSeg
import Derived.IntWalk
namespace Go.Proofs.YtbanidkfeibikaaDoor
open Go.RowKit

theorem toList_beq (a b : ByteArray) (h : a = b) : (a.toList == b.toList) = true := by rw [h, beq_iff_eq]
theorem key_at {m l : List Tx.Sg} (h : m.map Tx.key = l.map Tx.key) (k : Nat) (hk : k < l.length) : ∃ hm : k < m.length, m[k].kind = l[k].kind ∧ m[k].text = l[k].text ∧ m[k].num = l[k].num := by
  have hl : m.length = l.length := by have := congrArg List.length h; simpa using this
  refine ⟨by omega, ?_⟩
  have e : (m.map Tx.key)[k]'(by simp; omega) = (l.map Tx.key)[k]'(by simp; omega) := by simp only [h]
  rw [List.getElem_map, List.getElem_map] at e
  unfold Tx.key at e
  simp only [Prod.mk.injEq] at e
  exact ⟨e.1, ByteArray.ext (Array.toList_inj.1 e.2.1), e.2.2⟩

set_option maxHeartbeats 3200000 in
set_option maxRecDepth 100000 in
theorem again_any (s : ByteArray) (w : World) (hs : s.size ≤ maxLen) (hg : Gl w) :
    Calls Tryd.prog 6 #[.string s] w fun e w' => e = .returned (.bool true) ∧ Below w.heap.size w w' := by
  unfold maxLen at hs
  have HG := Lib.hid hg
  clear hg
  by_cases hl : 5000 < s.size
  · go_enter Tryd.func6, Tryd.ntmps6
    go_wp2_with (go_at_call 7; refine (lives_any _ HG.out).mono ?_; rintro e w' ⟨rfl, hb⟩)
    go_ret
    exact ⟨rfl, by assumption⟩
  · have h5 : s.size ≤ 5000 := by omega
    have hn1 := fun w hg => lexAll_any s w (by omega) hg
    unfold AllPost at hn1
    have hlen := alls_len s
    have herr := Tx.alls_err s
    have hcha := Tx.alls_chain s
    have haga := Tx.alls_again s
    obtain ⟨l, hll⟩ : ∃ l, l = (Tx.alls s).1 := ⟨_, rfl⟩
    obtain ⟨p, hp⟩ : ∃ p, p = (Tx.alls s).2.1 := ⟨_, rfl⟩
    obtain ⟨er, her⟩ : ∃ er, er = (Tx.alls s).2.2 := ⟨_, rfl⟩
    rw [← hll, ← hp, ← her] at hn1
    rw [← hll] at hlen
    rw [← hll, ← her] at herr hcha
    have haga' : ∀ t : ByteArray, er = 0 → t.data.toList = Tx.joined l → t.size ≤ 65536 → (Tx.alls t).2.2 = 0 ∧ (Tx.alls t).1.map Tx.key = l.map Tx.key := by
      intro t; rw [her, hll]; exact haga t
    clear haga hll hp her
    have HN1 := Lib.hid hn1
    have hlen1 : l.length ≤ 5001 := by omega
    clear hn1 hlen hl
    by_cases he : er = 0
    · subst he
      have HC := Lib.hid (hcha rfl)
      have HA := Lib.hid (fun t => haga' t rfl)
      clear herr hcha haga'
      go_enter Tryd.func6, Tryd.ntmps6
      go_wp2_with fail
      refine (HN1.out _ HG.out).mono ?_; rintro e w1 ⟨v1, rfl, ho1, hb1⟩
      obtain ⟨A1, c1, rfl⟩ := own_shape ho1
      have HO1 := Lib.hid ho1
      have HB1 := Lib.hid hb1
      clear ho1 hb1
      go_wp2_with fail
      go_loopw [6, 7, 8] (fun t la i wr => ∃ (k last : Nat) (tx : ByteArray), k ≤ l.length ∧ i = .int .i64 k ∧ la = .int .i64 last ∧ t = .string tx ∧ Hid (last = Tx.lastAt 0 l k) ∧ Hid (tx.data.toList = Tx.joined (l.take k)) ∧ Hid (wr.ownsRow w.heap.size 32 4 (.slice A1 l.length c1) l.length (l.flatMap Tx.cells)) ∧ Hid (Below w.heap.size w wr)) (fun _ _ i _ => l.length - (Lib.intOf i).toNat)
      case atStart => exact ⟨0, 0, ByteArray.empty, Nat.zero_le _, rfl, rfl, rfl, Lib.hid (Tx.lastAt_zero 0 l).symm, Lib.hid rfl, HO1, HB1⟩
      case round =>
        obtain ⟨k, last, tx, hk, rfl, rfl, rfl, HLA, HTX, HO, HB⟩ := hrel
        have htx : tx.size ≤ 10001 := by
          have h1 := Tx.joined_len l s HC.out k hk
          have h2 := Tx.last_le l s HC.out k hk
          rw [← HTX.out, Tx.len_eq] at h1
          omega
        by_cases hlt : k < l.length
        · obtain ⟨g1, d1, f1⟩ := Go.Joins.ownsRow_form HO.out (by omega)
          injection f1 with f1 f1a f1b
          clear f1a f1b
          subst f1
          obtain ⟨a0, a1, a2, a3⟩ := own_sign HO.out k hlt
          obtain ⟨s1, s2, s3⟩ := Tx.seg l s 0 HC.out (Nat.zero_le _) k hlt
          have hjt := Tx.joined_take l k hlt
          have hls := Tx.lastAt_succ l 0 k hlt
          rw [← HLA.out] at s1
          rw [← HTX.out] at hjt
          generalize l[k] = a at a0 a1 a2 a3 s1 s2 s3 hjt hls
          have HJT := Lib.hid hjt
          have HLS := Lib.hid hls
          have q1 : decide (a.pos < last) = false := decide_eq_false (by omega)
          have q2 : decide ((s.size : Int) < (a.pos : Int) + a.text.size) = false := decide_eq_false (by omega)
          have q3 := toList_beq _ _ s3
          have HS2 := Lib.hid s2
          have hts : a.text.size ≤ 5000 := by omega
          have hps : a.pos ≤ 5000 := by omega
          have hsum : IntKind.i64.wrap ((a.pos : Int) + a.text.size) = (a.pos : Int) + a.text.size := IntWalk.i64_in _ (by omega)
          have hsn : ((a.pos : Int) + a.text.size).toNat = a.pos + a.text.size := by omega
          have hr1 : (0 : Int) ≤ (a.pos : Int) + a.text.size := by omega
          have hr2 : (a.pos : Int) ≤ (a.pos : Int) + a.text.size := by omega
          have hr3 : (a.pos : Int) + a.text.size ≤ s.size := by omega
          clear hjt hls s1 s3
          go_wp2_with fail
          go_quiet (fail)
          go_wp2_with fail
          go_quiet (fail)
          go_wp2_with fail
          clear hsum hsn hr1 hr2 hr3 q1 q2 q3
          go_roundw
          case rel => exact ⟨k + 1, a.pos + a.text.size, tx ++ a.text ++ ⟨#[32]⟩, by omega, by go_num, by go_num, rfl, Lib.hid HLS.out.symm, Lib.hid (by rw [HJT.out]; simp), Lib.hid HO.out, Lib.hid (below_drewN HB.out _)⟩
          case measure => simp [Lib.intOf]; omega
        · obtain rfl : k = l.length := by omega
          have hJ := HTX.out
          rw [List.take_length] at hJ
          obtain ⟨t1, t2⟩ := HA.out tx hJ (by omega)
          clear hJ
          have hn2 := fun w hg => lexAll_any tx w (by omega) hg
          unfold AllPost at hn2
          obtain ⟨m, hmm⟩ : ∃ m, m = (Tx.alls tx).1 := ⟨_, rfl⟩
          obtain ⟨p2, hp2⟩ : ∃ p2, p2 = (Tx.alls tx).2.1 := ⟨_, rfl⟩
          rw [← hmm] at t2
          have hml : m.length = l.length := by have := congrArg List.length t2; simpa using this
          rw [← hmm, ← hp2, t1, hml] at hn2
          have HML := Lib.hid hml
          have HK := Lib.hid t2
          have HN2 := Lib.hid hn2
          clear hmm hp2 hn2 t1 t2 hml
          have HG2 := Lib.hid (HG.out.below HB.out HG.out.two)
          go_wp2_with fail
          refine (HN2.out _ HG2.out).mono ?_; rintro e w2 ⟨v2, rfl, ho2, hb2⟩
          obtain ⟨A2, c2, rfl⟩ := own_shape ho2
          have HO2 := Lib.hid ho2
          have HOO := Lib.hid (own_below HO.out hb2)
          have HB2 := Lib.hid (HB.out.trans (hb2.mono HB.out.size))
          clear ho2 hb2 HLA HTX
          go_wp2_with fail
          go_loopw [12] (fun v wz => ∃ k : Nat, k ≤ l.length ∧ v = .int .i64 k ∧ Hid (wz.ownsRow w.heap.size 32 4 (.slice A1 l.length c1) l.length (l.flatMap Tx.cells)) ∧ Hid (wz.ownsRow wr.heap.size 32 4 (.slice A2 l.length c2) l.length (m.flatMap Tx.cells)) ∧ Hid (Below w.heap.size w wz)) (fun v _ => l.length - (Lib.intOf v).toNat)
          case atStart => exact ⟨0, Nat.zero_le _, rfl, HOO, HO2, HB2⟩
          case round =>
            obtain ⟨k, hk, rfl, HP1, HP2, HBz⟩ := hrel
            by_cases hlt : k < l.length
            · obtain ⟨g1, d1, f1⟩ := Go.Joins.ownsRow_form HP1.out (by omega)
              injection f1 with f1 f1a f1b
              clear f1a f1b
              obtain ⟨g2, d2, f2⟩ := Go.Joins.ownsRow_form HP2.out (by omega)
              injection f2 with f2 f2a f2b
              clear f2a f2b
              subst f1; subst f2
              obtain ⟨a0, a1, a2, a3⟩ := own_sign HP1.out k hlt
              obtain ⟨hm, e1, e2, e3⟩ := key_at HK.out k hlt
              have hq := HP2.out
              rw [← HML.out] at hq
              obtain ⟨b0, b1, b2, b3⟩ := own_sign hq k hm
              rw [e1] at b0
              rw [e2] at b2
              rw [e3] at b3
              clear e1 e2 e3 hq
              generalize m[k].pos = mp at b1
              clear hm
              generalize l[k] = a at a0 a1 a2 a3 b0 b2 b3
              have q3 := toList_beq a.text a.text rfl
              go_wp2_with fail
              go_quiet (fail)
              go_wp2_with fail
              go_roundw
              case rel => exact ⟨k + 1, by omega, by go_num, Lib.hid HP1.out, Lib.hid HP2.out, Lib.hid (below_drewN HBz.out _)⟩
              case measure => simp [Lib.intOf]; omega
            · have HG3 := HG.out.below HBz.out HG.out.two
              go_wp2_with (go_at_call 7; refine (lives_any _ HG3).mono ?_; rintro e w' ⟨rfl, hb⟩)
              go_ret
              exact ⟨rfl, HBz.out.trans (Below.mono (by assumption) HBz.out.size)⟩
    · have H0 := Lib.hid (herr he)
      have he' : (er != 0) = true := by rw [bne_iff_ne]; exact he
      clear herr hcha haga' he
      go_enter Tryd.func6, Tryd.ntmps6
      go_wp2_with fail
      refine (HN1.out _ HG.out).mono ?_; rintro e w1 ⟨v1, rfl, ho1, hb1⟩
      obtain ⟨A1, c1, rfl⟩ := own_shape ho1
      have HB1 := Lib.hid hb1
      clear ho1 hb1
      have hz : ((l.length : Int) == 0) = true := by rw [H0.out]; rfl
      go_wp2_with (go_at_call 7; refine (lives_any _ (HG.out.below HB1.out HG.out.two)).mono ?_; rintro e w' ⟨rfl, hb⟩)
      go_ret
      exact ⟨rfl, HB1.out.trans (Below.mono (by assumption) HB1.out.size)⟩

end Go.Proofs.YtbanidkfeibikaaDoor
