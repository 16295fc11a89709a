/-
  DERIVED. The walk of the document's Sort: one element after the other is put in its place.
-/
import Derived.Test.YtelhokjjllikhaaBest
import Derived.Test.YtelhokjjllikhaaInsL
import Derived.Deep.RegionLaw
import Derived.Deep.CutBlock
namespace Go.Proofs.Ytelhokjjllikhaa
open Go.RowKit Go.Sort

theorem Try.info23 : (Try.prog.info? 23).map (fun i => (i.zero, i.size, i.bytes)) = some (some (.float .f64 0), 1, 8) := by kernel_rfl

@[go_sem] theorem run_store_float (P : Program) (w : World) (a : Addr) (m : Mode) (k : FloatKind) (b : Nat) : (store a (.float k b) m).run P w = stored P w a (.float k b) m := run_store P w a _ m rfl

theorem below_drew1 (w : World) (B : Nat) : Below B w w.drew := ⟨rfl, rfl, rfl, Nat.le_refl _, fun _ _ => rfl⟩
theorem grown_below {w wc w1 : World} {q : Option Addr} {i cap : Nat} {xs : List Value} (h : Below w.heap.size w wc) (hg : (wc.alloc (.cells #[.float .f64 0] 23)).grownBy w1 (Value.slice q i cap).ownBlock)
    (ho : wc.ownsRow w.heap.size 23 1 (.slice q i cap) i xs) (hz : w.heap.size ≤ wc.heap.size) : Below w.heap.size w w1 :=
  (h.alloc hz _).grown hg (by simp; omega) fun k hk => (ho.lt k hk).1
theorem read_drop {w : World} {g k i : Nat} {C : Array Value} {M : List Value} {z : Value} (hg : w.heap[g]? = some (.cells C.toList.toArray 23 (0, 0))) (hT : C.toList.take (i + 1) = M ++ [z]) (j : Nat) (v : Value) (hj : (M.drop k)[j]? = some v) :
    w.cell? ((⟨g, k, none⟩ : Addr).add j) = some v := by
  have e : (⟨g, k, none⟩ : Addr).add j = ⟨g, k + j, none⟩ := by
    unfold Addr.add; split
    · rename_i h; subst h; rfl
    · rfl
  rw [e]
  rw [List.getElem?_drop] at hj
  have hlt := (List.getElem?_eq_some_iff.1 hj).1
  have hl := congrArg List.length hT
  rw [List.length_take, List.length_append] at hl
  simp at hl
  have := congrArg (fun l => l[k + j]?) hT
  rw [List.getElem?_take, List.getElem?_append_left hlt, hj] at this
  split at this
  · simp only [World.cell?, hg]; simpa using this
  · cases this
theorem own_put {w : World} {B g cp i k : Nat} {C : List Value} {L : List Nat} {x : Nat} {z : Value} (hrow : w.heap[g]? = some (.cells (splice C (k + 1) ((L.map encF).drop k)).toArray 23 (0, 0))) (hB : B ≤ g) (hn : i + 1 ≤ cp) (hm : cp ≤ maxLen)
    (hlen : (splice C (k + 1) ((L.map encF).drop k)).length = cp) (hk : k ≤ i) (hL : L.length = i) (hT : C.take (i + 1) = L.map encF ++ [z]) :
    (w.setCell ⟨g, k, none⟩ (.float .f64 x)).ownsRow B 23 1 (.slice (some ⟨g, 0, none⟩) (i + 1) cp) (i + 1) ((L.take k ++ x :: L.drop k).map encF) := by
  have hr := row_ins C (L.map encF) z (encF x) k i (by rw [List.length_map, hL]) hk hT
  refine ⟨?_, Or.inr ⟨g, cp, ((splice C (k + 1) ((L.map encF).drop k)).set k (encF x)).toArray, rfl, hB, ?_, hn, hm, ?_, ?_⟩⟩
  · rw [List.length_map, List.length_append, List.length_take, List.length_cons, List.length_drop]; omega
  · rw [setCell_eq]
    unfold mapBlock
    simp [Array.getElem?_modify, hrow, onCells, encF]
  · simp [hlen]
  · simp only [Nat.mul_one]
    rw [hr]
    simp [List.map_take, List.map_drop]
theorem wrap_succ (k : Nat) (h : k ≤ 1000) : IntKind.i64.wrap ((k : Int) + 1) = (k : Int) + 1 := IntWalk.i64_in _ (by omega)
theorem toNat_succ (k : Nat) : ((k : Int) + 1).toNat = k + 1 := by omega

/-- What the document's Sort leaves. -/
def SortedRef (w : World) (d : Array Nat) (e : Ending) (w' : World) : Prop :=
  ∃ (q : Option Addr) (cap : Nat) (d' : Array Nat), e = .returned (.slice q d.size cap) ∧ d'.size = d.size ∧ Reads w' q d' ∧ d'.toList.Perm d.toList ∧ Fl.Srt 0 d.size d' ∧ Words d' ∧ Below w.heap.size w w'

theorem own_reads {w : World} {B i cap : Nat} {q : Option Addr} {L : List Nat} (h : w.ownsRow B 23 1 (.slice q i cap) i (L.map encF)) (hi : 0 < i) :
    ∃ g, q = some ⟨g, 0, none⟩ ∧ B ≤ g ∧ g < w.heap.size ∧ ∀ t, t < i → w.cell? ⟨g, t, none⟩ = some (.float .f64 (L.getD t 0)) := by
  have hlen : L.length = i := by have := h.1; simpa using this
  obtain ⟨_, ⟨he, h0⟩ | ⟨g, cp, cur, he, hB, hg, hn, hm, hs, ht⟩⟩ := h
  · omega
  · injection he with e1 e2 e3
    subst e1
    refine ⟨g, rfl, hB, (Array.getElem?_eq_some_iff.1 hg).1, fun t hti => ?_⟩
    have h1 : (cur.toList.take (i * 1))[t]? = (L.map encF)[t]? := by rw [ht]
    rw [List.getElem?_take, if_pos (by omega)] at h1
    have h2 : (L.map encF)[t]? = some (encF (L.getD t 0)) := by
      rw [List.getElem?_map, List.getD_eq_getElem?_getD, List.getElem?_eq_getElem (by omega)]; rfl
    rw [h2] at h1
    simp only [World.cell?, hg]
    simpa [encF] using h1

theorem words_perm {d : Array Nat} {L : List Nat} {i : Nat} (wd : Words d) (hi : i ≤ d.size) (hp : L.Perm (d.toList.take i)) (hl : L.length = i) (t : Nat) (ht : t < i) : L.getD t 0 < 18446744073709551616 := by
  have h1 : L.getD t 0 ∈ L := by
    rw [List.getD_eq_getElem?_getD, List.getElem?_eq_getElem (by omega)]; simp
  have h2 := hp.mem_iff.1 h1
  obtain ⟨k, hk, e⟩ := List.getElem_of_mem h2
  rw [List.length_take, Array.length_toList] at hk
  rw [← e, List.getElem_take, ← Fl.getE d k (by omega)]
  exact wd k (by omega)

set_option maxHeartbeats 800000 in
theorem refsort_any (p : Option Addr) (c : Nat) (d : Array Nat) (w : World) (hr : Reads w p d) (hsm : d.size ≤ 1000) (wd : Words d) :
    Calls Try.prog 10 #[.slice p d.size c] w (SortedRef w d) := by
  have HR := Lib.hid hr
  have WD := Lib.hid wd
  clear hr wd
  obtain ⟨i0, hi0, hz0, hz1, hz2⟩ := info_parts Try.info23
  go_enter Try.func10, Try.ntmps10
  go_wp2
  go_loopw [3, 4] (fun v vi wr => ∃ (i : Nat) (L : List Nat) (q : Option Addr) (cap : Nat), vi = .int .i64 i ∧ v = .slice q i cap ∧ i ≤ d.size ∧ Hid (L.length = i) ∧ Hid (wr.ownsRow w.heap.size 23 1 (.slice q i cap) i (L.map encF)) ∧ Hid (Rises L) ∧ Hid (L.Perm (d.toList.take i)) ∧ Below w.heap.size w wr) (fun _ vi _ => d.size - (intOf vi).toNat)
  case atStart => exact ⟨0, [], none, 0, rfl, rfl, Nat.zero_le _, rfl, World.ownsRow_nil _ _ _ _, fun s t _ h => by simp at h, List.Perm.refl _, Below.refl _ _⟩
  case round =>
    obtain ⟨i, L, q, cap, rfl, rfl, hi, HL, HO, HS, HP, hb⟩ := hrel
    by_cases hlt : i < d.size
    · obtain ⟨b, off, rfl, hc⟩ := HR.out (by omega)
      have hx0 : w.cell? ⟨b, off + i, none⟩ = some (.float .f64 d[i]!) := hc i hlt
      have hx : wr.cell? ⟨b, off + i, none⟩ = some (.float .f64 d[i]!) := (hb.cell (p := ⟨b, off + i, none⟩) (cell_lt hx0)).trans hx0
      have HXC := Lib.hid hx0
      have HB := Lib.hid hb
      have lx := Lib.hid (WD.out i hlt)
      clear hc hb
      go_upto_block 2 with fail
      go_cut [5] (fun vk wx => ∃ k m : Nat, vk = .int .i64 k ∧ k ≤ i ∧ Hid (∀ t, k ≤ t → t < i → Fl.less d[i]! (L.getD t 0) = true) ∧ Hid (∀ t, t < k → Fl.key (L.getD t 0) ≤ Fl.key d[i]!) ∧ wx = wr.drewN m)
      case first =>
        go_wp2_with fail
        obtain ⟨wo, hwo⟩ : ∃ wo : World, wo = wr := ⟨_, rfl⟩
        subst hwo
        go_loopw [5] (fun vk wr => ∃ k m : Nat, vk = .int .i64 k ∧ k ≤ i ∧ Hid (∀ t, k ≤ t → t < i → Fl.less d[i]! (L.getD t 0) = true) ∧ wr = wo.drewN m) (fun vk _ => (intOf vk).toNat)
        case atStart => exact ⟨i, 0, rfl, Nat.le_refl _, fun t h h' => by omega, rfl⟩
        case round =>
          obtain ⟨k, m, rfl, hk, hK, hwr⟩ := hrel
          have HW := Lib.hid hwr
          by_cases hgo : 0 < k ∧ Fl.less d[i]! (L.getD (k - 1) 0) = true
          · obtain ⟨hk0, hl⟩ := hgo
            obtain ⟨g, rfl, hBg, hgs, hcs⟩ := own_reads HO.out (by omega)
            have cy : wr.cell? ⟨g, k - 1, none⟩ = some (.float .f64 (L.getD (k - 1) 0)) := by rw [hwr]; exact hcs (k - 1) (by omega)
            have cx : wr.cell? ⟨b, off + i, none⟩ = some (.float .f64 d[i]!) := by rw [hwr]; exact hx
            have ly := Lib.hid (words_perm WD.out (by omega) HP.out HL.out (k - 1) (by omega))
            have gk : decide (0 < k) = true := by simp; omega
            have HK : Hid (∀ t, k - 1 ≤ t → t < i → Fl.less d[i]! (L.getD t 0) = true) := fun t h1 h2 => by
              by_cases e : t = k - 1
              · subst e; exact hl
              · exact hK.out t (by omega) h2
            have LX := lx
            clear hcs hwr hx hx0 lx
            generalize d[i]! = x at *
            generalize L.getD (k - 1) 0 = y at cy ly hl
            go_wp2_with fail
            go_quiet ((go_at_call 21; exact Calls.quiet_of_same (refless_back _ _ _ LX.out ly.out)))
            go_wp2
            go_roundw
            case rel => exact ⟨k - 1, m + nq, int_eq (by omega), by omega, HK, by rw [HW.out, World.drewN_drewN]⟩
            case measure => simp [intOf]; omega
          · have cx : wr.cell? ⟨b, off + i, none⟩ = some (.float .f64 d[i]!) := by rw [hwr]; exact hx
            have HX : Hid (∀ t, t < k → Fl.key (L.getD t 0) ≤ Fl.key d[i]!) := fun t ht => by
              have h1 : Fl.less d[i]! (L.getD (k - 1) 0) = false := by
                cases h : Fl.less d[i]! (L.getD (k - 1) 0)
                · rfl
                · exact absurd ⟨by omega, h⟩ hgo
              have h2 := (Fl.less_not _ _).1 h1
              by_cases e : t = k - 1
              · subst e; exact h2
              · have := HS.out t (k - 1) (by omega) (by have := HL.out; omega)
                omega
            by_cases hk0 : k = 0
            · have gk : decide (0 < k) = false := by simp; omega
              clear hk0 hwr hx hx0 hgo
              go_wp2_with fail
              go_quiet (fail)
              go_wp2_with fail
              go_meet
              exact ⟨k, m + nq, rfl, hk, hK, HX, by rw [HW.out, World.drewN_drewN]⟩
            · have hl : Fl.less d[i]! (L.getD (k - 1) 0) = false := by
                cases h : Fl.less d[i]! (L.getD (k - 1) 0)
                · rfl
                · exact absurd ⟨by omega, h⟩ hgo
              obtain ⟨g, rfl, hBg, hgs, hcs⟩ := own_reads HO.out (by omega)
              have cy : wr.cell? ⟨g, k - 1, none⟩ = some (.float .f64 (L.getD (k - 1) 0)) := by rw [hwr]; exact hcs (k - 1) (by omega)
              have ly := Lib.hid (words_perm WD.out (by omega) HP.out HL.out (k - 1) (by omega))
              have gk : decide (0 < k) = true := by simp; omega
              have hkp : 0 < k := by omega
              have LX := lx
              clear hcs hwr hx hx0 lx hk0 hgo
              generalize d[i]! = x at *
              generalize L.getD (k - 1) 0 = y at cy ly hl
              go_wp2_with fail
              go_quiet ((go_at_call 21; exact Calls.quiet_of_same (refless_back _ _ _ LX.out ly.out)))
              go_wp2_with fail
              go_meet
              exact ⟨k, m + nq, rfl, hk, hK, HX, by rw [HW.out, World.drewN_drewN]⟩
      case rest =>
        obtain ⟨k, m, rfl, hk, HK, HX, hwc⟩ := hcut
        have HO2 : Hid (wc.ownsRow w.heap.size 23 1 (.slice q i cap) i (L.map encF)) := by rw [hwc]; exact HO.out
        have HB2 : Hid (Below w.heap.size w wc) := by rw [hwc]; exact below_drewN HB.out m
        have hbz : w.heap.size ≤ wc.heap.size := HB2.out.size
        clear hwc hx hx0
        go_wp2_with (at_builtin; refine wpList_append_own _ rfl (.tmp 30) (.tmp 31) 22 rfl w.heap.size 23 i0 (.float .f64 0) 1 8 Try.underlying22 hi0 hz0 hz1 hz2 rfl (by decide) _ i (L.map encF) rfl (HO2.out.alloc _) ⟨wc.heap.size, 0, none⟩ 1 1 [.float .f64 0] rfl rfl ?c1 ?c2 ?c3 ?c4 ?c5 ?_)
        case c1 => intro j u hj; match j, hj with | 0, hj => (simp at hj; subst hj; simp [Addr.add])
        case c2 => intro u hu; simp at hu; subst hu; rfl
        case c3 => unfold maxLen; omega
        case c4 => omega
        case c5 => simp; omega
        intro v' w1 hown hgrow _
        obtain ⟨hlen, ⟨_, h0⟩ | ⟨g, cp, cur, rfl, hBg, hg, hn, hm, hcs, htake⟩⟩ := hown
        · omega
        have HG := Lib.hid hgrow
        clear hgrow
        have hG : Hid (w1.heap[g]? = some (.cells cur.toList.toArray 23 (0, 0))) := show _ = _ by rw [hg]
        have hsz1 : Hid (cur.toList.length = cp) := show _ = _ by rw [Array.length_toList, hcs, Nat.mul_one]
        have hT : Hid (cur.toList.take (i + 1) = L.map encF ++ [.float .f64 0]) := show _ = _ by rw [← htake, Nat.mul_one]
        have HB3 : Hid (Below w.heap.size w w1) := grown_below HB2.out HG.out HO2.out hbz
        clear hg htake hcs hlen HG
        obtain ⟨CS, hCS⟩ : ∃ CS, CS = (L.map encF).drop k := ⟨_, rfl⟩
        have HCS := Lib.hid hCS
        clear hCS
        go_upto_region 9 with fail
        go_cut [] (fun wx => Hid (wx.heap[g]? = some (.cells (splice cur.toList (k + 1) CS).toArray 23 (0, 0))) ∧ Below w.heap.size w1 wx)
        case first =>
          have hL2 : Hid (CS.length = i - k) := show _ = _ by rw [HCS.out, List.length_drop, List.length_map, HL.out]
          have hrd : Hid (∀ n j v, CS[j]? = some v → (w1.drewN n).cell? ((⟨g, k, none⟩ : Addr).add j) = some v) := fun n j v hj => by
            rw [HCS.out] at hj; exact read_drop hG.out hT.out j v hj
          have h1c : Hid (∀ v ∈ CS, v.oneCell' = true) := fun v hv => by
            rw [HCS.out] at hv
            obtain ⟨x, _, rfl⟩ := List.mem_map.1 (List.mem_of_mem_drop hv); rfl
          have hN : Hid (CS.length = Nat.min (i + 1 - k) (i - k)) := show CS.length = min (i + 1 - k) (i - k) by
            rw [hL2.out]; omega
          have hF : Hid (k + 1 + CS.length ≤ cur.toList.length) := show _ ≤ _ by rw [hL2.out, hsz1.out]; omega
          have hwk0 : Hid (IntKind.i64.wrap ((k : Int) + 1) = (k : Int) + 1) := wrap_succ k (by omega)
          have hel : Hid ((Try.prog.info? 23).map (·.size) = some 1) := show _ = _ by kernel_rfl
          have hle : (k : Int) + 1 ≤ (i : Int) + 1 := by omega
          have hle2 : (k : Int) ≤ (i : Int) + 1 := by omega
          have h0k : 0 ≤ (k : Int) + 1 := by omega
          have hne2 : ¬ cp = k := by omega
          by_cases hne : cp = k + 1
          · obtain rfl : i = k := by omega
            subst hne
            have hN0 : Hid (CS.length = Nat.min 1 0) := show _ = _ by rw [hL2.out, Nat.sub_self]; rfl
            have h00 : Hid (0 < CS.length → (some (⟨g, 0, none⟩ : Addr)) = some ⟨g, i + 1, none⟩ ∧ ∃ ad, (some (⟨g, i, none⟩ : Addr)) = some ad ∧ ∀ j v, CS[j]? = some v → w1.drew.cell? (ad.add j) = some v) := fun h => by
              rw [hL2.out, Nat.sub_self] at h; exact absurd h (by decide)
            have htn := toNat_succ i
            have hwk := hwk0.out
            clear hN
            go_region_law (refine step_copy_splice rfl (.tmp 36) (.tmp 39) 22 22 rfl 23 Try.underlying22 hel.out (some ⟨g, 0, none⟩) (some ⟨g, i, none⟩) 0 0 1 1 (by simp [Act.eval, Act.put]) (by simp [Act.eval, Act.put]) g (i + 1) cur.toList 23 (by exact hG.out) CS hN0.out h00.out hF.out h1c.out w.heap.size _ (Below.refl _ _) hBg ?_; intro w4 hg4 hb4)
            clear htn hwk
            go_wp2_with fail
            go_meet
            exact ⟨hg4, (below_drew1 w1 w.heap.size).trans hb4⟩
          · have htn := toNat_succ k
            have hwk := hwk0.out
            go_region_law (refine step_copy_splice rfl (.tmp 36) (.tmp 39) 22 22 rfl 23 Try.underlying22 hel.out (some ⟨g, k + 1, none⟩) (some ⟨g, k, none⟩) (i - k) (cp - (k + 1)) (i + 1 - k) (cp - k) (by simp [Act.eval, Act.put]) (by simp [Act.eval, Act.put]) g (k + 1) cur.toList 23 (by exact hG.out) CS hN.out (fun _ => ⟨rfl, _, rfl, fun j v hj => hrd.out _ j v hj⟩) hF.out h1c.out w.heap.size _ (Below.refl _ _) hBg ?_; intro w4 hg4 hb4)
            clear htn hwk
            go_wp2_with fail
            go_meet
            exact ⟨hg4, (below_drew1 w1 w.heap.size).trans hb4⟩
        case rest =>
          obtain ⟨hrow, hb4⟩ := hcut
          have HB5 : Hid (Below w.heap.size w wc) := HB3.out.trans hb4
          have hx0 : w.cell? ⟨b, off + i, none⟩ = some (.float .f64 d[i]!) := HXC.out
          have cx : wc.cell? ⟨b, off + i, none⟩ = some (.float .f64 d[i]!) := (HB5.out.cell (p := ⟨b, off + i, none⟩) (cell_lt hx0)).trans hx0
          have hlen : Hid ((splice cur.toList (k + 1) CS).length = cp) := show _ = _ by
            rw [length_splice _ _ _ (by rw [HCS.out, List.length_drop, List.length_map, HL.out, hsz1.out]; omega), hsz1.out]
          obtain ⟨v0, ck⟩ : ∃ v0, wc.cell? ⟨g, k, none⟩ = some v0 := by
            refine ⟨(splice cur.toList (k + 1) CS)[k]'(by rw [hlen.out]; omega), ?_⟩
            simp only [World.cell?, hrow.out]
            simp
          have fk : wc.frozen? ⟨g, k, none⟩ = false := by simp [World.frozen?, hrow.out]
          have HB4 := Lib.hid hb4
          clear hb4 hx0 hG
          generalize hxe : d[i]! = x at cx
          have HXE := Lib.hid hxe
          clear hxe
          go_wp2
          go_roundw
          case rel =>
            refine ⟨i + 1, L.take k ++ x :: L.drop k, some ⟨g, 0, none⟩, cp, int_eq (by omega), rfl, by omega, ?_, ?_, ?_, ?_, HB5.out.setCell hBg _⟩
            · show (L.take k ++ x :: L.drop k).length = i + 1
              have := HL.out
              rw [List.length_append, List.length_take, List.length_cons, List.length_drop]; omega
            · have hrow2 := hrow.out
              have hlen2 := hlen.out
              rw [HCS.out] at hrow2 hlen2
              exact own_put hrow2 hBg hn hm hlen2 hk HL.out hT.out
            · have := HXE.out
              subst this
              exact rises_ins L k _ i HL.out hk HS.out HX.out HK.out
            · exact perm_ins L k x i d.toList (by rw [Array.length_toList]; exact hlt) (by rw [← Fl.getE d i hlt]; exact HXE.out) HP.out
          case measure => simp [intOf]; omega
    · obtain rfl : i = d.size := by omega
      have HB := Lib.hid hb
      clear hb
      go_wp2
      go_ret
      have hperm : L.Perm d.toList := by
        have := HP.out
        rw [List.take_of_length_le (by rw [Array.length_toList]; omega)] at this
        exact this
      have hcs := fun h => own_reads HO.out h
      refine ⟨q, cap, L.toArray, rfl, HL.out, fun h0 => ?_, hperm, fun s t _ hst ht => ?_, fun t ht => ?_, HB.out⟩
      · obtain ⟨g, rfl, _, _, hc⟩ := hcs (by have := HL.out; simpa [this] using h0)
        refine ⟨g, 0, rfl, fun t ht => ?_⟩
        have ht' : t < L.length := by simpa using ht
        rw [Nat.zero_add, hc t (by rw [← HL.out]; exact ht'), getElem!_pos _ t ht]
        simp [encF, List.getD, ht']
      · have hl := HL.out
        have := HS.out s t hst (by omega)
        rw [getElem!_pos _ s (by simp; omega), getElem!_pos _ t (by simp; omega)]
        simpa [List.getD, show s < L.length by omega, show t < L.length by omega] using this
      · have ht' : t < L.length := by simpa using ht
        have := words_perm WD.out (Nat.le_refl _) HP.out HL.out t (by rw [← HL.out]; exact ht')
        rw [getElem!_pos _ t ht]
        simpa [List.getD, ht'] using this

end Go.Proofs.Ytelhokjjllikhaa
