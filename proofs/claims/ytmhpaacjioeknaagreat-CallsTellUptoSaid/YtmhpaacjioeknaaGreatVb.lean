/-
  DERIVED. The law of what calls what.
-/
import Derived.Test.YtmhpaacjioeknaaGreatVa
import Derived.Test.YtmhpaacjioeknaaGreatTn
import Derived.Deep.RegionHeld3
namespace Go.Proofs.YtmhpaacjioeknaaGreat
open Go.RowKit Go.Maps Go.Sort Go.WideMaps
open Tj (RchPost)

abbrev pagg (x : Pg) : Value := .agg #[.slice x.structs.p x.structs.l.length x.structs.cap, .slice x.globals.p x.globals.l.length x.globals.cap, .slice x.procs.p x.procs.l.length x.procs.cap]
theorem cyc_one {l : List Pc} {a b er fr : Int} (h : CycPost l a er) (k : CycPost l b fr) : b = a ∧ fr = er := by
  rcases h with ⟨rfl, rfl, h1⟩ | ⟨rfl, i, x, h1, h2, h3, rfl⟩
  · rcases k with ⟨rfl, rfl, _⟩ | ⟨_, i, x, k1, k2, _⟩
    · exact ⟨rfl, rfl⟩
    · exact absurd k2 (h1 i (List.getElem?_eq_some_iff.1 k1).1)
  · rcases k with ⟨_, _, k1⟩ | ⟨rfl, j, y, k1, k2, k3, rfl⟩
    · exact absurd h2 (k1 i (List.getElem?_eq_some_iff.1 h1).1)
    · have e : i = j := by
        rcases Nat.lt_trichotomy i j with q | q | q
        · exact absurd h2 (k3 i q)
        · exact q
        · exact absurd k2 (h3 j q)
      subst e
      rw [h1] at k1
      cases k1
      exact ⟨rfl, rfl⟩
/-- What Order answers, of both. -/
def OrdIs (l : List Pc) (os : List Int) : Prop := ((∃ i, i < l.length ∧ Rt (web l) i i) ∧ os = []) ∨ ((∀ i, i < l.length → ¬ Rt (web l) i i) ∧ Told (web l) os ∧ os.length = l.length)
theorem ordIs_one {l : List Pc} {os qs : List Int} (h : OrdIs l os) (k : OrdIs l qs) : qs = os := by
  rcases h with ⟨⟨i, hi, hr⟩, rfl⟩ | ⟨hn, ht, hl⟩
  · rcases k with ⟨_, rfl⟩ | ⟨kn, _⟩
    · rfl
    · exact absurd hr (kn i hi)
  · rcases k with ⟨⟨i, hi, hr⟩, _⟩ | ⟨_, kt, kl⟩
    · exact absurd hr (hn i hi)
    · have := told_one kt ht (by omega)
      rw [this, List.take_of_length_le (by omega)]
theorem ordIs_len {l : List Pc} {os : List Int} (h : OrdIs l os) : os.length ≤ l.length := by
  rcases h with ⟨_, rfl⟩ | ⟨_, _, h⟩
  · exact Nat.zero_le _
  · omega
theorem ordPost_is {l : List Pc} (hP : PsOk l) {w w' : World} {v : Value} (h : OrdPost (web l) w w' v) : ∃ os, OrdIs l os ∧ OR w' w.heap.size v os ∧ Below w.heap.size w w' := by
  obtain ⟨os, h1, h2, h3, h4⟩ := h
  rcases h4 with ⟨h4, rfl⟩ | ⟨h4, h5⟩
  · by_cases hc : ∃ i, i < l.length ∧ Rt (web l) i i
    · exact ⟨[], .inl ⟨hc, rfl⟩, World.ownsRow_nil _ _ _ _, h3⟩
    · exfalso
      obtain ⟨k, hk⟩ := ready_of (web_inR hP) h4 (by rw [web_len]; exact fun i h1 h2 => hc ⟨i, h1, h2⟩)
      exact h2 k hk
  · rw [web_len] at h4
    exact ⟨os, .inr ⟨fun i hi => told_all h1 (by rw [web_len]; exact h4) i (by rw [web_len]; exact hi), h1, h4⟩, h5, h3⟩
theorem rord_is {l : List Pc} {w w' : World} {v : Value} (h : ROrd l w w' v) : ∃ os, OrdIs l os ∧ OR w' w.heap.size v os ∧ Below w.heap.size w w' := by
  obtain ⟨hb, h⟩ := h
  rcases h with ⟨h1, rfl⟩ | ⟨h1, os, h2, h3, h4⟩
  · exact ⟨[], .inl ⟨h1, rfl⟩, World.ownsRow_nil _ _ _ _, hb⟩
  · exact ⟨os, .inr ⟨h1, h2, h3⟩, h4, hb⟩
set_option maxHeartbeats 6400000 in
set_option maxRecDepth 100000 in
theorem tell_law (x : Pg) (nm : ByteArray) (hnm : nm.size ≤ maxLen) (w : World) (rx : pgLies w x) (hB : PgBd x) (hn : ∀ p ∈ x.procs.l, p.name.size ≤ maxLen ∧ ∀ y ∈ uq [] p.body.every, y.size ≤ maxLen) :
    Calls Tryz.prog 3 #[.agg #[.slice x.structs.p x.structs.l.length x.structs.cap, .slice x.globals.p x.globals.l.length x.globals.cap, .slice x.procs.p x.procs.l.length x.procs.cap], .string nm] w fun e w' => e = .returned (.bool true) ∧ Below w.heap.size w w' := by
  have HBA : Hid (Below w.heap.size w (w.alloc (.cells #[.slice x.structs.p x.structs.l.length x.structs.cap, .slice x.globals.p x.globals.l.length x.globals.cap, .slice x.procs.p x.procs.l.length x.procs.cap] 26))) := Lib.hid ((Below.refl _ _).alloc (Nat.le_refl _) _)
  have HX := Lib.hid (prog_box w (.slice x.structs.p x.structs.l.length x.structs.cap) (.slice x.globals.p x.globals.l.length x.globals.cap) (.slice x.procs.p x.procs.l.length x.procs.cap))
  have HRX := Lib.hid (pgLies_below rx HBA.out)
  have HFE := Lib.hid (few_any x (w.alloc (.cells #[.slice x.structs.p x.structs.l.length x.structs.cap, .slice x.globals.p x.globals.l.length x.globals.cap, .slice x.procs.p x.procs.l.length x.procs.cap] 26)) HRX.out hB)
  have HN := Lib.hid hn
  have HNM := Lib.hid hnm
  clear rx hB hn
  unfold maxLen at hnm
  go_enter Tryz.func3, Tryz.ntmps3
  go_wp2_with fail
  refine (HFE.out).mono ?_
  rintro en w2 ⟨b, rfl, hb, hs⟩
  have HB2 : Hid (Below w.heap.size w w2) := Lib.hid (HBA.out.trans (hb.mono HBA.out.size))
  have HX2 := Lib.hid (HX.out.below hb HX.out.lt)
  have HS2 := Lib.hid hs
  have HP2 := Lib.hid (pgLies_below HRX.out hb).2.2
  clear hb hs HFE HRX HX HBA
  rcases b with _ | _
  · go_wp2_with (go_at_call 5; refine (lives_any _).mono ?_; rintro en w3 ⟨rfl, hb⟩; have HB3 := Lib.hid hb; clear hb)
    go_ret
    exact ⟨rfl, HB2.out.trans (HB3.out.mono HB2.out.size)⟩
  have HPS : Hid (PsOk x.procs.l) := Lib.hid (opn.psok_of (HS2.out rfl) HN.out)
  clear HS2 HN
  obtain ⟨pb, hpb⟩ : ∃ pb, pb = w.heap.size := ⟨_, rfl⟩
  have HPB := Lib.hid hpb
  rw [← hpb] at HX2 ⊢
  clear hpb
  by_cases hbig : 1000 < nm.size
  · have hbig' : (1000 : Int) < (nm.size : Int) := by omega
    go_wp2_with (go_at_call 5; refine (lives_any _).mono ?_; rintro en w3 ⟨rfl, hb⟩; have HB3 := Lib.hid hb; clear hb)
    go_ret
    rw [HPB.out]
    exact ⟨rfl, HB2.out.trans (HB3.out.mono HB2.out.size)⟩
  have hsm : ¬ (1000 : Int) < (nm.size : Int) := by omega
  clear hbig
  have b0 : w2.cell? ⟨pb, 0, none⟩ = some (.slice x.structs.p x.structs.l.length x.structs.cap) := HX2.out.cell 0
  have b1 : w2.cell? ⟨pb, 1, none⟩ = some (.slice x.globals.p x.globals.l.length x.globals.cap) := HX2.out.cell 1
  have b2 : w2.cell? ⟨pb, 2, none⟩ = some (.slice x.procs.p x.procs.l.length x.procs.cap) := HX2.out.cell 2
  go_wp2_with fail
  refine (Tj.cycle_any _ _ x.procs w2 HP2.out HPS.out).mono ?_
  rintro en w3 ⟨a1, e1, rfl, hc1, hb⟩
  have HC1 := Lib.hid hc1
  have HX3 := Lib.hid (HX2.out.below hb HX2.out.lt)
  have HP3 := Lib.hid (pcsLie_below HP2.out hb)
  have HB3 : Hid (Below w.heap.size w w3) := Lib.hid (HB2.out.trans (hb.mono HB2.out.size))
  clear b0 b1 b2 hb hc1
  have b0 : w3.cell? ⟨pb, 0, none⟩ = some (.slice x.structs.p x.structs.l.length x.structs.cap) := HX3.out.cell 0
  have b1 : w3.cell? ⟨pb, 1, none⟩ = some (.slice x.globals.p x.globals.l.length x.globals.cap) := HX3.out.cell 1
  have b2 : w3.cell? ⟨pb, 2, none⟩ = some (.slice x.procs.p x.procs.l.length x.procs.cap) := HX3.out.cell 2
  go_wp2_with fail
  refine (rcycle_any _ _ x.procs w3 HP3.out HPS.out).mono ?_
  rintro en w4 ⟨a2, e2, rfl, hc2, hb⟩
  obtain ⟨rfl, rfl⟩ := cyc_one HC1.out hc2
  have HX4 := Lib.hid (HX3.out.below hb HX3.out.lt)
  have HP4 := Lib.hid (pcsLie_below HP3.out hb)
  have HB4 : Hid (Below w.heap.size w w4) := Lib.hid (HB3.out.trans (hb.mono HB3.out.size))
  clear b0 b1 b2 hb hc2 HC1 HP2 HP3 HX2 HX3 HB2 HB3
  have HF : Hid (∀ w', Below w4.heap.size w4 w' → pcsLie w' x.procs ∧ w'.cell? ⟨pb, 0, none⟩ = some (.slice x.structs.p x.structs.l.length x.structs.cap) ∧ w'.cell? ⟨pb, 1, none⟩ = some (.slice x.globals.p x.globals.l.length x.globals.cap) ∧ w'.cell? ⟨pb, 2, none⟩ = some (.slice x.procs.p x.procs.l.length x.procs.cap)) := Lib.hid fun w' hb =>
    ⟨pcsLie_below HP4.out hb, (HX4.out.below hb HX4.out.lt).cell 0, (HX4.out.below hb HX4.out.lt).cell 1, (HX4.out.below hb HX4.out.lt).cell 2⟩
  have HR1 : Hid (∀ (m : ByteArray) w', m.size ≤ maxLen → Below w4.heap.size w4 w' → Calls Tryz.prog 9 #[pagg x, .string m] w' fun e w'' => ∃ v fs, e = .returned v ∧ OR w'' w'.heap.size v fs ∧ RchPost x.procs.l m fs ∧ Below w'.heap.size w' w'') := Lib.hid fun m w' hm hb => Tj.reachN_any _ _ x.procs m hm w' (HF.out w' hb).1 HPS.out
  have HR2 : Hid (∀ (m : ByteArray) w', Below w4.heap.size w4 w' → Calls Tryz.prog 10 #[pagg x, .string m] w' fun e w'' => ∃ v fs, e = .returned v ∧ OR w'' w'.heap.size v fs ∧ RchPost x.procs.l m fs ∧ Below w'.heap.size w' w'') := Lib.hid fun m w' hb => rreach_any _ _ x.procs m w' (HF.out w' hb).1 HPS.out
  have HBD : Hid (Below w4.heap.size w4 w4.drew) := Lib.hid (below_drew (Below.refl _ _))
  have HLN : Hid (x.procs.l.length ≤ 1000) := Lib.hid HPS.out.len
  have b0 : w4.cell? ⟨pb, 0, none⟩ = some (.slice x.structs.p x.structs.l.length x.structs.cap) := HX4.out.cell 0
  have b1 : w4.cell? ⟨pb, 1, none⟩ = some (.slice x.globals.p x.globals.l.length x.globals.cap) := HX4.out.cell 1
  have b2 : w4.cell? ⟨pb, 2, none⟩ = some (.slice x.procs.p x.procs.l.length x.procs.cap) := HX4.out.cell 2
  go_wp2_with fail
  go_region_held3 (fun w' => w'.cell? ⟨pb, 0, none⟩ = some (.slice x.structs.p x.structs.l.length x.structs.cap) ∧ w'.cell? ⟨pb, 1, none⟩ = some (.slice x.globals.p x.globals.l.length x.globals.cap) ∧ w'.cell? ⟨pb, 2, none⟩ = some (.slice x.procs.p x.procs.l.length x.procs.cap))
    (first | exact (HF.out _ HBD.out).2 | exact (HF.out _ HB8.out).2 | exact (HF.out _ HB9.out).2 | exact (HF.out _ HB10.out).2 | fail)
    ((first
      | (go_at_call 9; have q1 := HR1.out nm _ HNM.out HBD.out; refine q1.mono ?_; clear q1; rintro en w8 ⟨v8, f8, rfl, ho, hr, hb⟩; have HO8 := Lib.hid ho; have HR8 := Lib.hid hr; have HB8 : Hid (Below w4.heap.size w4 w8) := Lib.hid (HBD.out.trans (hb.mono HBD.out.size)); obtain ⟨a8, c8, rfl⟩ := ho.shape; clear ho hr hb)
      | (go_at_call 10; have q1 := HR2.out nm _ HB8.out; refine q1.mono ?_; clear q1; rintro en w9 ⟨v9, f9, rfl, ho, hr, hb⟩; obtain rfl := rch_one HR8.out hr; have HO9 := Lib.hid ho; have HO8' := Lib.hid (own_below HO8.out hb); have HB9 : Hid (Below w4.heap.size w4 w9) := Lib.hid (HB8.out.trans (hb.mono HB8.out.size)); obtain ⟨a9, c9, rfl⟩ := ho.shape; clear ho hr hb)
      | (go_at_call 8; have q1 := HO8'.out; have q2 := HO9.out; have q3 := Nat.le_trans (rch_len HR8.out) HLN.out; have q4 := ints_m _ q1 q2 q3; refine q4.mono ?_; clear q1 q2 q3 q4; rintro en w10 ⟨rfl, hb⟩; have HB10 : Hid (Below w4.heap.size w4 w10) := Lib.hid (HB9.out.trans (hb.mono HB9.out.size)); clear hb)
      | fail))
  clear HO8 HR8 HB8 HO9 HO8' HB9 HBD b0 b1 b2
  have HB4' : Hid (Below w.heap.size w w10) := Lib.hid (HB4.out.trans (HB10.out.mono HB4.out.size))
  go_wp2_with fail
  go_loopw [9] (fun si wr => ∃ k : Nat, si = .int .i64 k ∧ k ≤ x.procs.l.length ∧ Hid (Below w4.heap.size w4 wr)) (fun si _ => x.procs.l.length - (Lib.intOf si).toNat)
  case atStart => exact ⟨0, rfl, Nat.zero_le _, HB10⟩
  case round =>
    obtain ⟨k, rfl, hk, HW⟩ := hrel
    obtain ⟨hps, b0, b1, b2⟩ := HF.out wr HW.out
    have hln := HLN.out
    have HPW := Lib.hid hps
    clear hps
    by_cases hks : k < x.procs.l.length
    · obtain ⟨xk, hxk⟩ : ∃ xk, x.procs.l[k]? = some xk := ⟨_, List.getElem?_eq_getElem hks⟩
      obtain ⟨ppb, ppo, hpp, hrg, -⟩ := pc_at HPW.out hxk
      have HXN : Hid (xk.name.size ≤ maxLen) := Lib.hid (HPS.out.names _ (List.mem_of_getElem? hxk))
      have HRG := Lib.hid hrg
      rw [hpp] at b2
      have HPP := Lib.hid hpp
      clear hpp
      have hnm : wr.cell? ⟨ppb, ppo + k * 6, none⟩ = some (.string xk.name) := by
        simpa using cell_at hrg 0 _ rfl
      have HXK := Lib.hid hxk
      clear hrg hxk
      have hks' : (k : Int) < (x.procs.l.length : Int) := by omega
      have HBD : Hid (Below wr.heap.size wr wr.drew) := Lib.hid (below_drew (Below.refl _ _))
      have HFB : Hid (∀ w', Below wr.heap.size wr w' → w'.cell? ⟨pb, 0, none⟩ = some (.slice x.structs.p x.structs.l.length x.structs.cap) ∧ w'.cell? ⟨pb, 1, none⟩ = some (.slice x.globals.p x.globals.l.length x.globals.cap) ∧ w'.cell? ⟨pb, 2, none⟩ = some (.slice (some ⟨ppb, ppo, none⟩) x.procs.l.length x.procs.cap) ∧ w'.cell? ⟨ppb, ppo + k * 6, none⟩ = some (.string xk.name)) := Lib.hid fun w' hb => by
        have q := HF.out w' (HW.out.trans (hb.mono HW.out.size))
        obtain ⟨b', o', hp', hr', -⟩ := pc_at q.1 HXK.out
        have e : (⟨b', o', none⟩ : Addr) = ⟨ppb, ppo, none⟩ := Option.some.inj (hp'.symm.trans HPP.out)
        injection e with e1 e2
        subst e1 e2
        exact ⟨q.2.1, q.2.2.1, HPP.out ▸ q.2.2.2, by simpa using cell_at hr' 0 _ rfl⟩
      have HR1' : Hid (∀ (m : ByteArray) w', m.size ≤ maxLen → Below wr.heap.size wr w' → Calls Tryz.prog 9 #[.agg #[.slice x.structs.p x.structs.l.length x.structs.cap, .slice x.globals.p x.globals.l.length x.globals.cap, .slice (some ⟨ppb, ppo, none⟩) x.procs.l.length x.procs.cap], .string m] w' fun e w'' => ∃ v fs, e = .returned v ∧ OR w'' w'.heap.size v fs ∧ RchPost x.procs.l m fs ∧ Below w'.heap.size w' w'') := Lib.hid fun m w' hm hb => by
        have q := HR1.out m w' hm (HW.out.trans (hb.mono HW.out.size))
        unfold pagg at q
        rw [HPP.out] at q
        exact q
      have HR2' : Hid (∀ (m : ByteArray) w', Below wr.heap.size wr w' → Calls Tryz.prog 10 #[.agg #[.slice x.structs.p x.structs.l.length x.structs.cap, .slice x.globals.p x.globals.l.length x.globals.cap, .slice (some ⟨ppb, ppo, none⟩) x.procs.l.length x.procs.cap], .string m] w' fun e w'' => ∃ v fs, e = .returned v ∧ OR w'' w'.heap.size v fs ∧ RchPost x.procs.l m fs ∧ Below w'.heap.size w' w'') := Lib.hid fun m w' hb => by
        have q := HR2.out m w' (HW.out.trans (hb.mono HW.out.size))
        unfold pagg at q
        rw [HPP.out] at q
        exact q
      go_wp2_with fail
      go_region_held3 (fun w' => w'.cell? ⟨pb, 0, none⟩ = some (.slice x.structs.p x.structs.l.length x.structs.cap) ∧ w'.cell? ⟨pb, 1, none⟩ = some (.slice x.globals.p x.globals.l.length x.globals.cap) ∧ w'.cell? ⟨pb, 2, none⟩ = some (.slice (some ⟨ppb, ppo, none⟩) x.procs.l.length x.procs.cap) ∧ w'.cell? ⟨ppb, ppo + k * 6, none⟩ = some (.string xk.name))
        (first | exact HFB.out _ HBD.out | exact HFB.out _ HB8.out | exact HFB.out _ HB9.out | exact HFB.out _ HB11.out | fail)
        ((first
          | (go_at_call 9; have q1 := HR1'.out xk.name _ HXN.out HBD.out; refine q1.mono ?_; clear q1; rintro en w8 ⟨v8, f8, rfl, ho, hr, hb⟩; have HO8 := Lib.hid ho; have HR8 := Lib.hid hr; have HB8 : Hid (Below wr.heap.size wr w8) := Lib.hid (HBD.out.trans (hb.mono HBD.out.size)); obtain ⟨a8, c8, rfl⟩ := ho.shape; clear ho hr hb)
          | (go_at_call 10; have q1 := HR2'.out xk.name _ HB8.out; refine q1.mono ?_; clear q1; rintro en w9 ⟨v9, f9, rfl, ho, hr, hb⟩; obtain rfl := rch_one HR8.out hr; have HO9 := Lib.hid ho; have HO8' := Lib.hid (own_below HO8.out hb); have HB9 : Hid (Below wr.heap.size wr w9) := Lib.hid (HB8.out.trans (hb.mono HB8.out.size)); obtain ⟨a9, c9, rfl⟩ := ho.shape; clear ho hr hb)
          | (go_at_call 8; have q1 := HO8'.out; have q2 := HO9.out; have q3 := Nat.le_trans (rch_len HR8.out) HLN.out; have q4 := ints_m _ q1 q2 q3; refine q4.mono ?_; clear q1 q2 q3 q4; rintro en w11 ⟨rfl, hb⟩; have HB11 : Hid (Below wr.heap.size wr w11) := Lib.hid (HB9.out.trans (hb.mono HB9.out.size)); clear hb)
          | fail))
      clear HO8 HR8 HB8 HO9 HO8' HB9 HBD b0 b1 b2
      go_wp2_with fail
      go_roundw
      case rel => exact ⟨k + 1, by go_num, by omega, Lib.hid (HW.out.trans (HB11.out.mono HW.out.size))⟩
      case measure => simp [Lib.intOf]; omega
    · have HBF : Hid (Below w.heap.size w wr) := Lib.hid (HB4.out.trans (HW.out.mono HB4.out.size))
      have hkn : ¬ (k : Int) < (x.procs.l.length : Int) := by omega
      go_wp2_with fail
      have HFB : Hid (∀ w', Below wr.heap.size wr w' → pcsLie w' x.procs ∧ w'.cell? ⟨pb, 0, none⟩ = some (.slice x.structs.p x.structs.l.length x.structs.cap) ∧ w'.cell? ⟨pb, 1, none⟩ = some (.slice x.globals.p x.globals.l.length x.globals.cap) ∧ w'.cell? ⟨pb, 2, none⟩ = some (.slice x.procs.p x.procs.l.length x.procs.cap)) := Lib.hid fun w' hb => HF.out w' (HW.out.trans (hb.mono HW.out.size))
      have HO1 : Hid (∀ w', Below wr.heap.size wr w' → Calls Tryz.prog 11 #[pagg x] w' fun e w'' => ∃ v os, e = .returned v ∧ OrdIs x.procs.l os ∧ OR w'' w'.heap.size v os ∧ Below w'.heap.size w' w'') := Lib.hid fun w' hb => (porder_any _ _ x.procs w' (HFB.out w' hb).1 HPS.out).mono fun e w'' h => by
        obtain ⟨v, rfl, hv⟩ := h
        obtain ⟨os, q1, q2, q3⟩ := ordPost_is HPS.out hv
        exact ⟨v, os, rfl, q1, q2, q3⟩
      have HO2 : Hid (∀ w', Below wr.heap.size wr w' → Calls Tryz.prog 12 #[pagg x] w' fun e w'' => ∃ v os, e = .returned v ∧ OrdIs x.procs.l os ∧ OR w'' w'.heap.size v os ∧ Below w'.heap.size w' w'') := Lib.hid fun w' hb => (rorder_any _ _ x.procs w' (HFB.out w' hb).1 HPS.out).mono fun e w'' h => by
        obtain ⟨v, rfl, hv⟩ := h
        obtain ⟨os, q1, q2, q3⟩ := rord_is hv
        exact ⟨v, os, rfl, q1, q2, q3⟩
      have HBD : Hid (Below wr.heap.size wr wr.drew) := Lib.hid (below_drew (Below.refl _ _))
      go_region_held3 (fun w' => w'.cell? ⟨pb, 0, none⟩ = some (.slice x.structs.p x.structs.l.length x.structs.cap) ∧ w'.cell? ⟨pb, 1, none⟩ = some (.slice x.globals.p x.globals.l.length x.globals.cap) ∧ w'.cell? ⟨pb, 2, none⟩ = some (.slice x.procs.p x.procs.l.length x.procs.cap))
        (first | exact (HFB.out _ HBD.out).2 | exact (HFB.out _ HB8.out).2 | exact (HFB.out _ HB9.out).2 | exact (HFB.out _ HB11.out).2 | exact (HFB.out _ HB12.out).2 | fail)
        ((first
          | (go_at_call 11; have q1 := HO1.out _ HBD.out; refine q1.mono ?_; clear q1; rintro en w8 ⟨v8, f8, rfl, hr, ho, hb⟩; have HO8 := Lib.hid ho; have HR8 := Lib.hid hr; have HB8 : Hid (Below wr.heap.size wr w8) := Lib.hid (HBD.out.trans (hb.mono HBD.out.size)); obtain ⟨a8, c8, rfl⟩ := ho.shape; clear ho hr hb)
          | (go_at_call 12; have q1 := HO2.out _ HB8.out; refine q1.mono ?_; clear q1; rintro en w9 ⟨v9, f9, rfl, hr, ho, hb⟩; obtain rfl := ordIs_one HR8.out hr; have HO9 := Lib.hid ho; have HO8' := Lib.hid (own_below HO8.out hb); have HB9 : Hid (Below wr.heap.size wr w9) := Lib.hid (HB8.out.trans (hb.mono HB8.out.size)); obtain ⟨a9, c9, rfl⟩ := ho.shape; clear ho hr hb)
          | (go_at_call 8; have q1 := HO8'.out; have q2 := HO9.out; have q3 := Nat.le_trans (ordIs_len HR8.out) HLN.out; have q4 := ints_m _ q1 q2 q3; refine q4.mono ?_; clear q1 q2 q3 q4; rintro en w11 ⟨rfl, hb⟩; have HB11 : Hid (Below wr.heap.size wr w11) := Lib.hid (HB9.out.trans (hb.mono HB9.out.size)); clear hb)
          | (go_at_call 5; have q1 := lives_any; refine (q1 _).mono ?_; clear q1; rintro en w12 ⟨rfl, hb⟩; have HB12 : Hid (Below wr.heap.size wr w12) := Lib.hid (HB11.out.trans (hb.mono HB11.out.size)); clear hb)
          | fail))
      go_wp2_with fail
      go_ret
      exact ⟨rfl, HBF.out.trans (HB12.out.mono HBF.out.size)⟩
end Go.Proofs.YtmhpaacjioeknaaGreat
