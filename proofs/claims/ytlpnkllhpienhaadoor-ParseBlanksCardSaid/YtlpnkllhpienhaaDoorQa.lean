/-
  DERIVED. The walk of the parser's path.
-/
import Derived.Test.YtlpnkllhpienhaaDoorPk
import Derived.Deep.RegionLaw
import Derived.Deep.LoopGhost
namespace Go.Proofs.YtlpnkllhpienhaaDoor
open Go.RowKit Go.Sort

attribute [local go_sem] field79_0 field79_1 field79_2 field79_3
section
variable {pb sb cap : Nat} {l : List Tx.Sg}
theorem own_shape {w : World} {base : Nat} {e : TypeId} {size : Nat} {v : Value} {n : Nat} {xs : List Value} (h : w.ownsRow base e size v n xs) : ∃ a c, v = .slice a n c := by
  rcases h.2 with ⟨rfl, h0⟩ | ⟨g, cap, cur, rfl, hg, hr⟩
  · subst h0; exact ⟨_, _, rfl⟩
  · exact ⟨_, _, rfl⟩
theorem zinfoHp : (Tryd.prog.info? 103).map (fun i => (i.zero, i.size, i.bytes)) = some (some (.agg #[.string ByteArray.empty, .int .i64 0]), 2, 24) := by kernel_rfl
theorem hp_one (x : Hp) : ∀ u ∈ x.cells, u.oneCell' = true := by
  intro u hu; simp only [List.mem_cons, List.not_mem_nil, or_false] at hu; rcases hu with rfl | rfl <;> rfl
/-- The end of a call that hands back a path through a result of its own. -/
theorem path_result {w2 : World} {n : ByteArray} {p : Int} {v s : Value} {R : Nat} {a b : Value} (hk : Bk w2 R 43 #[a, b, s]) :
    Bk (((w2.setCell ⟨R, 0, none⟩ (.string n)).setCell ⟨R, 1, none⟩ (.int .i64 p)).setCell ⟨R, 2, none⟩ v) R 43 #[.string n, .int .i64 p, v] ∧
    w2.grownBy (((w2.setCell ⟨R, 0, none⟩ (.string n)).setCell ⟨R, 1, none⟩ (.int .i64 p)).setCell ⟨R, 2, none⟩ v) (some R) :=
  ⟨((hk.set_ 0 _).set_ 1 _).set_ 2 _, grownBy_tr (grownBy_tr (grownBy_setC _ ⟨R, 0, none⟩ _) (grownBy_setC _ ⟨R, 1, none⟩ _)) (grownBy_setC _ ⟨R, 2, none⟩ _)⟩
set_option maxHeartbeats 3200000 in
set_option maxRecDepth 100000 in
theorem path_any (w : World) (u : Pr.St) (h : PS w pb sb cap l u.i u.o u.b) (hg : Good l) :
    Calls Tryd.prog 60 #[.pointer (some ⟨pb, 0, none⟩)] w (Outc (kPth.Val w.heap.size) w pb sb cap l (Pr.path (l.map Pr.tk) u)) := by
  obtain ⟨r, hr⟩ : ∃ r, r = Pr.path (l.map Pr.tk) u := ⟨_, rfl⟩
  rw [← hr]
  have HR := Lib.hid hr
  have HL := Lib.hid hg
  have hn : Below w.heap.size w (w.alloc (.cells #[.string ByteArray.empty, .int .i64 0, .slice none 0 0] 43)) := (Below.refl _ _).alloc (Nat.le_refl _) _
  have HK : Hid (Bk (w.alloc (.cells #[.string ByteArray.empty, .int .i64 0, .slice none 0 0] 43)) w.heap.size 43 #[.string ByteArray.empty, .int .i64 0, .slice none 0 0]) := Lib.hid (heap_alloc_new _ _)
  have HNE : Hid (w.heap.size ≠ pb ∧ w.heap.size ≠ sb ∧ pb < w.heap.size ∧ sb < w.heap.size) := Lib.hid ⟨fun e => by have := h.pb_lt; omega, fun e => by have := h.sb_lt; omega, h.pb_lt, h.sb_lt⟩
  have HZ : Hid ((w.alloc (.cells #[.string ByteArray.empty, .int .i64 0, .slice none 0 0] 43)).heap.size = w.heap.size + 1) := Lib.hid (by simp)
  have HG : Hid (w.grownBy (w.alloc (.cells #[.string ByteArray.empty, .int .i64 0, .slice none 0 0] 43)) (some pb)) := Lib.hid (grownBy_of hn _)
  have HP := Lib.hid (h.below hn)
  generalize hwA : w.alloc (.cells #[.string ByteArray.empty, .int .i64 0, .slice none 0 0] 43) = wA at HK HG HP HZ
  clear h hg hr hn
  go_enter Tryd.func60, Tryd.ntmps60
  go_wp2_with fail
  rw [show w.alloc (.cells #[.string ⟨#[]⟩, .int .i64 0, .slice none 0 0] 43) = wA from hwA]
  clear hwA
  refine (name_any wA u HP.out HL.out).mono ?_; intro en w1 ho
  rcases hm1 : Pr.name (l.map Pr.tk) u with n | ⟨a1, u1⟩
  · obtain ⟨p, rfl, g1⟩ := ho.of_err hm1
    exact ⟨rfl, Outc.err (by rw [HR.out]; simp only [Pr.path, Pr.th, hm1]) (grownBy_tr HG.out g1)⟩
  obtain ⟨v, rfl, ⟨x, rfl, hx⟩, h1, g1⟩ := ho.of_ok hm1
  have HX := Lib.hid hx
  have HP1 := Lib.hid h1; have HG1 := Lib.hid (grownBy_tr HG.out g1); have HK1 := Lib.hid (HK.out.kept g1 HNE.out.1)
  have HM1 := Lib.hid hm1
  clear h1 g1 ho hx hm1
  go_upto_region 2 with fail
  have hm : Below w1.heap.size w1 (w1.alloc (.cells #[.int .i64 x.kind, .int .i64 x.pos, .string x.text, .int .i64 x.num] 79)) := (Below.refl _ _).alloc (Nat.le_refl _) _
  have HP2 := Lib.hid (HP1.out.below hm)
  have HK2 := Lib.hid (HK1.out.below hm HK1.out.lt)
  have HF : Hid (Bk (w1.alloc (.cells #[.int .i64 x.kind, .int .i64 x.pos, .string x.text, .int .i64 x.num] 79)) w1.heap.size 79 #[.int .i64 x.kind, .int .i64 x.pos, .string x.text, .int .i64 x.num]) := Lib.hid (heap_alloc_new _ _)
  have HG2 : Hid (w.grownBy (w1.alloc (.cells #[.int .i64 x.kind, .int .i64 x.pos, .string x.text, .int .i64 x.num] 79)) (some pb)) := Lib.hid (grownBy_below HG1.out hm)
  obtain ⟨F, hF⟩ : ∃ F, F = w1.heap.size := ⟨_, rfl⟩
  rw [← hF] at HF ⊢
  clear hF hm
  generalize w1.alloc (.cells #[.int .i64 x.kind, .int .i64 x.pos, .string x.text, .int .i64 x.num] 79) = w2 at HP2 HK2 HF HG2 ⊢
  have t1 : w2.cell? ⟨F, 1, none⟩ = some (.int .i64 x.pos) := HF.out.cell 1
  have t2 : w2.cell? ⟨F, 2, none⟩ = some (.string x.text) := HF.out.cell 2
  go_wp2_with fail
  clear t1 t2
  have hm : Below w2.heap.size w2 (w2.alloc (.cells #[.string x.text, .int .i64 x.pos, .slice none 0 0] 43)) := (Below.refl _ _).alloc (Nat.le_refl _) _
  have HP3 := Lib.hid (HP2.out.below hm)
  have HK3 := Lib.hid (HK2.out.below hm HK2.out.lt)
  have HS : Hid (Bk (w2.alloc (.cells #[.string x.text, .int .i64 x.pos, .slice none 0 0] 43)) w2.heap.size 43 #[.string x.text, .int .i64 x.pos, .slice none 0 0]) := Lib.hid (heap_alloc_new _ _)
  have HG3 : Hid (w.grownBy (w2.alloc (.cells #[.string x.text, .int .i64 x.pos, .slice none 0 0] 43)) (some pb)) := Lib.hid (grownBy_below HG2.out hm)
  have HSZ : Hid ((w2.alloc (.cells #[.string x.text, .int .i64 x.pos, .slice none 0 0] 43)).heap.size = w2.heap.size + 1) := Lib.hid (by simp)
  obtain ⟨S, hS⟩ : ∃ S, S = w2.heap.size := ⟨_, rfl⟩
  have HSN : Hid (S ≠ pb ∧ S ≠ sb ∧ w.heap.size ≠ S ∧ w.heap.size ≤ S ∧ pb < S ∧ sb < S) := Lib.hid ⟨by have := HP2.out.pb_lt; omega, by have := HP2.out.sb_lt; omega, by have := HK2.out.lt; omega, by have := HK2.out.lt; omega, by have := HP2.out.pb_lt; omega, by have := HP2.out.sb_lt; omega⟩
  rw [← hS] at HS HSZ ⊢
  clear hS hm HF
  change Code.wp _ _ _ _ (w2.alloc (.cells #[.string x.text, .int .i64 x.pos, .slice none 0 0] 43))
  generalize w2.alloc (.cells #[.string x.text, .int .i64 x.pos, .slice none 0 0] 43) = w3 at HP3 HK3 HS HG3 HSZ ⊢
  obtain ⟨i0, hi0, hz0, hz1, hz2⟩ := info_parts zinfoHp
  have HI := Lib.hid hi0; have HZ0 := Lib.hid hz0; have HZ1 := Lib.hid hz1; have HZ2 := Lib.hid hz2
  clear hi0 hz0 hz1 hz2
  go_loopg [] 8 (fun g wr => ∃ (acc : List Hp) (v : Value) (un : Pr.St), g + acc.length = 8 ∧ Hid (Pr.hops (l.map Pr.tk) g acc un = Pr.hops (l.map Pr.tk) 8 [] u1) ∧ Hid (kHp.Gr w3.heap.size acc v wr) ∧ Hid (Bk wr S 43 #[.string x.text, .int .i64 x.pos, v]) ∧ Hid (PS wr pb sb cap l un.i un.o un.b) ∧ Hid (Bk wr w.heap.size 43 #[.string ByteArray.empty, .int .i64 0, .slice none 0 0]) ∧ Hid (w.grownBy wr (some pb)) ∧ Hid (w3.heap.size ≤ wr.heap.size))
  case atStart => exact ⟨[], .slice none 0 0, u1, rfl, Lib.hid rfl, Lib.hid (Kd.Gr.nil kHp (World.ownsRow_nil _ _ _ _)), HS, HP3, HK3, HG3, Lib.hid (Nat.le_refl _)⟩
  case round =>
    obtain ⟨acc, v, un, hg8, HH, HGr, HSr, HPr, HKr, HGw, HLE⟩ := hrel
    obtain ⟨y, hy⟩ := HPr.out.at
    have HIS := Lib.hid (Pr.is_tk hy ⟨#[45, 62]⟩)
    have HY := Lib.hid hy
    obtain ⟨ys, hy1, hy2, hy3⟩ := HGr.out
    have HY1 := Lib.hid hy1; have HY2 := Lib.hid hy2; have HY3 := Lib.hid hy3
    obtain ⟨a0, c0, rfl⟩ := own_shape hy2
    clear hy1 hy2 hy3
    have HA := Lib.hid (stands_any y ⟨#[45, 62]⟩ wr HPr.out HL.out hy)
    clear hy
    rcases q1 : (y.text.toList == (⟨#[45, 62]⟩ : ByteArray).toList) with _ | _
    · have HQ := Lib.hid q1
      rw [q1] at HA
      clear q1
      go_wp2_with fail
      refine (HA.out).mono ?_; rintro en w4 ⟨rfl, hb⟩
      have HP4 := Lib.hid (HPr.out.below hb); have HK4 := Lib.hid (HKr.out.below hb HKr.out.lt); have HS4 := Lib.hid (HSr.out.below hb HSr.out.lt); have HG4 := Lib.hid (grownBy_below HGw.out hb); have HGr4 := Lib.hid (HGr.out.below hb)
      clear hb
      have s0 : w4.cell? ⟨S, 0, none⟩ = some (.string x.text) := HS4.out.cell 0
      have s1 : w4.cell? ⟨S, 1, none⟩ = some (.int .i64 x.pos) := HS4.out.cell 1
      have s2 : w4.cell? ⟨S, 2, none⟩ = some (.slice a0 acc.length c0) := HS4.out.cell 2
      have r0 : w4.cell? ⟨w.heap.size, 0, none⟩ = some (.string ByteArray.empty) := HK4.out.cell 0
      have r1 : w4.cell? ⟨w.heap.size, 1, none⟩ = some (.int .i64 0) := HK4.out.cell 1
      have r2 : w4.cell? ⟨w.heap.size, 2, none⟩ = some (.slice none 0 0) := HK4.out.cell 2
      have f0 := HK4.out.frozen 0
      have f1 := HK4.out.frozen 1
      have f2 := HK4.out.frozen 2
      go_wp2_with fail
      clear s0 s1 s2 r0 r1 r2 f0 f1 f2
      obtain ⟨hB, hF⟩ := path_result (n := x.text) (p := x.pos) (v := .slice a0 acc.length c0) HK4.out
      generalize ((w4.setCell ⟨w.heap.size, 0, none⟩ (.string x.text)).setCell ⟨w.heap.size, 1, none⟩ (.int .i64 x.pos)).setCell ⟨w.heap.size, 2, none⟩ (.slice a0 acc.length c0) = w5 at hB hF ⊢
      have e0 := hB.cell 0
      have e1 := hB.cell 1
      have e2 := hB.cell 2
      have hfin := HGr4.out.par hF (by have := HSZ.out; have := HSN.out.2.2.2.1; omega)
      obtain ⟨sl, hv, hsl, hly⟩ := Kd.fin kHp (by show acc.length * 24 ≤ _; omega) hfin
      refine bodyPost_ret (v := .agg #[.string x.text, .int .i64 x.pos, .slice a0 acc.length c0]) (by simp [results, Tryd.results60, go_sem, e0, e1, e2]) rfl (Outc.ok (u := un) (a := ⟨a1.text, 0, ⟨none, 0, acc⟩⟩) ?_ (grownBy_mine HG4.out hF) ⟨⟨x.text, x.pos, sl⟩, ?_, ?_, ?_⟩ (HP4.out.far hF HNE.out.1 HNE.out.2.1))
      · have hh : Pr.hops (l.map Pr.tk) gk acc un = .ok (acc, un) := by
          cases gk with
          | zero => simp only [Pr.hops, HIS.out, HQ.out, Bool.false_eq_true, if_false]
          | succ n => simp only [Pr.hops, HIS.out, HQ.out, Bool.false_eq_true, if_false]
        rw [HR.out]; simp only [Pr.path, Pr.th, HM1.out]; rw [← HH.out, hh]
      · rw [hv]; rfl
      · show Pth.er _ = _; rw [← HX.out]; simp only [Pth.er, Sl.er, Pr.tk]; rw [show sl.l.map Hp.er = acc from hsl]
      · exact hopsLie_ext (fresh_rest (r := none) (B' := w.heap.size) (by have := HSZ.out; have := HSN.out.2.2.2.1; omega) (by simp) |>.trans rest_fresh) hly
    · have HQ := Lib.hid q1
      have hk0 : y.kind ≠ 0 := HL.out.kind HY.out q1 (by rw [Lib.toList_data]; decide)
      have HK0 := Lib.hid hk0
      rw [q1] at HA
      clear q1 hk0
      go_wp2_with fail
      refine (HA.out).mono ?_; rintro en w4 ⟨rfl, hb⟩
      have HP4 := Lib.hid (HPr.out.below hb); have HK4 := Lib.hid (HKr.out.below hb HKr.out.lt); have HS4 := Lib.hid (HSr.out.below hb HSr.out.lt); have HG4 := Lib.hid (grownBy_below HGw.out hb); have HGr4 := Lib.hid (HGr.out.below hb); have HLE4 := Lib.hid (Nat.le_trans HLE.out hb.size); have HB4 := Lib.hid hb
      clear hb
      have s2 : w4.cell? ⟨S, 2, none⟩ = some (.slice a0 acc.length c0) := HS4.out.cell 2
      by_cases h8 : gk = 0
      · have hd : ((acc.length : Int) == 8) = true := by rw [beq_iff_eq]; omega
        go_wp2_with fail
        refine ((stop_any y 11 w4 HP4.out HL.out HY.out).mono (fun e w'' ⟨h1, h2⟩ => (⟨h1.trans (faultN_at HY.out 11), h2⟩ : e = faultN l (11, un.i) ∧ Below w4.heap.size w4 w''))).mono ?_; rintro en w5 ⟨rfl, hb⟩
        subst h8
        exact ⟨rfl, Outc.err (by rw [HR.out]; simp only [Pr.path, Pr.th, HM1.out]; rw [← HH.out]; simp only [Pr.hops, HIS.out, HQ.out, if_true]) (grownBy_below HG4.out hb)⟩
      · have hd : ((acc.length : Int) == 8) = false := by rw [beq_eq_false_iff_ne]; omega
        go_wp2_with fail
        clear s2
        refine (take_any y w4 HP4.out HL.out HY.out HK0.out).mono ?_; rintro en w5 ⟨rfl, h5, g5⟩
        have HP5 := Lib.hid h5; have HK5 := Lib.hid (HK4.out.kept g5 HNE.out.1); have HS5 := Lib.hid (HS4.out.kept g5 HSN.out.1); have HG5 := Lib.hid (grownBy_tr HG4.out g5); have HLE5 := Lib.hid (Nat.le_trans HLE4.out g5.size)
        have HO5 := Lib.hid (own_par (own_keep HY2.out HB4.out) g5 (by have := HSZ.out; have := HSN.out; omega))
        have HY5 : Hid (∀ z ∈ ys, kHp.R (rest w3.heap.size (Value.slice a0 acc.length c0).ownBlock w5) z) := Lib.hid (fun z hz => kHp.ext z ((rest_below HB4.out).trans (rest_par g5 (by have := HSZ.out; have := HSN.out; omega))) (HY3.out z hz))
        clear h5 g5 HP4 HK4 HS4 HG4 HGr4 HLE4 HB4
        go_upto_region 7 with fail
        have hm : Below w5.heap.size w5 (w5.alloc (.cells #[.int .i64 y.kind, .int .i64 y.pos, .string y.text, .int .i64 y.num] 79)) := (Below.refl _ _).alloc (Nat.le_refl _) _
        have HP6 := Lib.hid (HP5.out.below hm)
        have HK6 := Lib.hid (HK5.out.below hm HK5.out.lt)
        have HS6 := Lib.hid (HS5.out.below hm HS5.out.lt)
        have HT : Hid (Bk (w5.alloc (.cells #[.int .i64 y.kind, .int .i64 y.pos, .string y.text, .int .i64 y.num] 79)) w5.heap.size 79 #[.int .i64 y.kind, .int .i64 y.pos, .string y.text, .int .i64 y.num]) := Lib.hid (heap_alloc_new _ _)
        have HG6 : Hid (w.grownBy (w5.alloc (.cells #[.int .i64 y.kind, .int .i64 y.pos, .string y.text, .int .i64 y.num] 79)) (some pb)) := Lib.hid (grownBy_below HG5.out hm)
        have HO6 := Lib.hid (own_keep HO5.out hm)
        have HY6 : Hid (∀ z ∈ ys, kHp.R (rest w3.heap.size (Value.slice a0 acc.length c0).ownBlock (w5.alloc (.cells #[.int .i64 y.kind, .int .i64 y.pos, .string y.text, .int .i64 y.num] 79))) z) := Lib.hid (fun z hz => kHp.ext z (rest_below hm) (HY5.out z hz))
        have HLE6 := Lib.hid (Nat.le_trans HLE5.out hm.size)
        obtain ⟨T, hT⟩ : ∃ T, T = w5.heap.size := ⟨_, rfl⟩
        have HTN : Hid (w3.heap.size ≤ T ∧ T ≠ pb) := Lib.hid ⟨by have := HLE5.out; omega, by have := HP5.out.pb_lt; omega⟩
        rw [← hT] at HT ⊢
        clear hT hm HP5 HK5 HS5 HG5 HO5 HY5 HLE5
        generalize w5.alloc (.cells #[.int .i64 y.kind, .int .i64 y.pos, .string y.text, .int .i64 y.num] 79) = w6 at HP6 HK6 HS6 HT HG6 HO6 HY6 HLE6 ⊢
        have s2 : w6.cell? ⟨S, 2, none⟩ = some (.slice a0 acc.length c0) := HS6.out.cell 2
        have t1 : w6.cell? ⟨T, 1, none⟩ = some (.int .i64 y.pos) := HT.out.cell 1
        have HPD : Hid (PS w6.drew pb sb cap l un.go.i un.go.o un.go.b) := Lib.hid (HP6.out.below (below_drew (Below.refl _ _)))
        have HKD : Hid (Bk w6.drew w.heap.size 43 #[.string ByteArray.empty, .int .i64 0, .slice none 0 0]) := Lib.hid HK6.out
        have HSD : Hid (Bk w6.drew S 43 #[.string x.text, .int .i64 x.pos, .slice a0 acc.length c0]) := Lib.hid HS6.out
        have HTD : Hid (Bk w6.drew T 79 #[.int .i64 y.kind, .int .i64 y.pos, .string y.text, .int .i64 y.num]) := Lib.hid HT.out
        have HGD : Hid (w.grownBy w6.drew (some pb)) := Lib.hid (grownBy_drew HG6.out)
        have HOD := Lib.hid (own_keep HO6.out (below_drew (Below.refl _ _)))
        have HYD : Hid (∀ z ∈ ys, kHp.R (rest w3.heap.size (Value.slice a0 acc.length c0).ownBlock w6.drew) z) := Lib.hid (fun z hz => kHp.ext z (rest_below (below_drew (Below.refl _ _))) (HY6.out z hz))
        have HLED : Hid (w3.heap.size ≤ w6.drew.heap.size) := Lib.hid HLE6.out
        clear HP6 HK6 HS6 HT HG6 HO6 HY6 HLE6
        go_region_law (first
          | (go_simp; go_at_call 34; (with_reducible refine (name_any _ un.go HPD.out HL.out).mono ?_); intro en w7 ho; rcases hm2 : Pr.name (l.map Pr.tk) un.go with n | ⟨a2, u2⟩; (· obtain ⟨p, rfl, g7⟩ := ho.of_err hm2; exact ⟨rfl, Outc.err (by rw [HR.out]; simp only [Pr.path, Pr.th, HM1.out]; rw [← HH.out]; obtain ⟨gj, rfl⟩ : ∃ k, gk = k + 1 := ⟨gk - 1, by omega⟩; simp only [Pr.hops, Pr.th, HIS.out, HQ.out, if_true, hm2]) (grownBy_tr HGD.out g7)⟩); obtain ⟨v, rfl, ⟨z, rfl, hz⟩, h7, g7⟩ := ho.of_ok hm2; have HZE := Lib.hid hz; have HM2 := Lib.hid hm2; have HP7 := Lib.hid h7; have HK7 := Lib.hid (HKD.out.kept g7 HNE.out.1); have HS7 := Lib.hid (HSD.out.kept g7 HSN.out.1); have HT7 := Lib.hid (HTD.out.kept g7 HTN.out.2); have HG7 := Lib.hid (grownBy_tr HGD.out g7); have HO7 := Lib.hid (own_par HOD.out g7 (by have := HSZ.out; have := HSN.out; omega)); have HY7 : Hid (∀ z ∈ ys, kHp.R (rest w3.heap.size (Value.slice a0 acc.length c0).ownBlock w7) z) := Lib.hid (fun z hz => kHp.ext z (rest_par g7 (by have := HSZ.out; have := HSN.out; omega)) (HYD.out z hz)); have HLE7 := Lib.hid (Nat.le_trans HLED.out g7.size); have s27 : w7.cell? ⟨S, 2, none⟩ = some (.slice a0 acc.length c0) := HS7.out.cell 2; have t17 : w7.cell? ⟨T, 1, none⟩ = some (.int .i64 y.pos) := HT7.out.cell 1; have s27a : ∀ ob, (w7.alloc ob).cell? ⟨S, 2, none⟩ = some (.slice a0 acc.length c0) := (fun ob => (World.cell?_alloc_lt _ _ _ HS7.out.lt).trans s27); clear h7 g7 ho hz hm2; (try dsimp only))
          | (refine step_append_lies _ rfl (.tmp 24) (.tmp 31) 41 rfl w3.heap.size 103 i0 (.agg #[.string ByteArray.empty, .int .i64 0]) 2 24 Tryd.underlying41 HI.out HZ0.out HZ1.out HZ2.out rfl (by decide) _ acc.length _ rfl (HO7.out.alloc _) ⟨w7.heap.size, 0, none⟩ 1 1 (Hp.cells ⟨z.text, y.pos⟩) rfl rfl (World.news_of_block (heap_alloc_new _ _)) (hp_one _) (by decide) (by unfold maxLen; omega) (by omega) (Nat.le_trans HLE7.out (by simp)) _ rfl ?_; intro g cap' w8 hown8 hgrow8 hat8 hlt8; have HO8 := Lib.hid hown8; have HN8 : Hid (∀ q, (Value.slice a0 acc.length c0).ownBlock = some q → w3.heap.size ≤ q) := Lib.hid (fun q hq => (HO7.out.lt q hq).1); have HB8 : Hid (Below w7.heap.size w7 (w7.alloc (.cells #[.string z.text, .int .i64 y.pos] 103))) := Lib.hid ((Below.refl _ _).alloc (Nat.le_refl _) _); have HGR8 := Lib.hid hgrow8; have HAT8 := Lib.hid hat8; have HP8 := Lib.hid ((HP7.out.below HB8.out).grown hgrow8 (fun q hq => by have := HN8.out q hq; have := HSZ.out; have := HSN.out; omega)); have HK8 := Lib.hid ((HK7.out.below HB8.out HK7.out.lt).grown hgrow8 (fun q hq => by have := HN8.out q hq; have := HSZ.out; have := HSN.out; omega)); have HS8 := Lib.hid ((HS7.out.below HB8.out HS7.out.lt).grown hgrow8 (fun q hq => by have := HN8.out q hq; have := HSZ.out; omega)); have HG8 := Lib.hid (grownBy_up (grownBy_below HG7.out HB8.out) hgrow8 (fun q hq => by have := HN8.out q hq; have := HSZ.out; have := HSN.out; omega)); have HLE8 : Hid (w3.heap.size ≤ w8.heap.size) := Lib.hid (by have := hgrow8.size; have := HLE7.out; simp at *; omega); have s28 : w8.cell? ⟨S, 2, none⟩ = some (.slice a0 acc.length c0) := HS8.out.cell 2; have f28 : w8.frozen? ⟨S, 2, none⟩ = false := HS8.out.frozen 2; clear hown8 hgrow8 hat8 hlt8))
        all_goals
          have gS := grownBy_setC w8 ⟨S, 2, none⟩ (.slice (some ⟨g, 0, none⟩) (acc.length + 1) cap')
          have HP9 := Lib.hid (HP8.out.far gS HSN.out.1 HSN.out.2.1)
          have HK9 := Lib.hid (HK8.out.kept gS HSN.out.2.2.1)
          have HS9 : Hid (Bk (w8.setCell ⟨S, 2, none⟩ (.slice (some ⟨g, 0, none⟩) (acc.length + 1) cap')) S 43 #[.string x.text, .int .i64 x.pos, .slice (some ⟨g, 0, none⟩) (acc.length + 1) cap']) := Lib.hid (HS8.out.set_ 2 _)
          have HG9 : Hid (w.grownBy (w8.setCell ⟨S, 2, none⟩ (.slice (some ⟨g, 0, none⟩) (acc.length + 1) cap')) (some pb)) := Lib.hid (grownBy_under HG8.out gS HSN.out.2.2.2.1)
          have hgr : kHp.Gr w3.heap.size (acc ++ [kHp.er ⟨z.text, y.pos⟩]) (.slice (some ⟨g, 0, none⟩) (acc.length + 1) cap') w8 := Kd.add kHp HY1.out (fun q hq => kHp.ext q (rest_below HB8.out) (HY7.out q hq)) HGR8.out HAT8.out HO8.out trivial
          have HR9 := Lib.hid (hgr.par gS (by have := HSZ.out; show S < _; omega))
          have HLE9 := Lib.hid (Nat.le_trans HLE8.out gS.size)
          clear gS hgr s28 f28 HP8 HK8 HS8 HG8 HLE8 HO8 HAT8 HGR8 HB8
          generalize w8.setCell ⟨S, 2, none⟩ (.slice (some ⟨g, 0, none⟩) (acc.length + 1) cap') = w9 at HP9 HK9 HS9 HG9 HR9 HLE9 ⊢
          go_wp2_with fail
          go_roundg (gk - 1)
          case measure => omega
          case rel =>
            refine ⟨acc ++ [kHp.er ⟨z.text, y.pos⟩], .slice (some ⟨g, 0, none⟩) (acc.length + 1) cap', u2, by simp only [List.length_append, List.length_singleton]; omega, Lib.hid ?_, HR9, HS9, HP9, HK9, HG9, HLE9⟩
            rw [← HH.out]
            obtain ⟨gj, rfl⟩ : ∃ k, gk = k + 1 := ⟨gk - 1, by omega⟩
            simp only [Pr.hops, Pr.th, HIS.out, HQ.out, if_true, HM2.out, ← HZE.out]
            rfl
end
end Go.Proofs.YtlpnkllhpienhaaDoor
