/-
  The walk of the document's lines of statements. The walk of the document's Program, where a program is right. The walks of the parser's statements that lead to no others.
-/
import Derived.Test.YtdlchhimkelinaaGreatDoorP15
import Derived.Test.YtdlchhimkelinaaGreatDoorP05
set_option maxHeartbeats 6400000
set_option maxRecDepth 100000
namespace Go.Proofs.YtdlchhimkelinaaGreatDoor
open Go.RowKit Go.Sort
def okL (l : SL) : Prop := ∀ (p : Option Addr) (c : Nat) (w : World) (d : Nat), sLies w p l → Pn.okList l = true → Pn.tight 8010 l → (d : Int) + Pn.dp l ≤ 50 → Pn.cnt l ≤ 400 →
 Calls Tryz.prog 33 #[.slice p l.len c, .int .i64 (d : Int)] w fun e w' => e = .returned (.string (bt (Pn.linesT l d))) ∧ Below w.heap.size w w'
theorem lines_step (l : SL) (pre : List UInt8) (h : Hd) {tp : Option Addr} {tc : Nat} {t : SL} {ep : Option Addr} {ec : Nat} {e r : SL} {d : Nat} (hg : Pn.linesT l d = pre ++ Pn.linesT (.cons h tp tc t ep ec e r) d) :
  Pn.linesT l d = (pre ++ Pn.pad d ++ Pn.stT h (Pn.linesT t (d + 1)) (Pn.linesT e (d + 1)) d []) ++ Pn.linesT r d := by
 rw [hg]; simp only [Pn.linesT]; rw [Pn.stT_app]; simp
theorem lines_pre {l : SL} {pre r : List UInt8} {d : Nat} (hg : Pn.linesT l d = pre ++ r) (hb : (Pn.linesT l d).length ≤ 800000000) : (bt pre).size ≤ 800000000 := by
 rw [bt_size]; rw [hg, List.length_append] at hb; omega
theorem lines_bd {l : SL} {d : Nat} (h1 : Pn.okList l = true) (h2 : Pn.tight 8010 l) (h3 : (d : Int) + Pn.dp l ≤ 50) (h4 : Pn.cnt l ≤ 400) : (Pn.linesT l d).length ≤ 800000000 := by
 have := Pn.lines_len l d h1 h2 h3; omega
theorem lines_call {P : Program} {F : FuncId} {ar : Array Value} {w : World} {t : ByteArray} (h : ∀ dd os, Calls P F ar (grow (redrawn w dd) os) fun e w' => e = .returned (.string t) ∧ Below (grow (redrawn w dd) os).heap.size (grow (redrawn w dd) os) w') :
  ∀ dd os, Calls P F ar (grow (redrawn w dd) os) fun en w'' => en = .returned (.string t) ∧ ∃ p : Regrown, w'' = grow (redrawn w p.d) p.os := fun dd os => Calls.regrown_of (h dd os)
theorem lines_one (hD : DigOk) (l : SL) (hP : l.each okL) : okL l := by
 intro p c w d hl hok htg hdp hcn
 obtain ⟨hlen, hl⟩ := hl
 have HT := hdn (lines_bd hok htg hdp hcn)
 have hd0 : (0 : Int) ≤ (d : Int) := Int.natCast_nonneg _
 have hd50 : (d : Int) ≤ 50 := by have := Pn.dp_nn l; omega
 have hlen' : l.len ≤ 300000000000 := by omega
 have HP := hdn hP
 have HOK := hdn hok; have HTG := hdn htg; have HDP := hdn hdp; have HCN := hdn hcn
 clear hlen hP hok htg hdp hcn
 go_enter Tryz.func33, Tryz.ntmps33
 go_wp2_with fail
 go_loopw [5, 6] (fun v i wr => ∃ (k : Nat) (rest : SL) (pre : List UInt8), i = .int .i64 k ∧ v = .string (bt pre) ∧ k ≤ l.len ∧ Hid (k + rest.len = l.len) ∧ Hid (Pn.linesT l d = pre ++ Pn.linesT rest d) ∧
    Hid (rest = .nil ∨ ∃ b o, p = some ⟨b, o, none⟩ ∧ lies w rest b (o + k * 48)) ∧ Hid (rest.each okL) ∧ Hid (Pn.okList rest = true) ∧ Hid (Pn.tight 8010 rest) ∧ Hid ((d : Int) + Pn.dp rest ≤ 50) ∧ Hid (Pn.cnt rest ≤ 400) ∧ Hid (Below w.heap.size w wr)) (fun _ i _ => l.len - (intOf i).toNat)
 case atStart => exact ⟨0, l, [], rfl, rfl, Nat.zero_le _, hdn (Nat.zero_add _), hdn rfl, hdn (by simpa using hl), HP, HOK, HTG, HDP, HCN, hdn (Below.refl _ _)⟩
 case round =>
  obtain ⟨k, rest, pre, rfl, rfl, hk, HK, HG, HL, HQ, HO, HTI, HDD, HCC, HB⟩ := hrel
  cases rest with
  | nil =>
   have hk' : l.len ≤ k := by have := HK.out; simp only [SL.len] at this; omega
   go_wp2_with fail
   go_ret
   exact ⟨ret_text (by rw [HG.out]; simp [Pn.linesT]), HB.out⟩
  | cons h tp tc t ep ec e r =>
   have hkl : k < l.len := by have := HK.out; simp only [SL.len] at this; omega
   obtain ⟨b, o, rfl, hrg, hhd, hts, hes, hrs⟩ := lies_head HL.out
   obtain ⟨hQt, hQe, hQr⟩ := HQ.out
   have hok := HO.out
   simp only [Pn.okList, Bool.and_eq_true] at hok
   obtain ⟨⟨⟨ho1, hot⟩, hoe⟩, hor⟩ := hok
   obtain ⟨tg1, tgt, tge, tgr⟩ := HTI.out
   have hdd := HDD.out
   simp only [Pn.dp] at hdd
   have hcc := HCC.out
   simp only [Pn.cnt] at hcc
   have n1 := Pn.cnt_nn t; have n2 := Pn.cnt_nn e; have n3 := Pn.cnt_nn r; have n4 := Pn.dp_nn r
   have HGS := hdn (lines_step l pre h HG.out)
   have so : (bt pre).size ≤ 800000000 := lines_pre HG.out HT.out
   have sp : (bt (Pn.pad d)).size ≤ 100 := by rw [bt_size, pad_len]; omega
   have CP : ∀ w', Calls Tryz.prog 68 #[.int .i64 (d : Int)] w' fun e w'' => e = .returned (.string (bt (Pn.pad d))) ∧ w' = w'' := fun w' => pad_any d w' (by omega)
   have HNX : Hid ((Pn.okList r = true ∧ Pn.tight 8010 r) ∧ ((d : Int) + Pn.dp r ≤ 50 ∧ Pn.cnt r ≤ 400)) := hdn ⟨⟨hor, tgr⟩, by omega, by omega⟩
   have HKN : Hid (k + 1 + r.len = l.len) := hdn (by have := HK.out; simp only [SL.len] at this; omega)
   have HQR := hdn hQr
   have HRS := hdn hrs
   have hrw := rangeAt_below hrg HB.out
   obtain ⟨cs, hcs⟩ : ∃ cs, cs = sarr h tp t.len tc ep e.len ec := ⟨_, rfl⟩
   have HRG : Hid (wr.rangeAt b (o + k * 48) cs.toList) := hdn (by rw [hcs]; exact hrw)
   have HSZ : Hid ((Tryz.prog.info? 54).map (·.size) = some cs.size) := hdn (by rw [hcs]; exact size57)
   have HZ : Hid (48 = cs.size) := hdn (by rw [hcs]; rfl)
   have HON : Hid (cs.all (·.oneCell') = true) := hdn (by rw [hcs]; exact scells_one _ _ _ _ _ _ _)
   obtain ⟨wq, hwq⟩ : ∃ wq : World, wq = wr.alloc (.cells cs 54) := ⟨_, rfl⟩
   have HBQ : Hid (Below wr.heap.size wr wq) := hdn (by rw [hwq]; exact (Below.refl _ _).alloc (Nat.le_refl _) _)
   have HBX : Hid (Below w.heap.size w wq) := hdn (HB.out.trans (HBQ.out.mono HB.out.size))
   have HKQ : Hid (Bk wq wr.heap.size 54 cs) := hdn (by rw [hwq]; exact heap_alloc_new _ _)
   have HCELL : Hid (∀ w', Below wq.heap.size wq w' → w'.rangeAt wr.heap.size 0 (scells h tp t.len tc ep e.len ec)) := hdn (fun w' hb => by
    have hk := (HKQ.out.below hb HKQ.out.lt).range
    rw [hcs] at hk; exact hk)
   have HHD : Hid (∀ w', Below wq.heap.size wq w' → hdLies w' h) := hdn (fun w' hb => hdLies_below (hdLies_below hhd HBX.out) hb)
   have HTS : Hid (∀ w', Below wq.heap.size wq w' → sLies w' tp t) := hdn (fun w' hb => sLies_below (sLies_below hts HBX.out) hb)
   have HES : Hid (∀ w', Below wq.heap.size wq w' → sLies w' ep e) := hdn (fun w' hb => sLies_below (sLies_below hes HBX.out) hb)
   have hk0 : (0 : Int) ≤ (k : Int) := Int.natCast_nonneg _
   have hk1 : (k : Int) < (l.len : Int) := by omega
   clear hrg hhd hts hes hrs hrw hcs
   go_upto_region 6 with (first | ((with_reducible show wpList _ _ _ (Oper.mk (some 18) _ _ _ _ _ :: _) _ _); refine wpList_load_arr rfl 54 (.tmp 17) rfl b (o + k * 48) rfl cs _ HRG.out Tryz.underlying54 rfl HSZ.out ?_) | ((with_reducible show wpList _ _ _ (Oper.mk none (Op.store _ _ _) _ _ _ _ :: _) _ _); refine wpList_store_new rfl 54 (.tmp 7) (.tmp 18) rfl _ cs rfl rfl HSZ.out HZ.out HON.out ?_))
   rw [← hwq]
   clear hwq
   obtain ⟨A, hA⟩ : ∃ A, A = wr.heap.size := ⟨_, rfl⟩
   rw [← hA] at HCELL HKQ ⊢
   clear hA
   have HC : Hid (∀ w', Below wq.heap.size wq w' → ∀ j v, (scells h tp t.len tc ep e.len ec)[j]? = some v → w'.cell? ⟨A, j, none⟩ = some v) := hdn (fun w' hb j v hv => by have := HCELL.out w' hb j v hv; rwa [Nat.zero_add] at this)
   have c0 : wq.cell? ⟨A, 0, none⟩ = some (.int .i64 h.kind) := HC.out wq (Below.refl _ _) 0 _ rfl
   unfold Pn.okStmt at ho1
   clear HK HL HQ HO HTI HDD HCC
   by_cases k0 : h.kind = 0
   ·skip
    have HE : Hid (bt (pre ++ Pn.pad d ++ Pn.stT h (Pn.linesT t (d + 1)) (Pn.linesT e (d + 1)) d []) = bt pre ++ bt (Pn.pad d) ++ ⟨#[59]⟩ ++ ⟨#[10]⟩) := hdn (by rw [Pn.st0 k0]; exact ba_ext (by simp [bt]))
    generalize bt pre = out at *
    generalize bt (Pn.pad d) = pd at *
    rw [k0] at c0
    go_wp2_with (go_at_call 68; refine (CP _).mono ?_; rintro en w1 ⟨rfl, rfl⟩)
    go_roundw
    case rel => exact ⟨k + 1, r, pre ++ Pn.pad d ++ Pn.stT h (Pn.linesT t (d + 1)) (Pn.linesT e (d + 1)) d [], by go_num, by rw [HE.out], by omega, HKN, hdn HGS.out, HRS, HQR, hdn HNX.out.1.1, hdn HNX.out.1.2, hdn HNX.out.2.1, hdn HNX.out.2.2, HBX⟩
    case measure => simp [intOf]; omega
   by_cases k1 : h.kind = 1
   ·skip
    rw [if_neg (by omega)] at ho1
    rw [if_pos k1] at ho1
    simp only [Bool.and_eq_true] at ho1
    have op := ho1.1.1.1.1.1.1; have ov := ho1.1.1.1.1.1.2
    have HE : Hid (bt (pre ++ Pn.pad d ++ Pn.stT h (Pn.linesT t (d + 1)) (Pn.linesT e (d + 1)) d []) = bt pre ++ bt (Pn.pad d) ++ bt (Pn.pathT h.place) ++ ⟨#[32, 61, 32]⟩ ++ bt (Pn.valT h.value) ++ ⟨#[59]⟩ ++ ⟨#[10]⟩) := hdn (by rw [Pn.st1 k1]; exact ba_ext (by simp [bt]))
    have sx : (bt (Pn.pathT h.place)).size ≤ 160 := Pn.path_len op
    have sv : (bt (Pn.valT h.value)).size ≤ 200 := Pn.val_len ov
    have CX : ∀ dd os, Calls Tryz.prog 69 #[.agg #[.string h.place.name, .int .i64 h.place.pos, .slice h.place.hops.p h.place.hops.l.length h.place.hops.cap]] (grow (redrawn wq dd) os) fun en w'' => en = .returned (.string (bt (Pn.pathT h.place))) ∧ ∃ p : Regrown, w'' = grow (redrawn wq p.d) p.os := lines_call fun dd os => pathT_any h.place _ (pthLies_of (HHD.out _ (below_regrown _ _ _)).1) op
    have CV : ∀ dd os, Calls Tryz.prog 70 #[.agg #[.int .i64 h.value.kind, .int .i64 h.value.pos, .string h.value.path.name, .int .i64 h.value.path.pos, .slice h.value.path.hops.p h.value.path.hops.l.length h.value.path.hops.cap, .string h.value.type, .string h.value.left.name, .int .i64 h.value.left.n, .int .i64 h.value.left.pos, .string h.value.right.name, .int .i64 h.value.right.n, .int .i64 h.value.right.pos]] (grow (redrawn wq dd) os) fun en w'' => en = .returned (.string (bt (Pn.valT h.value))) ∧ ∃ p : Regrown, w'' = grow (redrawn wq p.d) p.os := lines_call fun dd os => valT_any hD h.value _ (HHD.out _ (below_regrown _ _ _)).2.1 ov
    have c2 : wq.cell? ⟨A, 2, none⟩ = some (.string h.place.name) := HC.out wq (Below.refl _ _) 2 _ rfl
    have q2 := cell_regrown c2
    have c3 : wq.cell? ⟨A, 3, none⟩ = some (.int .i64 h.place.pos) := HC.out wq (Below.refl _ _) 3 _ rfl
    have q3 := cell_regrown c3
    have c4 : wq.cell? ⟨A, 4, none⟩ = some (.slice h.place.hops.p h.place.hops.l.length h.place.hops.cap) := HC.out wq (Below.refl _ _) 4 _ rfl
    have q4 := cell_regrown c4
    have HRV : Hid (∀ w', (∃ p : Regrown, w' = grow (redrawn wq p.d) p.os) → w'.rangeAt A 5 (#[.int .i64 h.value.kind, .int .i64 h.value.pos, .string h.value.path.name, .int .i64 h.value.path.pos, .slice h.value.path.hops.p h.value.path.hops.l.length h.value.path.hops.cap, .string h.value.type, .string h.value.left.name, .int .i64 h.value.left.n, .int .i64 h.value.left.pos, .string h.value.right.name, .int .i64 h.value.right.n, .int .i64 h.value.right.pos] : Array Value).toList) := hdn (fun w' hw' => by
     obtain ⟨p, rfl⟩ := hw'
     have := rangeAt_sub (HCELL.out _ (below_regrown wq p.d p.os)) 5 12 rfl
     rwa [Nat.zero_add] at this)
    generalize bt pre = out at *
    generalize bt (Pn.pad d) = pd at *
    generalize bt (Pn.pathT h.place) = tx at *
    generalize bt (Pn.valT h.value) = tv at *
    rw [k1] at c0
    go_wp2_with (go_at_call 68; refine (CP _).mono ?_; rintro en w1 ⟨rfl, rfl⟩)
    refine wp_region_quiet_below (by kernel_rfl) (by kernel_rfl) ?_
    repeat (first | ((with_reducible show wpQuiet _ _ _ _ (Oper.mk (some 50) _ _ _ _ _ :: _) _); refine wpQuiet_load rfl 49 (.tmp 49) rfl A 5 rfl #[.int .i64 h.value.kind, .int .i64 h.value.pos, .string h.value.path.name, .int .i64 h.value.path.pos, .slice h.value.path.hops.p h.value.path.hops.l.length h.value.path.hops.cap, .string h.value.type, .string h.value.left.name, .int .i64 h.value.left.n, .int .i64 h.value.left.pos, .string h.value.right.name, .int .i64 h.value.right.n, .int .i64 h.value.right.pos] _ HRV.out Tryz.underlying49 rfl size52 ?_; simp only [Act.put, List.setIfInBounds_toArray, List.set_cons_zero, List.set_cons_succ]) | (go_big_quiet_step (first | (with_reducible exact CX _ _) | (with_reducible exact CV _ _))))
    refine wpQuiet_nil ?_
    intro _ hw'
    obtain ⟨⟨dq, osq⟩, hw''⟩ := hw'
    subst hw''
    have HB3 : Hid (Below w.heap.size w (grow (redrawn wq dq) osq)) := hdn (HBX.out.trans ((below_regrown wq dq osq).mono HBX.out.size))
    generalize grow (redrawn wq dq) osq = w3 at HB3 ⊢
    go_wp2_with fail
    go_roundw
    case rel => exact ⟨k + 1, r, pre ++ Pn.pad d ++ Pn.stT h (Pn.linesT t (d + 1)) (Pn.linesT e (d + 1)) d [], by go_num, by rw [HE.out], by omega, HKN, hdn HGS.out, HRS, HQR, hdn HNX.out.1.1, hdn HNX.out.1.2, hdn HNX.out.2.1, hdn HNX.out.2.2, HB3⟩
    case measure => simp [intOf]; omega
   by_cases k2 : h.kind = 2
   ·skip
    rw [if_neg (by omega)] at ho1
    rw [if_neg (by omega)] at ho1
    rw [if_pos k2] at ho1
    simp only [Bool.and_eq_true] at ho1
    have op := ho1.1.1.1.1.1.1
    have HE : Hid (bt (pre ++ Pn.pad d ++ Pn.stT h (Pn.linesT t (d + 1)) (Pn.linesT e (d + 1)) d []) = bt pre ++ bt (Pn.pad d) ++ ⟨#[102, 114, 101, 101, 40]⟩ ++ bt (Pn.pathT h.place) ++ ⟨#[41, 59]⟩ ++ ⟨#[10]⟩) := hdn (by rw [Pn.st2 k2]; exact ba_ext (by simp [bt]))
    have sx : (bt (Pn.pathT h.place)).size ≤ 160 := Pn.path_len op
    have CX := pathT_any h.place wq (pthLies_of (HHD.out _ (Below.refl _ _)).1) op
    have c2 : wq.cell? ⟨A, 2, none⟩ = some (.string h.place.name) := HC.out wq (Below.refl _ _) 2 _ rfl
    have c3 : wq.cell? ⟨A, 3, none⟩ = some (.int .i64 h.place.pos) := HC.out wq (Below.refl _ _) 3 _ rfl
    have c4 : wq.cell? ⟨A, 4, none⟩ = some (.slice h.place.hops.p h.place.hops.l.length h.place.hops.cap) := HC.out wq (Below.refl _ _) 4 _ rfl
    generalize bt pre = out at *
    generalize bt (Pn.pad d) = pd at *
    generalize bt (Pn.pathT h.place) = tx at *
    rw [k2] at c0
    go_wp2_with (first | (go_at_call 68; refine (CP _).mono ?_; rintro en w1 ⟨rfl, rfl⟩) | (go_at_call 69; refine CX.mono ?_; rintro en w3 ⟨rfl, hb⟩; have HB3 : Hid (Below w.heap.size w w3) := hdn (HBX.out.trans (hb.mono HBX.out.size)); clear hb))
    go_roundw
    case rel => exact ⟨k + 1, r, pre ++ Pn.pad d ++ Pn.stT h (Pn.linesT t (d + 1)) (Pn.linesT e (d + 1)) d [], by go_num, by rw [HE.out], by omega, HKN, hdn HGS.out, HRS, HQR, hdn HNX.out.1.1, hdn HNX.out.1.2, hdn HNX.out.2.1, hdn HNX.out.2.2, HB3⟩
    case measure => simp [intOf]; omega
   by_cases k3 : h.kind = 3
   ·skip
    rw [if_neg (by omega)] at ho1
    rw [if_neg (by omega)] at ho1
    rw [if_neg (by omega)] at ho1
    rw [if_pos k3] at ho1
    simp only [Bool.and_eq_true] at ho1
    have OA := hdn ho1.1.1.1.1.1.1.1
    have on := ho1.1.1.1.2
    have sn : h.name.size ≤ 16 := (Pn.okN_nameB on).1
    obtain ⟨bs, hbs⟩ : ∃ bs, bs = pre ++ Pn.pad d ++ Pn.txt h.name ++ [40] := ⟨_, rfl⟩
    have HE0 : Hid (bt (bs ++ Pn.commaT Pn.valT (h.args.l.take 0)) = bt pre ++ bt (Pn.pad d) ++ h.name ++ ⟨#[40]⟩) := hdn (by rw [hbs, List.take_zero]; exact ba_ext (by simp [bt, Pn.txt, Pn.commaT]))
    have HE : Hid (bt (pre ++ Pn.pad d ++ Pn.stT h (Pn.linesT t (d + 1)) (Pn.linesT e (d + 1)) d []) = bt (bs ++ Pn.commaT Pn.valT h.args.l) ++ ⟨#[41, 59]⟩ ++ ⟨#[10]⟩) := hdn (by rw [Pn.st3 k3, hbs]; exact ba_ext (by simp [bt]))
    have sb : bs.length ≤ 800000200 := by rw [hbs]; rw [bt_size] at so sp; have := Pn.txt_len on; simp only [List.length_append, List.length_cons, List.length_nil]; omega
    have HAR := hdn (Lay.of_sl (HHD.out wq (Below.refl _ _)).2.2.2.2.1 (by decide))
    clear hbs
    have c43 : wq.cell? ⟨A, 43, none⟩ = some (.string h.name) := HC.out wq (Below.refl _ _) 43 _ rfl
    generalize bt pre = out at *
    generalize bt (Pn.pad d) = pd at *
    rw [k3] at c0
    go_wp2_with (go_at_call 68; refine (CP _).mono ?_; rintro en w1 ⟨rfl, rfl⟩)
    clear c0 c43
    go_loopw [5, 8] (fun v i wr => ∃ n : Nat, n ≤ h.args.l.length ∧ i = .int .i64 n ∧ v = .string (bt (bs ++ Pn.commaT Pn.valT (h.args.l.take n))) ∧ Hid (Below wq.heap.size wq wr)) (fun _ i _ => h.args.l.length - (intOf i).toNat)
    case atStart => exact ⟨0, Nat.zero_le _, rfl, by rw [HE0.out], hdn (Below.refl _ _)⟩
    case round =>
     obtain ⟨n, hn, rfl, rfl, HBR⟩ := hrel
     have hlim := HAR.out.1
     have c44 : wr.cell? ⟨A, 44, none⟩ = some (.slice h.args.p h.args.l.length h.args.cap) := HC.out wr HBR.out 44 _ rfl
     have sv : (bt (bs ++ Pn.commaT Pn.valT (h.args.l.take n))).size ≤ 900000000 := by
      have h1 := Pn.comma_len (f := Pn.valT) (B := 200) (h.args.l.take n) (fun a ha => side_len (List.all_eq_true.1 OA.out a (List.mem_of_mem_take ha)))
      rw [bt_size, List.length_append]
      rw [List.length_take] at h1
      omega
     by_cases hnl : n < h.args.l.length
     ·obtain ⟨b1, o1, hp, hx⟩ : ∃ b o, h.args.p = some ⟨b, o, none⟩ ∧ ∀ k v, h.args.l[k]? = some v → wq.rangeAt b (o + k * 12) (Vl.cells v) ∧ vlLies wq v := by
       rcases HAR.out.2 with h | h
       ·rw [h] at hnl; simp at hnl
       ·exact h
      have hxn := hx n h.args.l[n] (List.getElem?_eq_getElem hnl)
      have hsd := List.all_eq_true.1 OA.out h.args.l[n] (List.getElem_mem hnl)
      have hvo : Pn.okVal h.args.l[n] = true := by have := hsd; unfold Pn.okSide at this; simp only [Bool.and_eq_true] at this; exact this.1
      have htk := Pn.take_snoc h.args.l n hnl
      generalize h.args.l[n] = v at hxn hsd hvo htk
      have HTK := hdn htk
      have HRA : Hid (wr.rangeAt b1 (o1 + n * 12) (#[.int .i64 v.kind, .int .i64 v.pos, .string v.path.name, .int .i64 v.path.pos, .slice v.path.hops.p v.path.hops.l.length v.path.hops.cap, .string v.type, .string v.left.name, .int .i64 v.left.n, .int .i64 v.left.pos, .string v.right.name, .int .i64 v.right.n, .int .i64 v.right.pos] : Array Value).toList) := hdn (rangeAt_below hxn.1 HBR.out)
      have CA := valT_any hD v wr (vlLies_below hxn.2 HBR.out) hvo
      have sw : (bt (Pn.valT v)).size ≤ 200 := side_len hsd
      clear hx hxn htk hsd hvo
      rw [hp] at c44
      have hn0 : (0 : Int) ≤ (n : Int) := Int.natCast_nonneg _
      have hn1 : (n : Int) < (h.args.l.length : Int) := by omega
      by_cases hz : n = 0
      ·have HEN : Hid (bt (bs ++ Pn.commaT Pn.valT (h.args.l.take (n + 1))) = bt (bs ++ Pn.commaT Pn.valT (h.args.l.take n)) ++ bt (Pn.valT v)) := hdn (by rw [HTK.out, hz, List.take_zero, Pn.commaT_one]; exact ba_ext (by simp [bt, Pn.commaT]))
       have hn2 : ¬ ((0 : Int) < (n : Int)) := by omega
       clear hz
       generalize bt (bs ++ Pn.commaT Pn.valT (h.args.l.take n)) = vo at *
       generalize bt (Pn.valT v) = tv at *
       go_wp2_with (first | ((with_reducible show wpList _ _ _ (Oper.mk (some 86) _ _ _ _ _ :: _) _ _); refine wpList_load_arr rfl 49 (.tmp 85) rfl b1 (o1 + n * 12) rfl #[.int .i64 v.kind, .int .i64 v.pos, .string v.path.name, .int .i64 v.path.pos, .slice v.path.hops.p v.path.hops.l.length v.path.hops.cap, .string v.type, .string v.left.name, .int .i64 v.left.n, .int .i64 v.left.pos, .string v.right.name, .int .i64 v.right.n, .int .i64 v.right.pos] _ HRA.out Tryz.underlying49 rfl size52 ?_) | (go_at_call 70; refine CA.mono ?_; rintro en w3 ⟨rfl, hb⟩; have HB3 := hdn (HBR.out.trans (hb.mono HBR.out.size)); clear hb))
       go_roundw
       case rel => exact ⟨n + 1, by omega, by go_num, by rw [HEN.out], HB3⟩
       case measure => simp [intOf]; omega
      ·have HEN : Hid (bt (bs ++ Pn.commaT Pn.valT (h.args.l.take (n + 1))) = bt (bs ++ Pn.commaT Pn.valT (h.args.l.take n)) ++ ⟨#[44, 32]⟩ ++ bt (Pn.valT v)) := hdn (by
        rw [HTK.out, Pn.commaT_snoc _ _ _ (by intro h0; have := congrArg List.length h0; rw [List.length_take, List.length_nil] at this; omega)]; exact ba_ext (by simp [bt]))
       have hn2 : (0 : Int) < (n : Int) := by omega
       generalize bt (bs ++ Pn.commaT Pn.valT (h.args.l.take n)) = vo at *
       generalize bt (Pn.valT v) = tv at *
       go_wp2_with (first | ((with_reducible show wpList _ _ _ (Oper.mk (some 86) _ _ _ _ _ :: _) _ _); refine wpList_load_arr rfl 49 (.tmp 85) rfl b1 (o1 + n * 12) rfl #[.int .i64 v.kind, .int .i64 v.pos, .string v.path.name, .int .i64 v.path.pos, .slice v.path.hops.p v.path.hops.l.length v.path.hops.cap, .string v.type, .string v.left.name, .int .i64 v.left.n, .int .i64 v.left.pos, .string v.right.name, .int .i64 v.right.n, .int .i64 v.right.pos] _ HRA.out Tryz.underlying49 rfl size52 ?_) | (go_at_call 70; refine CA.mono ?_; rintro en w3 ⟨rfl, hb⟩; have HB3 := hdn (HBR.out.trans (hb.mono HBR.out.size)); clear hb))
       go_roundw
       case rel => exact ⟨n + 1, by omega, by go_num, by rw [HEN.out], HB3⟩
       case measure => simp [intOf]; omega
     ·obtain rfl : n = h.args.l.length := by omega
      have HB4 : Hid (Below w.heap.size w wr) := hdn (HBX.out.trans (HBR.out.mono HBX.out.size))
      rw [List.take_length] at *
      generalize bt (bs ++ Pn.commaT Pn.valT h.args.l) = vo at *
      go_wp2_with fail
      go_roundw
      case rel => exact ⟨k + 1, r, pre ++ Pn.pad d ++ Pn.stT h (Pn.linesT t (d + 1)) (Pn.linesT e (d + 1)) d [], by go_num, by rw [HE.out], by omega, HKN, hdn HGS.out, HRS, HQR, hdn HNX.out.1.1, hdn HNX.out.1.2, hdn HNX.out.2.1, hdn HNX.out.2.2, HB4⟩
      case measure => simp [intOf]; omega
   by_cases k4 : h.kind = 4
   ·skip
    rw [if_neg (by omega)] at ho1
    rw [if_neg (by omega)] at ho1
    rw [if_neg (by omega)] at ho1
    rw [if_neg (by omega)] at ho1
    rw [if_pos k4] at ho1
    simp only [Bool.and_eq_true] at ho1
    have oc := ho1.1.1.2
    rw [if_pos (by omega)] at hdd
    have sc : (bt (Pn.condT h.cond)).size ≤ 420 := Pn.cond_len oc
    have st : (bt (Pn.linesT t (d + 1))).size ≤ 800000000 := lines_bd hot tgt (by have := Pn.dp_nn t; have := Pn.dp_nn e; omega) (by omega)
    have CC : ∀ dd os, Calls Tryz.prog 71 #[.agg #[.int .i64 h.cond.kind, .int .i64 h.cond.pos, .int .i64 h.cond.left.kind, .int .i64 h.cond.left.pos, .string h.cond.left.path.name, .int .i64 h.cond.left.path.pos, .slice h.cond.left.path.hops.p h.cond.left.path.hops.l.length h.cond.left.path.hops.cap, .string h.cond.left.type, .string h.cond.left.left.name, .int .i64 h.cond.left.left.n, .int .i64 h.cond.left.left.pos, .string h.cond.left.right.name, .int .i64 h.cond.left.right.n, .int .i64 h.cond.left.right.pos, .int .i64 h.cond.right.kind, .int .i64 h.cond.right.pos, .string h.cond.right.path.name, .int .i64 h.cond.right.path.pos, .slice h.cond.right.path.hops.p h.cond.right.path.hops.l.length h.cond.right.path.hops.cap, .string h.cond.right.type, .string h.cond.right.left.name, .int .i64 h.cond.right.left.n, .int .i64 h.cond.right.left.pos, .string h.cond.right.right.name, .int .i64 h.cond.right.right.n, .int .i64 h.cond.right.right.pos]] (grow (redrawn wq dd) os) fun en w'' => en = .returned (.string (bt (Pn.condT h.cond))) ∧ ∃ p : Regrown, w'' = grow (redrawn wq p.d) p.os := lines_call fun dd os => condT_any hD h.cond _ (HHD.out _ (below_regrown _ _ _)).2.2.1 (HHD.out _ (below_regrown _ _ _)).2.2.2.1 oc
    have CT : ∀ dd os, Calls Tryz.prog 33 #[.slice tp t.len tc, .int .i64 ((d : Int) + 1)] (grow (redrawn wq dd) os) fun en w'' => en = .returned (.string (bt (Pn.linesT t (d + 1)))) ∧ ∃ p : Regrown, w'' = grow (redrawn wq p.d) p.os := lines_call fun dd os => by
     have := hQt tp tc (grow (redrawn wq dd) os) (d + 1) (HTS.out _ (below_regrown _ _ _)) hot tgt (by have := Pn.dp_nn t; have := Pn.dp_nn e; omega) (by omega)
     rwa [show ((d + 1 : Nat) : Int) = (d : Int) + 1 by omega] at this
    have HRC : Hid (∀ w', (∃ p : Regrown, w' = grow (redrawn wq p.d) p.os) → w'.rangeAt A 17 (#[.int .i64 h.cond.kind, .int .i64 h.cond.pos, .int .i64 h.cond.left.kind, .int .i64 h.cond.left.pos, .string h.cond.left.path.name, .int .i64 h.cond.left.path.pos, .slice h.cond.left.path.hops.p h.cond.left.path.hops.l.length h.cond.left.path.hops.cap, .string h.cond.left.type, .string h.cond.left.left.name, .int .i64 h.cond.left.left.n, .int .i64 h.cond.left.left.pos, .string h.cond.left.right.name, .int .i64 h.cond.left.right.n, .int .i64 h.cond.left.right.pos, .int .i64 h.cond.right.kind, .int .i64 h.cond.right.pos, .string h.cond.right.path.name, .int .i64 h.cond.right.path.pos, .slice h.cond.right.path.hops.p h.cond.right.path.hops.l.length h.cond.right.path.hops.cap, .string h.cond.right.type, .string h.cond.right.left.name, .int .i64 h.cond.right.left.n, .int .i64 h.cond.right.left.pos, .string h.cond.right.right.name, .int .i64 h.cond.right.right.n, .int .i64 h.cond.right.right.pos] : Array Value).toList) := hdn (fun w' hw' => by
     obtain ⟨p, rfl⟩ := hw'
     have := rangeAt_sub (HCELL.out _ (below_regrown wq p.d p.os)) 17 26 rfl
     rwa [Nat.zero_add] at this)
    have c45 : wq.cell? ⟨A, 45, none⟩ = some (.slice tp t.len tc) := HC.out wq (Below.refl _ _) 45 _ rfl
    have q45 := cell_regrown c45
    cases hbo : h.both
    ·skip
     have HE : Hid (bt (pre ++ Pn.pad d ++ Pn.stT h (Pn.linesT t (d + 1)) (Pn.linesT e (d + 1)) d []) = bt pre ++ bt (Pn.pad d) ++ ⟨#[105, 102, 32, 40]⟩ ++ bt (Pn.condT h.cond) ++ ⟨#[41, 32, 123, 10]⟩ ++ bt (Pn.linesT t (d + 1)) ++ bt (Pn.pad d) ++ ⟨#[125]⟩ ++ ⟨#[10]⟩) := hdn (by rw [Pn.st4 k4 hbo]; exact ba_ext (by simp [bt]))
     have c47 : ∀ w', Below wq.heap.size wq w' → w'.cell? ⟨A, 47, none⟩ = some (.bool false) := fun w' hb => by rw [← hbo]; exact HC.out w' hb 47 _ rfl
     have HC47 := hdn c47
     clear c47
     generalize bt pre = out at *
     generalize bt (Pn.pad d) = pd at *
     generalize bt (Pn.condT h.cond) = tx at *
     generalize bt (Pn.linesT t (d + 1)) = tt at *
     rw [k4] at c0
     go_wp2_with (go_at_call 68; refine (CP _).mono ?_; rintro en w1 ⟨rfl, rfl⟩)
     refine wp_region_quiet_below (by kernel_rfl) (by kernel_rfl) ?_
     repeat (first | ((with_reducible show wpQuiet _ _ _ _ (Oper.mk (some 96) _ _ _ _ _ :: _) _); refine wpQuiet_load rfl 51 (.tmp 95) rfl A 17 rfl #[.int .i64 h.cond.kind, .int .i64 h.cond.pos, .int .i64 h.cond.left.kind, .int .i64 h.cond.left.pos, .string h.cond.left.path.name, .int .i64 h.cond.left.path.pos, .slice h.cond.left.path.hops.p h.cond.left.path.hops.l.length h.cond.left.path.hops.cap, .string h.cond.left.type, .string h.cond.left.left.name, .int .i64 h.cond.left.left.n, .int .i64 h.cond.left.left.pos, .string h.cond.left.right.name, .int .i64 h.cond.left.right.n, .int .i64 h.cond.left.right.pos, .int .i64 h.cond.right.kind, .int .i64 h.cond.right.pos, .string h.cond.right.path.name, .int .i64 h.cond.right.path.pos, .slice h.cond.right.path.hops.p h.cond.right.path.hops.l.length h.cond.right.path.hops.cap, .string h.cond.right.type, .string h.cond.right.left.name, .int .i64 h.cond.right.left.n, .int .i64 h.cond.right.left.pos, .string h.cond.right.right.name, .int .i64 h.cond.right.right.n, .int .i64 h.cond.right.right.pos] _ HRC.out Tryz.underlying51 rfl size49 ?_; simp only [Act.put, List.setIfInBounds_toArray, List.set_cons_zero, List.set_cons_succ]) | (go_big_quiet_step (first | (with_reducible exact CC _ _) | (with_reducible exact CT _ _))))
     refine wpQuiet_nil ?_
     intro _ hw'
     obtain ⟨⟨dq, osq⟩, hw''⟩ := hw'
     subst hw''
     have HB3 := hdn (below_regrown wq dq osq)
     generalize grow (redrawn wq dq) osq = w3 at HB3 ⊢
     have c47 := HC47.out w3 HB3.out
     have HB6 : Hid (Below w.heap.size w w3) := hdn (HBX.out.trans (HB3.out.mono HBX.out.size))
     go_wp2_with (go_at_call 68; refine (CP _).mono ?_; rintro en w1 ⟨rfl, rfl⟩)
     go_roundw
     case rel => exact ⟨k + 1, r, pre ++ Pn.pad d ++ Pn.stT h (Pn.linesT t (d + 1)) (Pn.linesT e (d + 1)) d [], by go_num, by rw [HE.out], by omega, HKN, hdn HGS.out, HRS, HQR, hdn HNX.out.1.1, hdn HNX.out.1.2, hdn HNX.out.2.1, hdn HNX.out.2.2, HB6⟩
     case measure => simp [intOf]; omega
    ·skip
     have HE : Hid (bt (pre ++ Pn.pad d ++ Pn.stT h (Pn.linesT t (d + 1)) (Pn.linesT e (d + 1)) d []) = bt pre ++ bt (Pn.pad d) ++ ⟨#[105, 102, 32, 40]⟩ ++ bt (Pn.condT h.cond) ++ ⟨#[41, 32, 123, 10]⟩ ++ bt (Pn.linesT t (d + 1)) ++ bt (Pn.pad d) ++ ⟨#[125, 32, 101, 108, 115, 101, 32, 123, 10]⟩ ++ bt (Pn.linesT e (d + 1)) ++ bt (Pn.pad d) ++ ⟨#[125]⟩ ++ ⟨#[10]⟩) := hdn (by rw [Pn.st4b k4 hbo]; exact ba_ext (by simp [bt]))
     have c47 : ∀ w', Below wq.heap.size wq w' → w'.cell? ⟨A, 47, none⟩ = some (.bool true) := fun w' hb => by rw [← hbo]; exact HC.out w' hb 47 _ rfl
     have HC47 := hdn c47
     clear c47
     have se : (bt (Pn.linesT e (d + 1))).size ≤ 800000000 := lines_bd hoe tge (by have := Pn.dp_nn t; have := Pn.dp_nn e; omega) (by omega)
     have CE0 : ∀ w', Below wq.heap.size wq w' → ∀ dd os, Calls Tryz.prog 33 #[.slice ep e.len ec, .int .i64 ((d : Int) + 1)] (grow (redrawn w' dd) os) fun en w'' => en = .returned (.string (bt (Pn.linesT e (d + 1)))) ∧ ∃ p : Regrown, w'' = grow (redrawn w' p.d) p.os := fun w' hb => lines_call fun dd os => by
      have := hQe ep ec (grow (redrawn w' dd) os) (d + 1) (sLies_below (HES.out w' hb) (below_regrown _ _ _)) hoe tge (by have := Pn.dp_nn t; have := Pn.dp_nn e; omega) (by omega)
      rwa [show ((d + 1 : Nat) : Int) = (d : Int) + 1 by omega] at this
     have HCE := hdn CE0
     clear CE0
     generalize bt pre = out at *
     generalize bt (Pn.pad d) = pd at *
     generalize bt (Pn.condT h.cond) = tx at *
     generalize bt (Pn.linesT t (d + 1)) = tt at *
     generalize bt (Pn.linesT e (d + 1)) = te at *
     rw [k4] at c0
     go_wp2_with (go_at_call 68; refine (CP _).mono ?_; rintro en w1 ⟨rfl, rfl⟩)
     refine wp_region_quiet_below (by kernel_rfl) (by kernel_rfl) ?_
     repeat (first | ((with_reducible show wpQuiet _ _ _ _ (Oper.mk (some 96) _ _ _ _ _ :: _) _); refine wpQuiet_load rfl 51 (.tmp 95) rfl A 17 rfl #[.int .i64 h.cond.kind, .int .i64 h.cond.pos, .int .i64 h.cond.left.kind, .int .i64 h.cond.left.pos, .string h.cond.left.path.name, .int .i64 h.cond.left.path.pos, .slice h.cond.left.path.hops.p h.cond.left.path.hops.l.length h.cond.left.path.hops.cap, .string h.cond.left.type, .string h.cond.left.left.name, .int .i64 h.cond.left.left.n, .int .i64 h.cond.left.left.pos, .string h.cond.left.right.name, .int .i64 h.cond.left.right.n, .int .i64 h.cond.left.right.pos, .int .i64 h.cond.right.kind, .int .i64 h.cond.right.pos, .string h.cond.right.path.name, .int .i64 h.cond.right.path.pos, .slice h.cond.right.path.hops.p h.cond.right.path.hops.l.length h.cond.right.path.hops.cap, .string h.cond.right.type, .string h.cond.right.left.name, .int .i64 h.cond.right.left.n, .int .i64 h.cond.right.left.pos, .string h.cond.right.right.name, .int .i64 h.cond.right.right.n, .int .i64 h.cond.right.right.pos] _ HRC.out Tryz.underlying51 rfl size49 ?_; simp only [Act.put, List.setIfInBounds_toArray, List.set_cons_zero, List.set_cons_succ]) | (go_big_quiet_step (first | (with_reducible exact CC _ _) | (with_reducible exact CT _ _))))
     refine wpQuiet_nil ?_
     intro _ hw'
     obtain ⟨⟨dq, osq⟩, hw''⟩ := hw'
     subst hw''
     have HB3 := hdn (below_regrown wq dq osq)
     generalize grow (redrawn wq dq) osq = w3 at HB3 ⊢
     have c47 := HC47.out w3 HB3.out
     have CE := HCE.out w3 HB3.out
     have c46 : w3.cell? ⟨A, 46, none⟩ = some (.slice ep e.len ec) := HC.out w3 HB3.out 46 _ rfl
     have q46 := cell_regrown c46
     have CQ : ∀ dd os, Calls Tryz.prog 68 #[.int .i64 (d : Int)] (grow (redrawn w3 dd) os) fun en w'' => en = .returned (.string pd) ∧ ∃ p : Regrown, w'' = grow (redrawn w3 p.d) p.os := fun dd os => (CP _).mono fun en w'' he => ⟨he.1, ⟨dd, os⟩, he.2.symm⟩
     go_wp2_with fail
     refine wp_region_quiet_below (by kernel_rfl) (by kernel_rfl) ?_
     repeat (first | (go_big_quiet_step (first | (with_reducible exact CQ _ _) | (with_reducible exact CE _ _))))
     refine wpQuiet_nil ?_
     intro _ hw'
     obtain ⟨⟨dq, osq⟩, hw''⟩ := hw'
     subst hw''
     have HB5 := hdn (HB3.out.trans ((below_regrown w3 dq osq).mono HB3.out.size))
     generalize grow (redrawn w3 dq) osq = w5 at HB5 ⊢
     have HB6 : Hid (Below w.heap.size w w5) := hdn (HBX.out.trans (HB5.out.mono HBX.out.size))
     go_wp2_with (go_at_call 68; refine (CP _).mono ?_; rintro en w1 ⟨rfl, rfl⟩)
     go_roundw
     case rel => exact ⟨k + 1, r, pre ++ Pn.pad d ++ Pn.stT h (Pn.linesT t (d + 1)) (Pn.linesT e (d + 1)) d [], by go_num, by rw [HE.out], by omega, HKN, hdn HGS.out, HRS, HQR, hdn HNX.out.1.1, hdn HNX.out.1.2, hdn HNX.out.2.1, hdn HNX.out.2.2, HB6⟩
     case measure => simp [intOf]; omega
   by_cases k5 : h.kind = 5
   ·skip
    rw [if_neg (by omega)] at ho1
    rw [if_neg (by omega)] at ho1
    rw [if_neg (by omega)] at ho1
    rw [if_neg (by omega)] at ho1
    rw [if_neg (by omega)] at ho1
    rw [if_pos k5] at ho1
    simp only [Bool.and_eq_true] at ho1
    have oc := ho1.1.1.1.2
    rw [if_pos (by omega)] at hdd
    have sc : (bt (Pn.condT h.cond)).size ≤ 420 := Pn.cond_len oc
    have st : (bt (Pn.linesT t (d + 1))).size ≤ 800000000 := lines_bd hot tgt (by have := Pn.dp_nn t; have := Pn.dp_nn e; omega) (by omega)
    have CC : ∀ dd os, Calls Tryz.prog 71 #[.agg #[.int .i64 h.cond.kind, .int .i64 h.cond.pos, .int .i64 h.cond.left.kind, .int .i64 h.cond.left.pos, .string h.cond.left.path.name, .int .i64 h.cond.left.path.pos, .slice h.cond.left.path.hops.p h.cond.left.path.hops.l.length h.cond.left.path.hops.cap, .string h.cond.left.type, .string h.cond.left.left.name, .int .i64 h.cond.left.left.n, .int .i64 h.cond.left.left.pos, .string h.cond.left.right.name, .int .i64 h.cond.left.right.n, .int .i64 h.cond.left.right.pos, .int .i64 h.cond.right.kind, .int .i64 h.cond.right.pos, .string h.cond.right.path.name, .int .i64 h.cond.right.path.pos, .slice h.cond.right.path.hops.p h.cond.right.path.hops.l.length h.cond.right.path.hops.cap, .string h.cond.right.type, .string h.cond.right.left.name, .int .i64 h.cond.right.left.n, .int .i64 h.cond.right.left.pos, .string h.cond.right.right.name, .int .i64 h.cond.right.right.n, .int .i64 h.cond.right.right.pos]] (grow (redrawn wq dd) os) fun en w'' => en = .returned (.string (bt (Pn.condT h.cond))) ∧ ∃ p : Regrown, w'' = grow (redrawn wq p.d) p.os := lines_call fun dd os => condT_any hD h.cond _ (HHD.out _ (below_regrown _ _ _)).2.2.1 (HHD.out _ (below_regrown _ _ _)).2.2.2.1 oc
    have CT : ∀ dd os, Calls Tryz.prog 33 #[.slice tp t.len tc, .int .i64 ((d : Int) + 1)] (grow (redrawn wq dd) os) fun en w'' => en = .returned (.string (bt (Pn.linesT t (d + 1)))) ∧ ∃ p : Regrown, w'' = grow (redrawn wq p.d) p.os := lines_call fun dd os => by
     have := hQt tp tc (grow (redrawn wq dd) os) (d + 1) (HTS.out _ (below_regrown _ _ _)) hot tgt (by have := Pn.dp_nn t; have := Pn.dp_nn e; omega) (by omega)
     rwa [show ((d + 1 : Nat) : Int) = (d : Int) + 1 by omega] at this
    have CQ : ∀ dd os, Calls Tryz.prog 68 #[.int .i64 (d : Int)] (grow (redrawn wq dd) os) fun en w'' => en = .returned (.string (bt (Pn.pad d))) ∧ ∃ p : Regrown, w'' = grow (redrawn wq p.d) p.os := fun dd os => (CP _).mono fun en w'' he => ⟨he.1, ⟨dd, os⟩, he.2.symm⟩
    have HRC : Hid (∀ w', (∃ p : Regrown, w' = grow (redrawn wq p.d) p.os) → w'.rangeAt A 17 (#[.int .i64 h.cond.kind, .int .i64 h.cond.pos, .int .i64 h.cond.left.kind, .int .i64 h.cond.left.pos, .string h.cond.left.path.name, .int .i64 h.cond.left.path.pos, .slice h.cond.left.path.hops.p h.cond.left.path.hops.l.length h.cond.left.path.hops.cap, .string h.cond.left.type, .string h.cond.left.left.name, .int .i64 h.cond.left.left.n, .int .i64 h.cond.left.left.pos, .string h.cond.left.right.name, .int .i64 h.cond.left.right.n, .int .i64 h.cond.left.right.pos, .int .i64 h.cond.right.kind, .int .i64 h.cond.right.pos, .string h.cond.right.path.name, .int .i64 h.cond.right.path.pos, .slice h.cond.right.path.hops.p h.cond.right.path.hops.l.length h.cond.right.path.hops.cap, .string h.cond.right.type, .string h.cond.right.left.name, .int .i64 h.cond.right.left.n, .int .i64 h.cond.right.left.pos, .string h.cond.right.right.name, .int .i64 h.cond.right.right.n, .int .i64 h.cond.right.right.pos] : Array Value).toList) := hdn (fun w' hw' => by
     obtain ⟨p, rfl⟩ := hw'
     have := rangeAt_sub (HCELL.out _ (below_regrown wq p.d p.os)) 17 26 rfl
     rwa [Nat.zero_add] at this)
    have c45 : wq.cell? ⟨A, 45, none⟩ = some (.slice tp t.len tc) := HC.out wq (Below.refl _ _) 45 _ rfl
    have q45 := cell_regrown c45
    have HE : Hid (bt (pre ++ Pn.pad d ++ Pn.stT h (Pn.linesT t (d + 1)) (Pn.linesT e (d + 1)) d []) = bt pre ++ bt (Pn.pad d) ++ ⟨#[119, 104, 105, 108, 101, 32, 40]⟩ ++ bt (Pn.condT h.cond) ++ ⟨#[41, 32, 123, 10]⟩ ++ bt (Pn.linesT t (d + 1)) ++ bt (Pn.pad d) ++ ⟨#[125]⟩ ++ ⟨#[10]⟩) := hdn (by rw [Pn.st5 k5]; exact ba_ext (by simp [bt]))
    generalize bt pre = out at *
    generalize bt (Pn.pad d) = pd at *
    generalize bt (Pn.condT h.cond) = tx at *
    generalize bt (Pn.linesT t (d + 1)) = tt at *
    rw [k5] at c0
    go_wp2_with (go_at_call 68; refine (CP _).mono ?_; rintro en w1 ⟨rfl, rfl⟩)
    refine wp_region_quiet_below (by kernel_rfl) (by kernel_rfl) ?_
    repeat (first | ((with_reducible show wpQuiet _ _ _ _ (Oper.mk (some 129) _ _ _ _ _ :: _) _); refine wpQuiet_load rfl 51 (.tmp 128) rfl A 17 rfl #[.int .i64 h.cond.kind, .int .i64 h.cond.pos, .int .i64 h.cond.left.kind, .int .i64 h.cond.left.pos, .string h.cond.left.path.name, .int .i64 h.cond.left.path.pos, .slice h.cond.left.path.hops.p h.cond.left.path.hops.l.length h.cond.left.path.hops.cap, .string h.cond.left.type, .string h.cond.left.left.name, .int .i64 h.cond.left.left.n, .int .i64 h.cond.left.left.pos, .string h.cond.left.right.name, .int .i64 h.cond.left.right.n, .int .i64 h.cond.left.right.pos, .int .i64 h.cond.right.kind, .int .i64 h.cond.right.pos, .string h.cond.right.path.name, .int .i64 h.cond.right.path.pos, .slice h.cond.right.path.hops.p h.cond.right.path.hops.l.length h.cond.right.path.hops.cap, .string h.cond.right.type, .string h.cond.right.left.name, .int .i64 h.cond.right.left.n, .int .i64 h.cond.right.left.pos, .string h.cond.right.right.name, .int .i64 h.cond.right.right.n, .int .i64 h.cond.right.right.pos] _ HRC.out Tryz.underlying51 rfl size49 ?_; simp only [Act.put, List.setIfInBounds_toArray, List.set_cons_zero, List.set_cons_succ]) | (go_big_quiet_step (first | (with_reducible exact CC _ _) | (with_reducible exact CT _ _) | (with_reducible exact CQ _ _))))
    refine wpQuiet_nil ?_
    intro _ hw'
    obtain ⟨⟨dq, osq⟩, hw''⟩ := hw'
    subst hw''
    have HB3 : Hid (Below w.heap.size w (grow (redrawn wq dq) osq)) := hdn (HBX.out.trans ((below_regrown wq dq osq).mono HBX.out.size))
    generalize grow (redrawn wq dq) osq = w3 at HB3 ⊢
    go_wp2_with fail
    go_roundw
    case rel => exact ⟨k + 1, r, pre ++ Pn.pad d ++ Pn.stT h (Pn.linesT t (d + 1)) (Pn.linesT e (d + 1)) d [], by go_num, by rw [HE.out], by omega, HKN, hdn HGS.out, HRS, HQR, hdn HNX.out.1.1, hdn HNX.out.1.2, hdn HNX.out.2.1, hdn HNX.out.2.2, HB3⟩
    case measure => simp [intOf]; omega
   by_cases k6 : h.kind = 6
   ·skip
    rw [if_pos (by omega)] at hdd
    have st : (bt (Pn.linesT t (d + 1))).size ≤ 800000000 := lines_bd hot tgt (by have := Pn.dp_nn t; have := Pn.dp_nn e; omega) (by omega)
    have CT0 := hQt tp tc wq (d + 1) (HTS.out wq (Below.refl _ _)) hot tgt (by have := Pn.dp_nn t; have := Pn.dp_nn e; omega) (by omega)
    rw [show ((d + 1 : Nat) : Int) = (d : Int) + 1 by omega] at CT0
    have HE : Hid (bt (pre ++ Pn.pad d ++ Pn.stT h (Pn.linesT t (d + 1)) (Pn.linesT e (d + 1)) d []) = bt pre ++ bt (Pn.pad d) ++ ⟨#[123, 10]⟩ ++ bt (Pn.linesT t (d + 1)) ++ bt (Pn.pad d) ++ ⟨#[125]⟩ ++ ⟨#[10]⟩) := hdn (by rw [Pn.st6 (by omega)]; exact ba_ext (by simp [bt]))
    have c45 : wq.cell? ⟨A, 45, none⟩ = some (.slice tp t.len tc) := HC.out wq (Below.refl _ _) 45 _ rfl
    generalize bt pre = out at *
    generalize bt (Pn.pad d) = pd at *
    generalize bt (Pn.linesT t (d + 1)) = tt at *
    rw [k6] at c0
    go_wp2_with (first | (go_at_call 68; refine (CP _).mono ?_; rintro en w1 ⟨rfl, rfl⟩) | (go_at_call 33; refine CT0.mono ?_; rintro en w3 ⟨rfl, hb⟩; have HB3 : Hid (Below w.heap.size w w3) := hdn (HBX.out.trans (hb.mono HBX.out.size)); clear hb))
    go_roundw
    case rel => exact ⟨k + 1, r, pre ++ Pn.pad d ++ Pn.stT h (Pn.linesT t (d + 1)) (Pn.linesT e (d + 1)) d [], by go_num, by rw [HE.out], by omega, HKN, hdn HGS.out, HRS, HQR, hdn HNX.out.1.1, hdn HNX.out.1.2, hdn HNX.out.2.1, hdn HNX.out.2.2, HB3⟩
    case measure => simp [intOf]; omega
   exfalso
   rw [if_neg k0, if_neg k1, if_neg k2, if_neg k3, if_neg k4, if_neg k5, if_neg k6] at ho1
   cases ho1
/-- The document's lines of statements that may be. -/
theorem lines_any (hD : DigOk) (l : SL) : okL l := (SL.all (lines_one hD) l).1
end Go.Proofs.YtdlchhimkelinaaGreatDoor
namespace Go.Proofs.YtdlchhimkelinaaGreatDoor
open Go.RowKit Go.Sort
theorem decl_at {w wA : World} {b o n : Nat} {x : Dc} (h : wA.rangeAt b (o + n * 3) (Dc.cells x)) (hb : Below wA.heap.size wA w) :
  w.cell? ⟨b, o + n * 3, none⟩ = some (.string x.type) ∧ w.cell? ⟨b, o + n * 3 + 1, none⟩ = some (.string x.name) ∧ w.cell? ⟨b, o + n * 3 + 2, none⟩ = some (.int .i64 x.pos) :=
 ⟨by simpa using cell_at (rangeAt_below h hb) 0 _ rfl, cell_at (rangeAt_below h hb) 1 _ rfl, cell_at (rangeAt_below h hb) 2 _ rfl⟩
theorem lay_at {α : Type} {size : Nat} {cells : α → List Value} {R : World → α → Prop} {w : World} {p : Option Addr} {l : List α} (h : Lay size cells R w p l) {n : Nat} (hn : n < l.length) :
  ∃ b o, p = some ⟨b, o, none⟩ ∧ w.rangeAt b (o + n * size) (cells l[n]) ∧ R w l[n] := by
 rcases h.2 with h | ⟨b, o, hp, hx⟩
 ·rw [h] at hn; simp at hn
 ·obtain ⟨h1, h2⟩ := hx n l[n] (List.getElem?_eq_getElem hn)
  exact ⟨b, o, hp, h1, h2⟩
theorem pad1 : Pn.pad 1 = [32, 32] := rfl
theorem pad0 : Pn.pad 0 = [] := rfl
theorem part_len {d : Nat} (hd : d ≤ 1) {l : List Dc} (n : Nat) (h : l.all Pn.okDecl = true) (hl : l.length ≤ 8010) : (Pn.fieldsT d (l.take n) []).length ≤ 400500 := by
 have h1 := Pn.fields_part d l n
 have h2 := Pn.fields_tlen (d := d) (k := []) hd l h
 simp only [List.length_nil] at h2
 omega
theorem progT_any (hD : DigOk) (y : Pg) (w : World) (hy : pgLies w y) (ho : Pn.right y = true) (ht : Pn.tightP 8010 y) :
  Calls Tryz.prog 13 #[.agg #[.slice y.structs.p y.structs.l.length y.structs.cap, .slice y.globals.p y.globals.l.length y.globals.cap, .slice y.procs.p y.procs.l.length y.procs.cap]] w fun e w' => e = .returned (.tuple #[.string (bt (Pn.progT y)), .int .i64 0]) ∧ Below w.heap.size w w' := by
 have HT := hdn (Pn.prog_tlen ho ht)
 have HRT := hdn ho
 have HY := hdn hy
 simp only [Pn.right, Pn.okProg, Bool.and_eq_true, decide_eq_true_eq] at ho
 obtain ⟨⟨⟨⟨hs, hg⟩, hp⟩, hd⟩, hc⟩ := ho
 obtain ⟨⟨t1, t2⟩, t3, t4, t5⟩ := ht
 have HS := hdn hs; have HG := hdn hg; have HP := hdn hp; have HDP := hdn hd; have HCN := hdn hc
 have HT2 := hdn t2; have HT3 := hdn t3; have HT5 := hdn t5
 have HLS := hdn (Lay.of_sl (srs_of hy.1) (by decide))
 have HLG := hdn (Lay.of_sl (decls_of hy.2.1) (by decide))
 have HLP : Hid (Lay 6 Pc.cells pcLies w y.procs.p y.procs.l) := hdn (Lay.of_sl hy.2.2 (by decide))
 have HEQ := hdn (Pn.progT_eq y)
 have HSL : Hid (∀ n, (Pn.structsT (y.structs.l.take n) []).length ≤ 100000000000) := hdn fun n => by
  have h1 := Pn.structs_part y.structs.l n; have h2 := HT.out; rw [HEQ.out, List.length_append] at h2; omega
 have HSA : Hid ((Pn.structsT y.structs.l []).length ≤ 100000000000) := hdn (by
  have h2 := HT.out; rw [HEQ.out, List.length_append] at h2; omega)
 have HGA : Hid ((Pn.structsT y.structs.l [] ++ Pn.fieldsT 0 y.globals.l []).length ≤ 100000000000) := hdn (by
  have h2 := HT.out; rw [HEQ.out, List.length_append, List.length_append] at h2; rw [List.length_append]; omega)
 have HPA : Hid (∀ n, (Pn.procsT (y.procs.l.take n)).length ≤ 100000000000) := hdn fun n => by
  have h1 := Pn.procs_part y.procs.l n; have h2 := HT.out; rw [HEQ.out, List.length_append, List.length_append] at h2; omega
 clear hs hg hp hd hc hy t1 t2 t3 t4 t5
 obtain ⟨wA, hwA⟩ : ∃ wA : World, wA = w.alloc (.cells #[.slice y.structs.p y.structs.l.length y.structs.cap, .slice y.globals.p y.globals.l.length y.globals.cap, .slice y.procs.p y.procs.l.length y.procs.cap] 26) := ⟨_, rfl⟩
 have HBA : Hid (Below w.heap.size w wA) := hdn (by rw [hwA]; exact (Below.refl _ _).alloc (Nat.le_refl _) _)
 have HK : Hid (Bk wA w.heap.size 26 #[.slice y.structs.p y.structs.l.length y.structs.cap, .slice y.globals.p y.globals.l.length y.globals.cap, .slice y.procs.p y.procs.l.length y.procs.cap]) := hdn (by rw [hwA]; exact heap_alloc_new _ _)
 go_enter Tryz.func13, Tryz.ntmps13
 go_upto_region 1 with fail
 rw [← hwA]
 clear hwA
 obtain ⟨A, hA⟩ : ∃ A, A = w.heap.size := ⟨_, rfl⟩
 rw [← hA] at HK ⊢
 clear hA
 have HC : Hid (∀ w', Below wA.heap.size wA w' → w'.cell? ⟨A, 0, none⟩ = some (.slice y.structs.p y.structs.l.length y.structs.cap) ∧ w'.cell? ⟨A, 1, none⟩ = some (.slice y.globals.p y.globals.l.length y.globals.cap) ∧ w'.cell? ⟨A, 2, none⟩ = some (.slice y.procs.p y.procs.l.length y.procs.cap)) :=
  hdn (fun w' hb => ⟨(HK.out.below hb HK.out.lt).cell 0, (HK.out.below hb HK.out.lt).cell 1, (HK.out.below hb HK.out.lt).cell 2⟩)
 have HLS2 : Hid (∀ w', Below wA.heap.size wA w' → Lay 3 Sr.cells srLies w' y.structs.p y.structs.l) := hdn (fun w' hb => HLS.out.below (HBA.out.trans (hb.mono HBA.out.size)) (fun _ h => srLies_below h (HBA.out.trans (hb.mono HBA.out.size))))
 have HLG2 : Hid (∀ w', Below wA.heap.size wA w' → Lay 3 Dc.cells triv w' y.globals.p y.globals.l) := hdn (fun w' hb => HLG.out.below (HBA.out.trans (hb.mono HBA.out.size)) (fun _ h => h))
 have HLP2 : Hid (∀ w', Below wA.heap.size wA w' → Lay 6 Pc.cells pcLies w' y.procs.p y.procs.l) := hdn (fun w' hb => HLP.out.below (HBA.out.trans (hb.mono HBA.out.size)) (fun _ h => pcLies_below h (HBA.out.trans (hb.mono HBA.out.size))))
 have CR := right_may y wA (pgLies_below HY.out HBA.out) HRT.out
 obtain ⟨c0, c1, c2⟩ := HC.out wA (Below.refl _ _)
 go_wp2_with (go_at_call 31; refine CR.mono ?_; rintro en w1 ⟨rfl, hb⟩; have HB1 := hdn hb; clear hb)
 clear c0 c1 c2 CR
 go_loopw [4, 5] (fun v i wr => ∃ n : Nat, n ≤ y.structs.l.length ∧ i = .int .i64 n ∧ v = .string (bt (Pn.structsT (y.structs.l.take n) [])) ∧ Hid (Below wA.heap.size wA wr)) (fun _ i _ => y.structs.l.length - (intOf i).toNat)
 case atStart => exact ⟨0, Nat.zero_le _, rfl, by rw [List.take_zero]; rfl, HB1⟩
 case round =>
  obtain ⟨n, hn, rfl, rfl, HB⟩ := hrel
  have hlim := HLS.out.1
  have c0 := (HC.out wr HB.out).1
  have so : (bt (Pn.structsT (y.structs.l.take n) [])).size ≤ 100000000000 := HSL.out n
  by_cases hnl : n < y.structs.l.length
  ·obtain ⟨b1, o1, hpp, hrg, hsr⟩ := lay_at (HLS2.out wA (Below.refl _ _)) hnl
   have hok := List.all_eq_true.1 HS.out y.structs.l[n] (List.getElem_mem hnl)
   have hfl := HT2.out y.structs.l[n] (List.getElem_mem hnl)
   have htk := Pn.take_snoc y.structs.l n hnl
   generalize y.structs.l[n] = x at hrg hsr hok hfl htk
   simp only [Pn.okStruct, Bool.and_eq_true] at hok
   have HTK := hdn htk; have HFO := hdn (Pn.fields_decls hok.2)
   have sn : x.name.size ≤ 16 := (Pn.okN_nameB hok.1).1
   have HX : Hid (∀ w', Below wA.heap.size wA w' → w'.cell? ⟨b1, o1 + n * 3, none⟩ = some (.string x.name) ∧ w'.cell? ⟨b1, o1 + n * 3 + 2, none⟩ = some (.slice x.fields.p x.fields.l.length x.fields.cap)) :=
    hdn (fun w' hb => ⟨by simpa using cell_at (rangeAt_below hrg hb) 0 _ rfl, cell_at (rangeAt_below hrg hb) 2 _ rfl⟩)
   have HXL := hdn (Lay.of_sl (decls_of hsr) (by decide))
   obtain ⟨bs, hbs⟩ : ∃ bs, bs = Pn.structsT (y.structs.l.take n) [] ++ [115, 116, 114, 117, 99, 116, 32] ++ Pn.txt x.name ++ [32, 123, 10] := ⟨_, rfl⟩
   have HE0 : Hid (bt (bs ++ Pn.fieldsT 1 (x.fields.l.take 0) []) = bt (Pn.structsT (y.structs.l.take n) []) ++ ⟨#[115, 116, 114, 117, 99, 116, 32]⟩ ++ x.name ++ ⟨#[32, 123, 10]⟩) := hdn (by rw [hbs, List.take_zero]; exact ba_ext (by simp [bt, Pn.txt, Pn.fieldsT]))
   have HE : Hid (bt (Pn.structsT (y.structs.l.take (n + 1)) []) = bt (bs ++ Pn.fieldsT 1 x.fields.l []) ++ ⟨#[125, 10]⟩) := hdn (by rw [HTK.out, Pn.structsT_snoc, hbs]; exact ba_ext (by simp [bt, Pn.srT, Pn.tStruct]))
   have sb : bs.length ≤ 100000000100 := by rw [hbs]; rw [bt_size] at so; have := Pn.txt_len hok.1; simp only [List.length_append, List.length_cons, List.length_nil]; omega
   have x0 := (HX.out wr HB.out).1
   rw [hpp] at c0
   have HPP := hdn hpp
   clear hpp hrg hsr hok htk hbs
   have hn0 : (0 : Int) ≤ (n : Int) := Int.natCast_nonneg _
   have hn1 : (n : Int) < (y.structs.l.length : Int) := by omega
   generalize bt (Pn.structsT (y.structs.l.take n) []) = out at *
   have HB0 := HB
   clear HB
   go_wp2_with fail
   clear c0 x0
   go_loopw [4, 6] (fun v i wr => ∃ m : Nat, m ≤ x.fields.l.length ∧ i = .int .i64 m ∧ v = .string (bt (bs ++ Pn.fieldsT 1 (x.fields.l.take m) [])) ∧ Hid (Below wA.heap.size wA wr)) (fun _ i _ => x.fields.l.length - (intOf i).toNat)
   case atStart => exact ⟨0, Nat.zero_le _, rfl, by rw [HE0.out], HB0⟩
   case round =>
    obtain ⟨m, hm, rfl, rfl, HB⟩ := hrel
    have c0 := (HC.out wr HB.out).1
    rw [HPP.out] at c0
    have x2 := (HX.out wr HB.out).2
    have sv : (bt (bs ++ Pn.fieldsT 1 (x.fields.l.take m) [])).size ≤ 100001000000 := by
     rw [bt_size, List.length_append]; have := part_len (d := 1) (by omega) m HFO.out hfl; omega
    by_cases hml : m < x.fields.l.length
    ·obtain ⟨b2, o2, hp2, hr2, -⟩ := lay_at HXL.out hml
     have hdo := List.all_eq_true.1 HFO.out x.fields.l[m] (List.getElem_mem hml)
     have htk := Pn.take_snoc x.fields.l m hml
     generalize x.fields.l[m] = z at hr2 hdo htk
     obtain ⟨z0, z1, z2⟩ := decl_at (hr2) (HBA.out.trans (HB.out.mono HBA.out.size) |> fun _ => HB.out)
     have HEN : Hid (bt (bs ++ Pn.fieldsT 1 (x.fields.l.take (m + 1)) []) = bt (bs ++ Pn.fieldsT 1 (x.fields.l.take m) []) ++ ⟨#[32, 32]⟩ ++ bt (Pn.declT z) ++ ⟨#[59, 10]⟩) := hdn (by rw [htk, Pn.fieldsT_snoc, pad1]; exact ba_ext (by simp [bt]))
     have CD := declT_any z wr hdo
     have sd : (bt (Pn.declT z)).size ≤ 40 := decl_len hdo
     rw [hp2] at x2
     have hm0 : (0 : Int) ≤ (m : Int) := Int.natCast_nonneg _
     have hm1 : (m : Int) < (x.fields.l.length : Int) := by omega
     clear hp2 hr2 hdo htk
     generalize bt (bs ++ Pn.fieldsT 1 (x.fields.l.take m) []) = vo at *
     generalize bt (Pn.declT z) = td at *
     go_wp2_with (go_at_call 32; refine CD.mono ?_; rintro en w3 ⟨rfl, hb⟩; have HB3 := hdn (HB.out.trans (hb.mono HB.out.size)); clear hb)
     go_roundw
     case rel => exact ⟨m + 1, by omega, by go_num, by rw [HEN.out], HB3⟩
     case measure => simp [intOf]; omega
    ·obtain rfl : m = x.fields.l.length := by omega
     rw [List.take_length] at *
     generalize bt (bs ++ Pn.fieldsT 1 x.fields.l []) = vo at *
     go_wp2_with fail
     go_roundw
     case rel => exact ⟨n + 1, by omega, by go_num, by rw [HE.out], HB⟩
     case measure => simp [intOf]; omega
  ·obtain rfl : n = y.structs.l.length := by omega
   rw [List.take_length] at *
   have HE0 : Hid (bt (Pn.structsT y.structs.l [] ++ Pn.fieldsT 0 (y.globals.l.take 0) []) = bt (Pn.structsT y.structs.l [])) := hdn (by rw [List.take_zero]; exact ba_ext (by simp [bt, Pn.fieldsT]))
   generalize bt (Pn.structsT y.structs.l []) = out at *
   have HB0 := HB
   clear HB hlim
   go_wp2_with fail
   clear c0
   go_loopw [4, 7] (fun v i wr => ∃ m : Nat, m ≤ y.globals.l.length ∧ i = .int .i64 m ∧ v = .string (bt (Pn.structsT y.structs.l [] ++ Pn.fieldsT 0 (y.globals.l.take m) [])) ∧ Hid (Below wA.heap.size wA wr)) (fun _ i _ => y.globals.l.length - (intOf i).toNat)
   case atStart => exact ⟨0, Nat.zero_le _, rfl, by rw [HE0.out], HB0⟩
   case round =>
    obtain ⟨m, hm, rfl, rfl, HB⟩ := hrel
    have hlim := HLG.out.1
    have c1 := (HC.out wr HB.out).2.1
    have sv : (bt (Pn.structsT y.structs.l [] ++ Pn.fieldsT 0 (y.globals.l.take m) [])).size ≤ 100001000000 := by
     rw [bt_size, List.length_append]; have := part_len (d := 0) (by omega) m HG.out HT3.out; have := HSA.out; omega
    by_cases hml : m < y.globals.l.length
    ·obtain ⟨b2, o2, hp2, hr2, -⟩ := lay_at (HLG2.out wA (Below.refl _ _)) hml
     have hdo := List.all_eq_true.1 HG.out y.globals.l[m] (List.getElem_mem hml)
     have htk := Pn.take_snoc y.globals.l m hml
     generalize y.globals.l[m] = z at hr2 hdo htk
     obtain ⟨z0, z1, z2⟩ := decl_at hr2 HB.out
     have HEN : Hid (bt (Pn.structsT y.structs.l [] ++ Pn.fieldsT 0 (y.globals.l.take (m + 1)) []) = bt (Pn.structsT y.structs.l [] ++ Pn.fieldsT 0 (y.globals.l.take m) []) ++ bt (Pn.declT z) ++ ⟨#[59, 10]⟩) := hdn (by rw [htk, Pn.fieldsT_snoc, pad0]; exact ba_ext (by simp [bt]))
     have CD := declT_any z wr hdo
     have sd : (bt (Pn.declT z)).size ≤ 40 := decl_len hdo
     rw [hp2] at c1
     have hm0 : (0 : Int) ≤ (m : Int) := Int.natCast_nonneg _
     have hm1 : (m : Int) < (y.globals.l.length : Int) := by omega
     clear hp2 hr2 hdo htk
     generalize bt (Pn.structsT y.structs.l [] ++ Pn.fieldsT 0 (y.globals.l.take m) []) = vo at *
     generalize bt (Pn.declT z) = td at *
     go_wp2_with (go_at_call 32; refine CD.mono ?_; rintro en w3 ⟨rfl, hb⟩; have HB3 := hdn (HB.out.trans (hb.mono HB.out.size)); clear hb)
     go_roundw
     case rel => exact ⟨m + 1, by omega, by go_num, by rw [HEN.out], HB3⟩
     case measure => simp [intOf]; omega
    ·obtain rfl : m = y.globals.l.length := by omega
     rw [List.take_length] at *
     obtain ⟨gs, hgs⟩ : ∃ gs, gs = Pn.structsT y.structs.l [] ++ Pn.fieldsT 0 y.globals.l [] := ⟨_, rfl⟩
     have sg : gs.length ≤ 100000000000 := by rw [hgs]; exact HGA.out
     have HEP : Hid (Pn.progT y = gs ++ Pn.procsT y.procs.l) := hdn (by rw [HEQ.out, hgs, List.append_assoc])
     rw [← hgs] at *
     have HE0 : Hid (bt (gs ++ Pn.procsT (y.procs.l.take 0)) = bt gs) := hdn (by rw [List.take_zero]; exact ba_ext (by simp [bt, Pn.procsT]))
     clear hgs
     generalize bt gs = out2 at *
     have HB0 := HB
     clear HB hlim
     go_wp2_with fail
     clear c1
     go_loopw [4, 8] (fun v i wr => ∃ k : Nat, k ≤ y.procs.l.length ∧ i = .int .i64 k ∧ v = .string (bt (gs ++ Pn.procsT (y.procs.l.take k))) ∧ Hid (Below wA.heap.size wA wr)) (fun _ i _ => y.procs.l.length - (intOf i).toNat)
     case atStart => exact ⟨0, Nat.zero_le _, rfl, by rw [HE0.out], HB0⟩
     case round =>
      obtain ⟨k, hk, rfl, rfl, HB⟩ := hrel
      have hlim := HLP.out.1
      have c2 := (HC.out wr HB.out).2.2
      have so : (bt (gs ++ Pn.procsT (y.procs.l.take k))).size ≤ 200000000000 := by
       rw [bt_size, List.length_append]; have := HPA.out k; omega
      by_cases hkl : k < y.procs.l.length
      ·obtain ⟨b1, o1, hpp, hrg, hpl⟩ := lay_at (HLP2.out wr HB.out) hkl
       have hok := List.all_eq_true.1 HP.out y.procs.l[k] (List.getElem_mem hkl)
       have hdx := List.all_eq_true.1 HDP.out y.procs.l[k] (List.getElem_mem hkl)
       obtain ⟨htp, htl, htb⟩ := HT5.out y.procs.l[k] (List.getElem_mem hkl)
       obtain ⟨s1, s2, s3⟩ := Pn.cntP_step y.procs.l k hkl
       have s0 := Pn.cntP_nn (y.procs.l.take k)
       have htk := Pn.take_snoc y.procs.l k hkl
       generalize y.procs.l[k] = x at hrg hpl hok hdx htp htl htb s1 htk
       simp only [Pn.okProc, Bool.and_eq_true, decide_eq_true_eq] at hok hdx
       obtain ⟨⟨⟨on, op⟩, ol⟩, ob⟩ := hok
       have hcx : Pn.cnt x.body ≤ 400 := by have := HCN.out; omega
       have HTK := hdn htk; have HOP := hdn op; have HOL := hdn ol
       have sn : x.name.size ≤ 16 := (Pn.okN_nameB on).1
       obtain ⟨cs, hcs⟩ : ∃ cs : Array Value, cs = (Pc.cells x).toArray := ⟨_, rfl⟩
       have HRG : Hid (wr.rangeAt b1 (o1 + k * 6) cs.toList) := hdn (by rw [hcs]; exact hrg)
       have HSZ : Hid ((Tryz.prog.info? 40).map (·.size) = some cs.size) := hdn (by rw [hcs]; exact size40)
       have HZ : Hid (6 = cs.size) := hdn (by rw [hcs]; rfl)
       have HONE : Hid (cs.all (·.oneCell') = true) := hdn (by rw [hcs]; simp [Value.oneCell'])
       obtain ⟨wq, hwq⟩ : ∃ wq : World, wq = wr.alloc (.cells cs 40) := ⟨_, rfl⟩
       have HBQ : Hid (Below wr.heap.size wr wq) := hdn (by rw [hwq]; exact (Below.refl _ _).alloc (Nat.le_refl _) _)
       have HBX : Hid (Below wA.heap.size wA wq) := hdn (HB.out.trans (HBQ.out.mono HB.out.size))
       have HKQ : Hid (Bk wq wr.heap.size 40 cs) := hdn (by rw [hwq]; exact heap_alloc_new _ _)
       have HX : Hid (∀ w', Below wq.heap.size wq w' → w'.cell? ⟨wr.heap.size, 0, none⟩ = some (.string x.name) ∧ w'.cell? ⟨wr.heap.size, 3, none⟩ = some (.slice x.params.p x.params.l.length x.params.cap) ∧ w'.cell? ⟨wr.heap.size, 4, none⟩ = some (.slice x.locals_.p x.locals_.l.length x.locals_.cap) ∧ w'.cell? ⟨wr.heap.size, 5, none⟩ = some (.slice x.bp x.body.len x.bc)) :=
        hdn (fun w' hb => by
         have hk := HKQ.out.below hb HKQ.out.lt
         rw [hcs] at hk
         exact ⟨hk.cell 0, hk.cell 3, hk.cell 4, hk.cell 5⟩)
       have HPL : Hid (∀ w', Below wq.heap.size wq w' → pcLies w' x) := hdn (fun w' hb => pcLies_below (pcLies_below hpl HBQ.out) hb)
       have HLA := hdn (Lay.of_sl (decls_of (HPL.out wq (Below.refl _ _)).1) (by decide))
       have HLB := hdn (Lay.of_sl (decls_of (HPL.out wq (Below.refl _ _)).2.1) (by decide))
       have CB : Hid (∀ w', Below wq.heap.size wq w' → Calls Tryz.prog 33 #[.slice x.bp x.body.len x.bc, .int .i64 1] w' fun e w'' => e = .returned (.string (bt (Pn.linesT x.body 1))) ∧ Below w'.heap.size w' w'') := hdn (fun w' hb => lines_any hD x.body x.bp x.bc w' 1 (HPL.out w' hb).2.2 ob htb (by omega) hcx)
       have sl : (bt (Pn.linesT x.body 1)).size ≤ 800000000 := lines_bd ob htb (by omega) hcx
       obtain ⟨bs, hbs⟩ : ∃ bs, bs = gs ++ Pn.procsT (y.procs.l.take k) ++ [118, 111, 105, 100, 32] ++ Pn.txt x.name ++ [40] := ⟨_, rfl⟩
       have HE0 : Hid (bt (bs ++ Pn.commaT Pn.declT (x.params.l.take 0)) = bt (gs ++ Pn.procsT (y.procs.l.take k)) ++ ⟨#[118, 111, 105, 100, 32]⟩ ++ x.name ++ ⟨#[40]⟩) := hdn (by rw [hbs, List.take_zero]; exact ba_ext (by simp [bt, Pn.txt, Pn.commaT]))
       obtain ⟨bl, hbl⟩ : ∃ bl, bl = bs ++ Pn.commaT Pn.declT x.params.l ++ [41, 32, 123, 10] := ⟨_, rfl⟩
       have HE1 : Hid (bt (bl ++ Pn.fieldsT 1 (x.locals_.l.take 0) []) = bt (bs ++ Pn.commaT Pn.declT x.params.l) ++ ⟨#[41, 32, 123, 10]⟩) := hdn (by rw [hbl, List.take_zero]; exact ba_ext (by simp [bt, Pn.fieldsT]))
       have HE : Hid (bt (gs ++ Pn.procsT (y.procs.l.take (k + 1))) = bt (bl ++ Pn.fieldsT 1 x.locals_.l []) ++ bt (Pn.linesT x.body 1) ++ ⟨#[125, 10]⟩) := hdn (by rw [HTK.out, Pn.procsT_snoc, hbl, hbs]; exact ba_ext (by simp [bt, Pn.pcT, Pn.tVoid]))
       have sb : bs.length ≤ 200000000100 := by rw [hbs]; rw [bt_size] at so; have := Pn.txt_len on; simp only [List.length_append, List.length_cons, List.length_nil] at *; omega
       have HPB : Hid (∀ n, (bs ++ Pn.commaT Pn.declT (x.params.l.take n)).length ≤ 200001000000) := hdn (fun n => by
        have h1 := Pn.comma_len (f := Pn.declT) (B := 40) (x.params.l.take n) (fun a ha => decl_len (List.all_eq_true.1 op a (List.mem_of_mem_take ha)))
        rw [List.length_append]
        rw [List.length_take] at h1
        omega)
       have sbl : bl.length ≤ 200001000100 := by
        have h1 := HPB.out x.params.l.length
        rw [List.take_length] at h1
        rw [hbl, List.length_append]; simp only [List.length_cons, List.length_nil]; omega
       have hn0 : (0 : Int) ≤ (k : Int) := Int.natCast_nonneg _
       have hn1 : (k : Int) < (y.procs.l.length : Int) := by omega
       rw [hpp] at c2
       clear hpp hrg hpl on op ol ob hcs hbs hbl hdx htb s0 s1 s2 s3 hcx htk
       generalize bt (gs ++ Pn.procsT (y.procs.l.take k)) = out3 at *
       generalize bt (Pn.linesT x.body 1) = tb at *
       go_upto_region 21 with (first | ((with_reducible show wpList _ _ _ (Oper.mk (some 86) _ _ _ _ _ :: _) _ _); refine wpList_load_arr rfl 40 (.tmp 85) rfl b1 (o1 + k * 6) rfl cs _ HRG.out Tryz.underlying40 rfl HSZ.out ?_) | ((with_reducible show wpList _ _ _ (Oper.mk none (Op.store _ _ _) _ _ _ _ :: _) _ _); refine wpList_store_new rfl 40 (.tmp 9) (.tmp 86) rfl _ cs rfl rfl HSZ.out HZ.out HONE.out ?_))
       rw [← hwq]
       clear hwq c2
       obtain ⟨Q, hQ⟩ : ∃ Q, Q = wr.heap.size := ⟨_, rfl⟩
       rw [← hQ] at HX ⊢
       clear hQ
       have x0 := (HX.out wq (Below.refl _ _)).1
       go_wp2_with fail
       clear x0
       go_loopw [4, 10] (fun v i wr => ∃ m : Nat, m ≤ x.params.l.length ∧ i = .int .i64 m ∧ v = .string (bt (bs ++ Pn.commaT Pn.declT (x.params.l.take m))) ∧ Hid (Below wq.heap.size wq wr)) (fun _ i _ => x.params.l.length - (intOf i).toNat)
       case atStart => exact ⟨0, Nat.zero_le _, rfl, by rw [HE0.out], hdn (Below.refl _ _)⟩
       case round =>
        obtain ⟨m, hm, rfl, rfl, HBR⟩ := hrel
        have x3 := (HX.out wr HBR.out).2.1
        have sv : (bt (bs ++ Pn.commaT Pn.declT (x.params.l.take m))).size ≤ 200001000000 := HPB.out m
        by_cases hml : m < x.params.l.length
        ·obtain ⟨b2, o2, hp2, hr2, -⟩ := lay_at HLA.out hml
         have hdo := List.all_eq_true.1 HOP.out x.params.l[m] (List.getElem_mem hml)
         have htk := Pn.take_snoc x.params.l m hml
         generalize x.params.l[m] = z at hr2 hdo htk
         obtain ⟨z0, z1, z2⟩ := decl_at hr2 HBR.out
         have HTZ := hdn htk
         have CD := declT_any z wr hdo
         have sd : (bt (Pn.declT z)).size ≤ 40 := decl_len hdo
         rw [hp2] at x3
         have hm0 : (0 : Int) ≤ (m : Int) := Int.natCast_nonneg _
         have hm1 : (m : Int) < (x.params.l.length : Int) := by omega
         clear hp2 hr2 hdo htk
         by_cases hz : m = 0
         ·have HEN : Hid (bt (bs ++ Pn.commaT Pn.declT (x.params.l.take (m + 1))) = bt (bs ++ Pn.commaT Pn.declT (x.params.l.take m)) ++ bt (Pn.declT z)) := hdn (by rw [HTZ.out, hz, List.take_zero, Pn.commaT_one]; exact ba_ext (by simp [bt, Pn.commaT]))
          have hm2 : ¬ ((0 : Int) < (m : Int)) := by omega
          clear hz
          generalize bt (bs ++ Pn.commaT Pn.declT (x.params.l.take m)) = vo at *
          generalize bt (Pn.declT z) = td at *
          go_wp2_with (go_at_call 32; refine CD.mono ?_; rintro en w3 ⟨rfl, hb⟩; have HB3 := hdn (HBR.out.trans (hb.mono HBR.out.size)); clear hb)
          go_roundw
          case rel => exact ⟨m + 1, by omega, by go_num, by rw [HEN.out], HB3⟩
          case measure => simp [intOf]; omega
         ·have HEN : Hid (bt (bs ++ Pn.commaT Pn.declT (x.params.l.take (m + 1))) = bt (bs ++ Pn.commaT Pn.declT (x.params.l.take m)) ++ ⟨#[44, 32]⟩ ++ bt (Pn.declT z)) := hdn (by
           rw [HTZ.out, Pn.commaT_snoc _ _ _ (by intro h0; have := congrArg List.length h0; rw [List.length_take, List.length_nil] at this; omega)]; exact ba_ext (by simp [bt]))
          have hm2 : (0 : Int) < (m : Int) := by omega
          generalize bt (bs ++ Pn.commaT Pn.declT (x.params.l.take m)) = vo at *
          generalize bt (Pn.declT z) = td at *
          go_wp2_with (go_at_call 32; refine CD.mono ?_; rintro en w3 ⟨rfl, hb⟩; have HB3 := hdn (HBR.out.trans (hb.mono HBR.out.size)); clear hb)
          go_roundw
          case rel => exact ⟨m + 1, by omega, by go_num, by rw [HEN.out], HB3⟩
          case measure => simp [intOf]; omega
        ·obtain rfl : m = x.params.l.length := by omega
         rw [List.take_length] at *
         generalize bt (bs ++ Pn.commaT Pn.declT x.params.l) = vo at *
         have HB0 := HBR
         clear HBR
         go_wp2_with fail
         clear x3
         go_loopw [4, 11] (fun v i wr => ∃ m : Nat, m ≤ x.locals_.l.length ∧ i = .int .i64 m ∧ v = .string (bt (bl ++ Pn.fieldsT 1 (x.locals_.l.take m) [])) ∧ Hid (Below wq.heap.size wq wr)) (fun _ i _ => x.locals_.l.length - (intOf i).toNat)
         case atStart => exact ⟨0, Nat.zero_le _, rfl, by rw [HE1.out], HB0⟩
         case round =>
          obtain ⟨m, hm, rfl, rfl, HBR⟩ := hrel
          obtain ⟨-, -, x4, x5⟩ := HX.out wr HBR.out
          have sv : (bt (bl ++ Pn.fieldsT 1 (x.locals_.l.take m) [])).size ≤ 200003000000 := by
           rw [bt_size, List.length_append]; have := part_len (d := 1) (by omega) m HOL.out htl; omega
          by_cases hml : m < x.locals_.l.length
          ·obtain ⟨b2, o2, hp2, hr2, -⟩ := lay_at HLB.out hml
           have hdo := List.all_eq_true.1 HOL.out x.locals_.l[m] (List.getElem_mem hml)
           have htk := Pn.take_snoc x.locals_.l m hml
           generalize x.locals_.l[m] = z at hr2 hdo htk
           obtain ⟨z0, z1, z2⟩ := decl_at hr2 HBR.out
           have HEN : Hid (bt (bl ++ Pn.fieldsT 1 (x.locals_.l.take (m + 1)) []) = bt (bl ++ Pn.fieldsT 1 (x.locals_.l.take m) []) ++ ⟨#[32, 32]⟩ ++ bt (Pn.declT z) ++ ⟨#[59, 10]⟩) := hdn (by rw [htk, Pn.fieldsT_snoc, pad1]; exact ba_ext (by simp [bt]))
           have CD := declT_any z wr hdo
           have sd : (bt (Pn.declT z)).size ≤ 40 := decl_len hdo
           rw [hp2] at x4
           have hm0 : (0 : Int) ≤ (m : Int) := Int.natCast_nonneg _
           have hm1 : (m : Int) < (x.locals_.l.length : Int) := by omega
           clear hp2 hr2 hdo htk x5
           generalize bt (bl ++ Pn.fieldsT 1 (x.locals_.l.take m) []) = vo at *
           generalize bt (Pn.declT z) = td at *
           go_wp2_with (go_at_call 32; refine CD.mono ?_; rintro en w3 ⟨rfl, hb⟩; have HB3 := hdn (HBR.out.trans (hb.mono HBR.out.size)); clear hb)
           go_roundw
           case rel => exact ⟨m + 1, by omega, by go_num, by rw [HEN.out], HB3⟩
           case measure => simp [intOf]; omega
          ·obtain rfl : m = x.locals_.l.length := by omega
           rw [List.take_length] at *
           generalize bt (bl ++ Pn.fieldsT 1 x.locals_.l []) = vo at *
           have CBW := CB.out wr HBR.out
           go_wp2_with (go_at_call 33; refine CBW.mono ?_; rintro en w3 ⟨rfl, hb⟩; have HB3 := hdn (HBX.out.trans ((HBR.out.trans (hb.mono HBR.out.size)).mono HBX.out.size)); clear hb)
           go_roundw
           case rel => exact ⟨k + 1, by omega, by go_num, by rw [HE.out], HB3⟩
           case measure => simp [intOf]; omega
      ·obtain rfl : k = y.procs.l.length := by omega
       rw [List.take_length] at *
       go_wp2_with fail
       refine bodyPost_ret (results_tmp2 rfl _ _ _) rfl ?_
       exact ⟨by rw [HEP.out]; rfl, HBA.out.trans (HB.out.mono HBA.out.size)⟩
end Go.Proofs.YtdlchhimkelinaaGreatDoor
namespace Go.Proofs.YtdlchhimkelinaaGreatDoor
open Go.RowKit Go.Sort
attribute [local go_sem] field79_0 field79_1 field79_2 field79_3
section
variable {pb sb cap : Nat} {l : List Tx.Sg}
theorem Pr.name_sg {t : List Pr.Tk} {u v : Pr.St} {x : Pr.Tk} (h : Pr.name t u = .ok (x, v)) : x = Pr.sg t u.i := by
 unfold Pr.name at h
 split at h
 ·injection h with h; injection h with h _; exact h.symm
 ·cases h
theorem free_any (w : World) (u : Pr.St) (S : Nat) (p0 : Int) (h : PS w pb sb cap l u.i u.o u.b) (hg : Good l) (hk : Bk w S 54 (it0 p0).cells.toArray) (hn : S ≠ pb ∧ S ≠ sb) :
  Calls Tryz.prog 162 #[.pointer (some ⟨pb, 0, none⟩), .pointer (some ⟨S, 0, none⟩)] w (OutS itH w pb sb cap S l (Pr.free (l.map Pr.tk) u)) := by
 obtain ⟨r, hr⟩ : ∃ r, r = Pr.free (l.map Pr.tk) u := ⟨_, rfl⟩
 rw [← hr]
 have HR := hdn hr
 have HL := hdn hg
 have HP0 := hdn h
 have HSN : Hid (S ≠ pb ∧ S ≠ sb ∧ S < w.heap.size ∧ pb < w.heap.size) := hdn ⟨hn.1, hn.2, hk.lt, h.pb_lt⟩
 have HG0 : Hid (Gr2 w w pb S) := hdn (Gr2.refl _ _ _)
 obtain ⟨x0, hx0⟩ : ∃ x, x = it0 p0 := ⟨_, rfl⟩
 have HX0 : Hid (Stc w w S x0) := hdn (by rw [hx0]; exact Stc.zero p0 hk)
 have HE0 := hdn hx0
 clear h hg hr hk hn hx0
 go_enter Tryz.func162, Tryz.ntmps162
 have s0 : w.cell? ⟨S, 0, none⟩ = some (.int .i64 x0.h.kind) := HX0.out.1.cell 0
 have f0 := HX0.out.1.frozen 0
 have gS := grownBy_setC w ⟨S, 0, none⟩ (.int .i64 2)
 have HP1 := hdn (HP0.out.far gS HSN.out.1 HSN.out.2.1)
 have HG1 := hdn (HG0.out.two gS)
 have HX1 : Hid (Stc w (w.setCell ⟨S, 0, none⟩ (.int .i64 2)) S { x0 with h := { x0.h with kind := 2 } }) := hdn (HX0.out.kind HSN.out.2.2.1 2)
 clear gS
 go_upto_region 1 with fail
 clear s0 f0 HP0 HG0 HX0
 generalize w.setCell ⟨S, 0, none⟩ (.int .i64 2) = w1 at HP1 HG1 HX1 ⊢
 obtain ⟨x1, hx1⟩ : ∃ x : It, x = { x0 with h := { x0.h with kind := 2 } } := ⟨_, rfl⟩
 rw [← hx1] at HX1
 have HE1 := hdn hx1
 clear hx1
 go_wp2_with fail
 refine (must_any ⟨#[102, 114, 101, 101]⟩ (by decide) w1 u HP1.out HL.out).mono ?_; intro en w2 ho
 rcases hm1 : Pr.must (l.map Pr.tk) ⟨#[102, 114, 101, 101]⟩ u with n | ⟨a1, v1⟩
 ·obtain ⟨p, rfl, g⟩ := ho.of_err hm1
  exact ⟨rfl, OutS.err (by rw [HR.out]; simp only [Pr.free, Pr.th, hm1]) (HG1.out.one g)⟩
 obtain ⟨v, rfl, ⟨xx, rfl, _⟩, h, g⟩ := ho.of_ok hm1
 have HM1 := hdn hm1; have HP2 := hdn h; have HG2 := hdn (HG1.out.one g); have HX2 := hdn (HX1.out.par g HSN.out.1 HSN.out.2.2.2)
 clear h g ho hm1 HP1 HG1 HX1
 go_wp2_with fail
 refine (must_any ⟨#[40]⟩ (by decide) w2 v1 HP2.out HL.out).mono ?_; intro en w3 ho
 rcases hm2 : Pr.must (l.map Pr.tk) ⟨#[40]⟩ v1 with n | ⟨a2, v2⟩
 ·obtain ⟨p, rfl, g⟩ := ho.of_err hm2
  exact ⟨rfl, OutS.err (by rw [HR.out]; simp only [Pr.free, Pr.th, HM1.out, hm2]) (HG2.out.one g)⟩
 obtain ⟨v, rfl, ⟨xx, rfl, _⟩, h, g⟩ := ho.of_ok hm2
 have HM2 := hdn hm2; have HP3 := hdn h; have HG3 := hdn (HG2.out.one g); have HX3 := hdn (HX2.out.par g HSN.out.1 HSN.out.2.2.2)
 clear h g ho hm2 HP2 HG2 HX2
 go_wp2_with fail
 refine (path_any w3 v2 HP3.out HL.out).mono ?_; intro en w4 ho
 rcases hm3 : Pr.path (l.map Pr.tk) v2 with n | ⟨a3, v3⟩
 ·obtain ⟨p, rfl, g⟩ := ho.of_err hm3
  exact ⟨rfl, OutS.err (by rw [HR.out]; simp only [Pr.free, Pr.th, HM1.out, HM2.out, hm3]) (HG3.out.one g)⟩
 obtain ⟨v, rfl, ⟨y, rfl, hz, hlie⟩, h, g⟩ := ho.of_ok hm3
 have HM3 := hdn hm3; have HP4 := hdn h; have HG4 := hdn (HG3.out.one g); have HX4 := hdn (HX3.out.par g HSN.out.1 HSN.out.2.2.2)
 have HZ := hdn hz; have HY : Hid (hopsLie (fresh w.heap.size w4) y.hops) := hdn (hopsLie_ext (fresh_mono HG3.out.size _) hlie); clear hz hlie
 clear h g ho hm3 HP3 HG3 HX3
 go_upto_region 4 with (first | ((with_reducible show wpList _ _ _ (Oper.mk none (Op.store 45 (Operand.tmp 15) (Operand.tmp 13)) _ _ _ _ :: _) _ _); refine wpList_store_part rfl 45 (.tmp 15) (.tmp 13) rfl S 2 54 x1.cells (Pth.cells y) rfl rfl HX4.out.1 size43 (show 2+3 ≤ 48 by decide) (kPth.one y) ?_; intro w5 hB hF))
 have HP5 := hdn (HP4.out.far hF HSN.out.1 HSN.out.2.1); have HG5 := hdn (HG4.out.two hF)
 have HX5 : Hid (Stc w w5 S { x1 with h := { x1.h with place := y } }) := hdn (HX4.out.place HSN.out.2.2.1 hB hF HY.out)
 clear hB hF HP4 HG4 HX4
 obtain ⟨x2, hx2⟩ : ∃ x : It, x = { x1 with h := { x1.h with place := y } } := ⟨_, rfl⟩
 rw [← hx2] at HX5
 have HE2 := hdn hx2
 clear hx2
 go_wp2_with fail
 refine (must_any ⟨#[41]⟩ (by decide) w5 v3 HP5.out HL.out).mono ?_; intro en w6 ho
 rcases hm4 : Pr.must (l.map Pr.tk) ⟨#[41]⟩ v3 with n | ⟨a4, v4⟩
 ·obtain ⟨p, rfl, g⟩ := ho.of_err hm4
  exact ⟨rfl, OutS.err (by rw [HR.out]; simp only [Pr.free, Pr.th, HM1.out, HM2.out, HM3.out, hm4]) (HG5.out.one g)⟩
 obtain ⟨v, rfl, ⟨xx, rfl, _⟩, h, g⟩ := ho.of_ok hm4
 have HM4 := hdn hm4; have HP6 := hdn h; have HG6 := hdn (HG5.out.one g); have HX6 := hdn (HX5.out.par g HSN.out.1 HSN.out.2.2.2)
 clear h g ho hm4 HP5 HG5 HX5
 go_wp2_with fail
 refine (must_any ⟨#[59]⟩ (by decide) w6 v4 HP6.out HL.out).mono ?_; intro en w7 ho
 rcases hm5 : Pr.must (l.map Pr.tk) ⟨#[59]⟩ v4 with n | ⟨a5, v5⟩
 ·obtain ⟨p, rfl, g⟩ := ho.of_err hm5
  exact ⟨rfl, OutS.err (by rw [HR.out]; simp only [Pr.free, Pr.th, HM1.out, HM2.out, HM3.out, HM4.out, hm5]) (HG6.out.one g)⟩
 obtain ⟨v, rfl, ⟨xx, rfl, _⟩, h, g⟩ := ho.of_ok hm5
 have HM5 := hdn hm5; have HP7 := hdn h; have HG7 := hdn (HG6.out.one g); have HX7 := hdn (HX6.out.par g HSN.out.1 HSN.out.2.2.2)
 clear h g ho hm5 HP6 HG6 HX6
 go_wp2_with fail
 go_end0
 exact OutS.ok (u := v5) (a := { Pr.noHd with kind := 2, place := a3 }) (x := x2) (by rw [HR.out]; simp only [Pr.free, Pr.th, HM1.out, HM2.out, HM3.out, HM4.out, HM5.out]) HG7.out (by rw [HE2.out, HE1.out, HE0.out, ← HZ.out]; rfl) HX7.out HP7.out
theorem named_any (w : World) (u : Pr.St) (S : Nat) (p0 : Int) (h : PS w pb sb cap l u.i u.o u.b) (hg : Good l) (hk : Bk w S 54 (it0 p0).cells.toArray) (hn : S ≠ pb ∧ S ≠ sb) (hT : Tex l) (hx : (Pr.sg (l.map Pr.tk) u.i).kind ≠ 0) :
  Calls Tryz.prog 165 #[.pointer (some ⟨pb, 0, none⟩), .pointer (some ⟨S, 0, none⟩)] w (OutS itH w pb sb cap S l (Pr.named (l.map Pr.tk) u)) := by
 obtain ⟨r, hr⟩ : ∃ r, r = Pr.named (l.map Pr.tk) u := ⟨_, rfl⟩
 rw [← hr]
 have HR := hdn hr
 have HL := hdn hg
 have HP0 := hdn h
 have HSN : Hid (S ≠ pb ∧ S ≠ sb ∧ S < w.heap.size ∧ pb < w.heap.size) := hdn ⟨hn.1, hn.2, hk.lt, h.pb_lt⟩
 have HG0 : Hid (Gr2 w w pb S) := hdn (Gr2.refl _ _ _)
 obtain ⟨x0, hx0⟩ : ∃ x, x = it0 p0 := ⟨_, rfl⟩
 have HX0 : Hid (Stc w w S x0) := hdn (by rw [hx0]; exact Stc.zero p0 hk)
 have HE0 := hdn hx0
 obtain ⟨x, hx1⟩ := h.at
 have hi := hg.more hx1 (by rw [Pr.sg_tk hx1] at hx; exact hx)
 obtain ⟨y1, hy1⟩ : ∃ y, l[u.i + 1]? = some y := ⟨l[u.i + 1], List.getElem?_eq_getElem hi⟩
 have HY1 : Hid (Pr.is (l.map Pr.tk) (u.i + 1) ⟨#[40]⟩ = (y1.text.toList == [40])) := hdn (by rw [Pr.is_tk hy1]; rw [show (⟨#[40]⟩ : ByteArray).toList = [40] from Lib.toList_data _])
 have HB := hdn (behind_any y1 w h hg hy1)
 have HTX := hdn hT
 have HI := hdn hx1
 clear hx1 hi hy1
 clear h hg hr hk hn hx0 hT hx
 go_enter Tryz.func165, Tryz.ntmps165
 go_wp2_with fail
 refine (HB.out).mono ?_; rintro en w1 ⟨rfl, hb⟩
 have HP1 := hdn (HP0.out.below hb); have HG1 := hdn (HG0.out.one (grownBy_of hb (some pb))); have HX1 := hdn (HX0.out.par (grownBy_of hb (some pb)) HSN.out.1 HSN.out.2.2.2)
 clear hb HP0 HG0 HX0 HB
 rcases q1 : (y1.text.toList == [40]) with _ | _
 ·have HSK := hdn (HY1.out.trans q1)
  have s0 : w1.cell? ⟨S, 0, none⟩ = some (.int .i64 x0.h.kind) := HX1.out.1.cell 0
  have f0 := HX1.out.1.frozen 0
  have gS := grownBy_setC w1 ⟨S, 0, none⟩ (.int .i64 1)
  have HP2 := hdn (HP1.out.far gS HSN.out.1 HSN.out.2.1)
  have HG2 := hdn (HG1.out.two gS)
  have HX2 : Hid (Stc w (w1.setCell ⟨S, 0, none⟩ (.int .i64 1)) S { x0 with h := { x0.h with kind := 1 } }) := hdn (HX1.out.kind HSN.out.2.2.1 1)
  clear gS
  go_upto_region 5 with fail
  clear q1 s0 f0 HP1 HG1 HX1
  generalize w1.setCell ⟨S, 0, none⟩ (.int .i64 1) = w2 at HP2 HG2 HX2 ⊢
  obtain ⟨x1, hx1⟩ : ∃ x : It, x = { x0 with h := { x0.h with kind := 1 } } := ⟨_, rfl⟩
  rw [← hx1] at HX2
  have HE1 := hdn hx1
  clear hx1
  go_wp2_with fail
  refine (path_any w2 u HP2.out HL.out).mono ?_; intro en w3 ho
  rcases hm1 : Pr.path (l.map Pr.tk) u with n | ⟨a1, v1⟩
  ·obtain ⟨p, rfl, g⟩ := ho.of_err hm1
   exact ⟨rfl, OutS.err (by rw [HR.out]; simp only [Pr.named, HSK.out, Bool.false_eq_true, if_false, Pr.th, hm1]) (HG2.out.one g)⟩
  obtain ⟨v, rfl, ⟨y, rfl, hz, hlie⟩, h, g⟩ := ho.of_ok hm1
  have HM1 := hdn hm1; have HP3 := hdn h; have HG3 := hdn (HG2.out.one g); have HX3 := hdn (HX2.out.par g HSN.out.1 HSN.out.2.2.2)
  have HZ := hdn hz; have HY : Hid (hopsLie (fresh w.heap.size w3) y.hops) := hdn (hopsLie_ext (fresh_mono HG2.out.size _) hlie); clear hz hlie
  clear h g ho hm1 HP2 HG2 HX2
  go_upto_region 6 with (first | ((with_reducible show wpList _ _ _ (Oper.mk none (Op.store 45 (Operand.tmp 28) (Operand.tmp 26)) _ _ _ _ :: _) _ _); refine wpList_store_part rfl 45 (.tmp 28) (.tmp 26) rfl S 2 54 x1.cells (Pth.cells y) rfl rfl HX3.out.1 size43 (show 2+3 ≤ 48 by decide) (kPth.one y) ?_; intro w4 hB hF))
  have HP4 := hdn (HP3.out.far hF HSN.out.1 HSN.out.2.1); have HG4 := hdn (HG3.out.two hF)
  have HX4 : Hid (Stc w w4 S { x1 with h := { x1.h with place := y } }) := hdn (HX3.out.place HSN.out.2.2.1 hB hF HY.out)
  clear hB hF HP3 HG3 HX3
  obtain ⟨x2, hx2⟩ : ∃ x : It, x = { x1 with h := { x1.h with place := y } } := ⟨_, rfl⟩
  rw [← hx2] at HX4
  have HE2 := hdn hx2
  clear hx2
  go_wp2_with fail
  refine (must_any ⟨#[61]⟩ (by decide) w4 v1 HP4.out HL.out).mono ?_; intro en w5 ho
  rcases hm2 : Pr.must (l.map Pr.tk) ⟨#[61]⟩ v1 with n | ⟨a2, v2⟩
  ·obtain ⟨p, rfl, g⟩ := ho.of_err hm2
   exact ⟨rfl, OutS.err (by rw [HR.out]; simp only [Pr.named, HSK.out, Bool.false_eq_true, if_false, Pr.th, HM1.out, hm2]) (HG4.out.one g)⟩
  obtain ⟨v, rfl, ⟨xx, rfl, _⟩, h, g⟩ := ho.of_ok hm2
  have HM2 := hdn hm2; have HP5 := hdn h; have HG5 := hdn (HG4.out.one g); have HX5 := hdn (HX4.out.par g HSN.out.1 HSN.out.2.2.2)
  clear h g ho hm2 HP4 HG4 HX4
  go_wp2_with fail
  refine (value_any w5 v2 HP5.out HL.out).mono ?_; intro en w6 ho
  rcases hm3 : Pr.value (l.map Pr.tk) v2 with n | ⟨a3, v3⟩
  ·obtain ⟨p, rfl, g⟩ := ho.of_err hm3
   exact ⟨rfl, OutS.err (by rw [HR.out]; simp only [Pr.named, HSK.out, Bool.false_eq_true, if_false, Pr.th, HM1.out, HM2.out, hm3]) (HG5.out.one g)⟩
  obtain ⟨v, rfl, ⟨z, rfl, hz, hlie⟩, h, g⟩ := ho.of_ok hm3
  have HM3 := hdn hm3; have HP6 := hdn h; have HG6 := hdn (HG5.out.one g); have HX6 := hdn (HX5.out.par g HSN.out.1 HSN.out.2.2.2)
  have HZ2 := hdn hz; have HY2 : Hid (vlLies (fresh w.heap.size w6) z) := hdn (hopsLie_ext (fresh_mono HG5.out.size _) hlie); clear hz hlie
  clear h g ho hm3 HP5 HG5 HX5
  go_upto_region 8 with (first | ((with_reducible show wpList _ _ _ (Oper.mk none (Op.store 49 (Operand.tmp 35) (Operand.tmp 33)) _ _ _ _ :: _) _ _); refine wpList_store_part rfl 49 (.tmp 35) (.tmp 33) rfl S 5 54 x2.cells (Vl.cells z) rfl rfl HX6.out.1 size47 (show 5+12 ≤ 48 by decide) (kVl.one z) ?_; intro w7 hB hF))
  have HP7 := hdn (HP6.out.far hF HSN.out.1 HSN.out.2.1); have HG7 := hdn (HG6.out.two hF)
  have HX7 : Hid (Stc w w7 S { x2 with h := { x2.h with value := z } }) := hdn (HX6.out.value HSN.out.2.2.1 hB hF HY2.out)
  clear hB hF HP6 HG6 HX6
  obtain ⟨x3, hx3⟩ : ∃ x : It, x = { x2 with h := { x2.h with value := z } } := ⟨_, rfl⟩
  rw [← hx3] at HX7
  have HE3 := hdn hx3
  clear hx3
  go_wp2_with fail
  refine (must_any ⟨#[59]⟩ (by decide) w7 v3 HP7.out HL.out).mono ?_; intro en w8 ho
  rcases hm4 : Pr.must (l.map Pr.tk) ⟨#[59]⟩ v3 with n | ⟨a4, v4⟩
  ·obtain ⟨p, rfl, g⟩ := ho.of_err hm4
   exact ⟨rfl, OutS.err (by rw [HR.out]; simp only [Pr.named, HSK.out, Bool.false_eq_true, if_false, Pr.th, HM1.out, HM2.out, HM3.out, hm4]) (HG7.out.one g)⟩
  obtain ⟨v, rfl, ⟨xx, rfl, _⟩, h, g⟩ := ho.of_ok hm4
  have HM4 := hdn hm4; have HP8 := hdn h; have HG8 := hdn (HG7.out.one g); have HX8 := hdn (HX7.out.par g HSN.out.1 HSN.out.2.2.2)
  clear h g ho hm4 HP7 HG7 HX7
  go_wp2_with fail
  go_end0
  exact OutS.ok (u := v4) (a := { Pr.noHd with kind := 1, place := a1, value := a3 }) (x := x3) (by rw [HR.out]; simp only [Pr.named, HSK.out, Bool.false_eq_true, if_false, Pr.th, HM1.out, HM2.out, HM3.out, HM4.out]) HG8.out (by rw [HE3.out, HE2.out, HE1.out, HE0.out, ← HZ.out, ← HZ2.out]; rfl) HX8.out HP8.out
 ·have HSK := hdn (HY1.out.trans q1)
  have s0 : w1.cell? ⟨S, 0, none⟩ = some (.int .i64 x0.h.kind) := HX1.out.1.cell 0
  have f0 := HX1.out.1.frozen 0
  have gS := grownBy_setC w1 ⟨S, 0, none⟩ (.int .i64 3)
  have HP2 := hdn (HP1.out.far gS HSN.out.1 HSN.out.2.1)
  have HG2 := hdn (HG1.out.two gS)
  have HX2 : Hid (Stc w (w1.setCell ⟨S, 0, none⟩ (.int .i64 3)) S { x0 with h := { x0.h with kind := 3 } }) := hdn (HX1.out.kind HSN.out.2.2.1 3)
  clear gS
  go_upto_region 2 with fail
  clear q1 s0 f0 HP1 HG1 HX1
  generalize w1.setCell ⟨S, 0, none⟩ (.int .i64 3) = w2 at HP2 HG2 HX2 ⊢
  obtain ⟨x1, hx1⟩ : ∃ x : It, x = { x0 with h := { x0.h with kind := 3 } } := ⟨_, rfl⟩
  rw [← hx1] at HX2
  have HE1 := hdn hx1
  clear hx1
  go_wp2_with fail
  refine (name_any w2 u HP2.out HL.out).mono ?_; intro en w3 ho
  rcases hm1 : Pr.name (l.map Pr.tk) u with n | ⟨a1, v1⟩
  ·obtain ⟨p, rfl, g⟩ := ho.of_err hm1
   exact ⟨rfl, OutS.err (by rw [HR.out]; simp only [Pr.named, HSK.out, if_true, Pr.th, hm1]) (HG2.out.one g)⟩
  obtain ⟨v, rfl, ⟨y, rfl, hz⟩, h, g⟩ := ho.of_ok hm1
  have HM1 := hdn hm1; have HP3 := hdn h; have HG3 := hdn (HG2.out.one g); have HX3 := hdn (HX2.out.par g HSN.out.1 HSN.out.2.2.2)
  have HZ := hdn hz; have HTY : Hid (y.text.size ≤ maxLen) := hdn (by have h2 : (Pr.tk y).text = (Pr.sg (l.map Pr.tk) u.i).text := congrArg Pr.Tk.text (hz.trans (Pr.name_sg HM1.out)); rw [Pr.sg_tk HI.out] at h2; have h3 : y.text = x.text := h2; rw [h3]; exact HTX.out _ _ HI.out); clear hz
  clear h g ho hm1 HP2 HG2 HX2
  have s0 : w3.cell? ⟨S, 43, none⟩ = some (.string x1.h.name) := HX3.out.1.cell 43
  have f0 := HX3.out.1.frozen 43
  have gS := grownBy_setC w3 ⟨S, 43, none⟩ (.string y.text)
  have HP4 := hdn (HP3.out.far gS HSN.out.1 HSN.out.2.1)
  have HG4 := hdn (HG3.out.two gS)
  have HX4 : Hid (Stc w (w3.setCell ⟨S, 43, none⟩ (.string y.text)) S { x1 with h := { x1.h with name := y.text } }) := hdn (HX3.out.name HSN.out.2.2.1 y.text HTY.out)
  clear gS
  go_upto_region 3 with fail
  clear s0 f0 HP3 HG3 HX3
  generalize w3.setCell ⟨S, 43, none⟩ (.string y.text) = w4 at HP4 HG4 HX4 ⊢
  obtain ⟨x2, hx2⟩ : ∃ x : It, x = { x1 with h := { x1.h with name := y.text } } := ⟨_, rfl⟩
  rw [← hx2] at HX4
  have HE2 := hdn hx2
  clear hx2
  go_wp2_with fail
  refine (args_any w4 v1 HP4.out HL.out).mono ?_; intro en w5 ho
  rcases hm2 : Pr.listed (l.map Pr.tk) (Pr.side (l.map Pr.tk)) v1 with n | ⟨a2, v2⟩
  ·obtain ⟨p, rfl, g⟩ := ho.of_err hm2
   exact ⟨rfl, OutS.err (by rw [HR.out]; simp only [Pr.named, HSK.out, if_true, Pr.th, HM1.out, hm2]) (HG4.out.one g)⟩
  obtain ⟨v, rfl, ⟨sl, rfl, hz, hlie⟩, h, g⟩ := ho.of_ok hm2
  have HM2 := hdn hm2; have HP5 := hdn h; have HG5 := hdn (HG4.out.one g); have HX5 := hdn (HX4.out.par g HSN.out.1 HSN.out.2.2.2)
  have HZ2 := hdn hz; have HY2 : Hid (argsLie (fresh w.heap.size w5) sl) := hdn (argsLie_ext (fresh_mono HG4.out.size _) hlie); clear hz hlie
  clear h g ho hm2 HP4 HG4 HX4
  have s0 : w5.cell? ⟨S, 44, none⟩ = some (.slice x2.h.args.p x2.h.args.l.length x2.h.args.cap) := HX5.out.1.cell 44
  have f0 := HX5.out.1.frozen 44
  have gS := grownBy_setC w5 ⟨S, 44, none⟩ (.slice sl.p sl.l.length sl.cap)
  have HP6 := hdn (HP5.out.far gS HSN.out.1 HSN.out.2.1)
  have HG6 := hdn (HG5.out.two gS)
  have HX6 : Hid (Stc w (w5.setCell ⟨S, 44, none⟩ (.slice sl.p sl.l.length sl.cap)) S { x2 with h := { x2.h with args := sl } }) := hdn (HX5.out.args HSN.out.2.2.1 sl HY2.out)
  clear gS
  go_upto_region 8 with fail
  clear s0 f0 HP5 HG5 HX5
  generalize w5.setCell ⟨S, 44, none⟩ (.slice sl.p sl.l.length sl.cap) = w6 at HP6 HG6 HX6 ⊢
  obtain ⟨x3, hx3⟩ : ∃ x : It, x = { x2 with h := { x2.h with args := sl } } := ⟨_, rfl⟩
  rw [← hx3] at HX6
  have HE3 := hdn hx3
  clear hx3
  go_wp2_with fail
  refine (must_any ⟨#[59]⟩ (by decide) w6 v2 HP6.out HL.out).mono ?_; intro en w7 ho
  rcases hm3 : Pr.must (l.map Pr.tk) ⟨#[59]⟩ v2 with n | ⟨a3, v3⟩
  ·obtain ⟨p, rfl, g⟩ := ho.of_err hm3
   exact ⟨rfl, OutS.err (by rw [HR.out]; simp only [Pr.named, HSK.out, if_true, Pr.th, HM1.out, HM2.out, hm3]) (HG6.out.one g)⟩
  obtain ⟨v, rfl, ⟨xx, rfl, _⟩, h, g⟩ := ho.of_ok hm3
  have HM3 := hdn hm3; have HP7 := hdn h; have HG7 := hdn (HG6.out.one g); have HX7 := hdn (HX6.out.par g HSN.out.1 HSN.out.2.2.2)
  clear h g ho hm3 HP6 HG6 HX6
  go_wp2_with fail
  go_end0
  exact OutS.ok (u := v3) (a := { Pr.noHd with kind := 3, name := a1.text, args := ⟨none, 0, a2⟩ }) (x := x3) (by rw [HR.out]; simp only [Pr.named, HSK.out, if_true, Pr.th, HM1.out, HM2.out, HM3.out]) HG7.out (by rw [HE3.out, HE2.out, HE1.out, HE0.out, ← HZ.out, ← HZ2.out]; rfl) HX7.out HP7.out
end
end Go.Proofs.YtdlchhimkelinaaGreatDoor
