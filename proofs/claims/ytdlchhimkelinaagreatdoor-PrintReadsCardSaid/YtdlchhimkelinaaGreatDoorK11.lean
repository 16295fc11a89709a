/-
  The printer: procedures, programs. Plain: what is read is no longer, sign by sign, than some ten times the text that it was read from. Plain: how long the printed text is; the least size of its signs. The printer's least size. least at the page's procedure. The page's example: print.Program, Right, 
-/
import Derived.Test.YtdlchhimkelinaaGreatDoorK10
import Derived.Test.YtdlchhimkelinaaGreatDoorK07
import Derived.Test.YtdlchhimkelinaaGreatDoorK08
import Derived.Test.YtdlchhimkelinaaGreatDoorK05
import Derived.Test.YtdlchhimkelinaaGreatDoorK03
import Derived.Test.YtdlchhimkelinaaGreatDoorK09
import Derived.Test.YtdlchhimkelinaaGreatDoorK04
set_option maxHeartbeats 6400000
set_option maxRecDepth 100000
namespace Go.Proofs.YtdlchhimkelinaaGreatDoor
open Go.RowKit Go.Sort
theorem procX_any (x : Pc) (q o : Nat) (w0 : World) (B : Bx) (b : Nat) (T : List UInt8) (w : World) (hG : Gp w0) (hr : w0.rangeAt q o x.cells) (hl : pcLies w0 x) (h : PrS w0 B b T 0 w) (ok : Pn.okProc x = true) (ta : x.params.l.length ≤ 8010) (tt : Pn.tight 8010 x.body) (hdp : Pn.dp x.body ≤ 20) (hT : T.length + (Pn.pcT x).length ≤ 100000000000) :
  Calls Tryz.prog 47 #[.pointer (some ⟨b, 0, none⟩), .pointer (some ⟨q, o, none⟩)] w fun e w' => e = .returned (.tuple #[]) ∧ PrS w0 B b (T ++ Pn.pcT x) 0 w' := by
 unfold Pn.okProc at ok
 simp only [Bool.and_eq_true, List.all_eq_true] at ok
 obtain ⟨⟨⟨o1, o2⟩, o3⟩, o4⟩ := ok
 have hs := (Pn.okN_nameB o1).1
 have HRW : Hid (∀ w' T' d', PrS w0 B b T' d' w' → w'.rangeAt q o x.cells) := hdn (fun w' T' d' h' => rangeAt_below hr h'.2.1)
 have HC : Hid (∀ w' T' d', PrS w0 B b T' d' w' → w'.cell? ⟨q, o, none⟩ = some (.string x.name) ∧ w'.cell? ⟨q, o + 3, none⟩ = some (.slice x.params.p x.params.l.length x.params.cap) ∧ w'.cell? ⟨q, o + 4, none⟩ = some (.slice x.locals_.p x.locals_.l.length x.locals_.cap) ∧ w'.cell? ⟨q, o + 5, none⟩ = some (.slice x.bp x.body.len x.bc)) := hdn (fun w' T' d' h' => ⟨cell_at (HRW.out _ _ _ h') 0 _ rfl, cell_at (HRW.out _ _ _ h') 3 _ rfl, cell_at (HRW.out _ _ _ h') 4 _ rfl, cell_at (HRW.out _ _ _ h') 5 _ rfl⟩)
 have CC : Hid (∀ w', PrS w0 B b T 0 w' → Calls Tryz.prog 86 #[.slice x.params.p x.params.l.length x.params.cap, .func (.func 85) #[] #[]] w' fun e w'' => e = .returned (.string (bt (Pn.commaT Pn.declT x.params.l))) ∧ PrS w0 B b T 0 w'') := hdn (fun w' h' =>
  (commasD_any x.params.l x.params.p x.params.cap w' (Lay.of_sl (R := triv) (slLies_below hl.1 h'.2.1 (fun _ h => h)) (by decide)) o2 ta).mono fun e w'' ⟨he, hb⟩ => ⟨he, h'.below hb⟩)
 have s2 : (bt (Pn.commaT Pn.declT x.params.l)).size ≤ 10000000 := by
  have := Pn.comma_len (f := Pn.declT) (B := 40) x.params.l (fun a ha => decl_len (o2 a ha))
  rw [bt_size]; omega
 obtain ⟨T1, hT1⟩ : ∃ T1, T1 = T ++ (Pn.tVoid ++ 32 :: (Pn.txt x.name ++ 40 :: (Pn.commaT Pn.declT x.params.l ++ [41, 32, 123, 10]))) := ⟨_, rfl⟩
 obtain ⟨T2, hT2⟩ : ∃ T2, T2 = T1 ++ Pn.fieldsT 1 x.locals_.l [] := ⟨_, rfl⟩
 obtain ⟨T3, hT3⟩ : ∃ T3, T3 = T2 ++ Pn.linesT x.body 1 := ⟨_, rfl⟩
 have e9 : T ++ Pn.pcT x = T3 ++ [125, 10] := by rw [hT3, hT2, hT1]; unfold Pn.pcT; simp
 have l9 : T3.length + 2 = T.length + (Pn.pcT x).length := by
  have := congrArg List.length e9
  simp only [List.length_append, List.length_cons, List.length_nil] at this ⊢
  omega
 have l3 : T2.length + (Pn.linesT x.body 1).length = T3.length := by rw [hT3, List.length_append]
 have l2 : T1.length + (Pn.fieldsT 1 x.locals_.l []).length = T2.length := by rw [hT2, List.length_append]
 have l1 : T.length ≤ T1.length := by rw [hT1, List.length_append]; omega
 have CB : Hid (∀ w', PrS w0 B b T 0 w' → Calls Tryz.prog 83 #[.pointer (some ⟨b, 0, none⟩), .string ((⟨#[118, 111, 105, 100, 32]⟩ : ByteArray) ++ x.name ++ ⟨#[40]⟩ ++ bt (Pn.commaT Pn.declT x.params.l) ++ ⟨#[41, 32]⟩)] w' fun e w'' => e = .returned (.tuple #[]) ∧ PrS w0 B b T1 1 w'') := hdn (fun w' h' => by
  refine (beginX _ w' h' (by omega) (by omega) (by rw [sizeApp, sizeApp, sizeApp, sizeApp, show (⟨#[118, 111, 105, 100, 32]⟩ : ByteArray).size = 5 from rfl, show (⟨#[40]⟩ : ByteArray).size = 1 from rfl, show (⟨#[41, 32]⟩ : ByteArray).size = 2 from rfl]; omega)).mono fun e w'' ⟨he, h1⟩ => ⟨he, h1.eq ?_⟩
  rw [hT1]; simp [bt, Pn.pad, Pn.tVoid, Pn.txt])
 have CD : Hid (∀ w', PrS w0 B b T1 1 w' → Calls Tryz.prog 44 #[.slice x.locals_.p x.locals_.l.length x.locals_.cap, .func (.func 45) #[.pointer (some ⟨b, 0, none⟩)] #[]] w' fun e w'' => e = .returned (.tuple #[]) ∧ PrS w0 B b T2 1 w'') := hdn (fun w' h' => by
  rw [hT2]
  exact eachDc_any x.locals_.l x.locals_.p x.locals_.cap w0 B b T1 1 w' hG (Lay.of_sl (R := triv) hl.2.1 (by decide)) h' o3 (by decide) (by omega))
 have CS : Hid (∀ w', PrS w0 B b T2 1 w' → Calls Tryz.prog 34 #[.slice x.bp x.body.len x.bc, .func (.func 35) #[.pointer (some ⟨b, 0, none⟩)] #[]] w' fun e w'' => e = .returned (.tuple #[]) ∧ PrS w0 B b T3 1 w'') := hdn (fun w' h' => by
  rw [hT3]
  exact eachSt_E x.body x.bp x.bc w0 B b T2 1 w' hG hl.2.2 h' o4 tt (by omega) (by omega))
 have CF : Hid (∀ w', PrS w0 B b T3 1 w' → Calls Tryz.prog 84 #[.pointer (some ⟨b, 0, none⟩)] w' fun e w'' => e = .returned (.tuple #[]) ∧ PrS w0 B b (T ++ Pn.pcT x) 0 w'') := hdn (fun w' h' => by
  refine (endX (d := 0) w' h' (by decide) (by omega)).mono fun e w'' ⟨he, h1⟩ => ⟨he, h1.eq ?_⟩
  rw [e9]; rfl)
 have HD := hdn (fun n => h.drew n)
 obtain ⟨c0, c3, _, _⟩ := HC.out w _ _ h
 clear hG hr hl h o1 o2 o3 o4 ta tt hdp hT hT1 hT2 hT3 e9 l9 l3 l2 l1
 generalize bt (Pn.commaT Pn.declT x.params.l) = tc at *
 go_enter Tryz.func47, Tryz.ntmps47
 go_wp2_with fail
 go_region_with (first | (go_at_call 86; refine (CC.out _ (HD.out _)).mono ?_; rintro e w1 ⟨rfl, h1⟩; have HPS := hdn h1; have d0 := (HC.out _ _ _ h1).1; clear h1) | (go_at_call 83; refine (CB.out _ HPS.out).mono ?_; rintro e w2 ⟨rfl, h2⟩; have HP2 := hdn h2; clear h2))
 all_goals
  obtain ⟨_, _, r4, r5⟩ := HC.out _ _ _ HP2.out
  go_wp2_with (first | (go_at_call 44; refine (CD.out _ HP2.out).mono ?_; rintro e w3 ⟨rfl, h3⟩; have HP3 := hdn h3; have t5 := (HC.out _ _ _ h3).2.2.2; clear h3) | (go_at_call 34; refine (CS.out _ HP3.out).mono ?_; rintro e w4 ⟨rfl, h4⟩; have HP4 := hdn h4; clear h4) | (go_at_call 84; refine (CF.out _ HP4.out).mono ?_; rintro e w5 ⟨rfl, h5⟩; have HP5 := hdn h5; clear h5))
  go_end0
  exact ⟨rfl, HP5.out⟩
theorem eachPc_any (l : List Pc) (p : Option Addr) (c : Nat) (w0 : World) (B : Bx) (b : Nat) (T : List UInt8) (w : World) (hG : Gp w0) (h1 : Lay 6 Pc.cells pcLies w0 p l) (h : PrS w0 B b T 0 w) (ho : ∀ x ∈ l, Pn.okProc x = true) (hx : ∀ x ∈ l, x.params.l.length ≤ 8010 ∧ Pn.tight 8010 x.body ∧ Pn.dp x.body ≤ 20) (hT : T.length + (Pn.procsT l).length ≤ 100000000000) :
  Calls Tryz.prog 46 #[.slice p l.length c, .func (.func 47) #[.pointer (some ⟨b, 0, none⟩)] #[]] w fun e w' => e = .returned (.tuple #[]) ∧ PrS w0 B b (T ++ Pn.procsT l) 0 w' := by
 obtain ⟨hl, h1⟩ := h1
 have H1 := hdn h1; have HO := hdn ho; have HG := hdn hG; have HP0 := hdn h; have HT := hdn hT; have HX := hdn hx
 clear h1 ho hG h hT hx
 have hcl := enters47
 go_enter Tryz.func46, Tryz.ntmps46
 go_wp2_with fail
 go_loopw [7] (fun i wr => ∃ n : Nat, n ≤ l.length ∧ i = .int .i64 n ∧ Hid (PrS w0 B b (T ++ Pn.procsT (l.take n)) 0 wr)) (fun i _ => l.length - (intOf i).toNat)
 case atStart => exact ⟨0, Nat.zero_le _, rfl, hdn (by rw [List.take_zero, show Pn.procsT [] = [] from rfl, List.append_nil]; exact HP0.out)⟩
 case round =>
  obtain ⟨n, hn, rfl, HP⟩ := hrel
  by_cases hnl : n < l.length
  ·obtain ⟨b1, o1, rfl, hx⟩ : ∃ b o, p = some ⟨b, o, none⟩ ∧ ∀ k x, l[k]? = some x → w0.rangeAt b (o + k * 6) (Pc.cells x) ∧ pcLies w0 x := by
    rcases H1.out with h | h
    ·rw [h] at hnl; simp at hnl
    ·exact h
   have hxn := hx n l[n] (List.getElem?_eq_getElem hnl)
   have hok := HO.out l[n] (List.getElem_mem hnl)
   have e := Pn.take_snoc l n hnl
   have hbd := HX.out l[n] (List.getElem_mem hnl)
   have hlen := Pn.procs_part l (n + 1)
   rw [e, Pn.procsT_snoc, List.length_append] at hlen
   have HC : Hid (Calls Tryz.prog 47 #[.pointer (some ⟨b, 0, none⟩), .pointer (some ⟨b1, o1 + n * 6, none⟩)] wr fun en w' => en = .returned (.tuple #[]) ∧ PrS w0 B b (T ++ Pn.procsT (l.take (n + 1))) 0 w') := hdn (by
    refine (procX_any l[n] b1 (o1 + n * 6) w0 B b _ wr HG.out hxn.1 hxn.2 HP.out hok hbd.1 hbd.2.1 hbd.2.2 (by rw [List.length_append]; have := HT.out; omega)).mono fun en w' ⟨he, h1⟩ => ⟨he, h1.eq ?_⟩
    rw [e, Pn.procsT_snoc, List.append_assoc])
   clear hlen hbd
   have hn0 : (0 : Int) ≤ (n : Int) := Int.natCast_nonneg _
   have hn1 : (n : Int) < (l.length : Int) := by omega
   clear hx hxn hok e
   go_wp2_with fail
   refine HC.out.mono ?_; rintro en w1 ⟨rfl, h1⟩
   have HP1 := hdn h1
   clear h1
   go_wp2_with fail
   go_roundw
   case rel => exact ⟨n + 1, by omega, by go_num, HP1⟩
   case measure => simp [intOf]; omega
  ·obtain rfl : n = l.length := by omega
   have HF : Hid (PrS w0 B b (T ++ Pn.procsT l) 0 wr) := hdn (by have := HP.out; rwa [List.take_length] at this)
   have hc1 : ¬ ((l.length : Int) < (l.length : Int)) := by omega
   go_wp2_with fail
   go_end0
   exact ⟨rfl, HF.out⟩
/-- A program that may be is printed. -/
theorem programX_any (y : Pg) (w0 : World) (n b : Nat) (w : World) (hG : Gp w0) (hl : pgLies w0 y) (hP : Pb n b [] 0 w) (hw : Below w0.heap.size w0 w) (hn0 : w0.heap.size ≤ n) (hnw : n ≤ w.heap.size) (hb : w.heap.size = b + 1) (ho : Pn.right y = true) (ht : Pn.tightP 8010 y) :
  Calls Tryz.prog 17 #[.pointer (some ⟨b, 0, none⟩), .agg #[.slice y.structs.p y.structs.l.length y.structs.cap, .slice y.globals.p y.globals.l.length y.globals.cap, .slice y.procs.p y.procs.l.length y.procs.cap]] w fun e w' => e = .returned (.tuple #[]) ∧ Pb n b (Pn.progT y) 0 w' ∧ Below w0.heap.size w0 w' ∧ n ≤ w'.heap.size := by
 have hlen := Pn.prog_tlen ho ht
 have h2 := Pn.progT_eq y
 unfold Pn.right Pn.okProg at ho
 simp only [Bool.and_eq_true, List.all_eq_true, decide_eq_true_eq] at ho
 obtain ⟨⟨⟨⟨o1, o2⟩, o3⟩, o4⟩, o5⟩ := ho
 obtain ⟨⟨t1, t2⟩, t3, t4, t5⟩ := ht
 obtain ⟨cs, hcs⟩ : ∃ cs, cs = (#[.slice y.structs.p y.structs.l.length y.structs.cap, .slice y.globals.p y.globals.l.length y.globals.cap, .slice y.procs.p y.procs.l.length y.procs.cap] : Array Value) := ⟨_, rfl⟩
 obtain ⟨wA, hwA⟩ : ∃ wA : World, wA = w.alloc (.cells cs 26) := ⟨_, rfl⟩
 have HBA : Hid (Below w.heap.size w wA) := hdn (by rw [hwA]; exact (Below.refl _ _).alloc (Nat.le_refl _) _)
 have HKA : Hid (Bk wA w.heap.size 26 cs) := hdn (by rw [hwA]; exact heap_alloc_new _ _)
 have HPA : Hid (PrS w0 ⟨n, cs⟩ b [] 0 wA) := hdn ⟨hP.below HBA.out, hw.trans (HBA.out.mono hw.size), hn0, Nat.le_trans hnw HBA.out.size, by rw [← hb]; exact HKA.out⟩
 obtain ⟨T1, hT1⟩ : ∃ T1, T1 = Pn.structsT y.structs.l [] := ⟨_, rfl⟩
 obtain ⟨T2, hT2⟩ : ∃ T2, T2 = T1 ++ Pn.fieldsT 0 y.globals.l [] := ⟨_, rfl⟩
 have e3 : T2 ++ Pn.procsT y.procs.l = Pn.progT y := by rw [h2, hT2, hT1, List.append_assoc]
 have l3 : T2.length + (Pn.procsT y.procs.l).length = (Pn.progT y).length := by rw [← e3, List.length_append]
 have l2 : T1.length + (Pn.fieldsT 0 y.globals.l []).length = T2.length := by rw [hT2, List.length_append]
 have CS : Hid (Calls Tryz.prog 42 #[.slice y.structs.p y.structs.l.length y.structs.cap, .func (.func 43) #[.pointer (some ⟨b, 0, none⟩)] #[]] wA fun e w' => e = .returned (.tuple #[]) ∧ PrS w0 ⟨n, cs⟩ b T1 0 w') := hdn (by
  have := eachSr_any y.structs.l y.structs.p y.structs.cap w0 ⟨n, cs⟩ b [] wA hG (Lay.of_sl (R := fun w (x : Sr) => declsLie w x.fields) hl.1 (by decide)) HPA.out o1 (by rw [List.length_nil, ← hT1]; omega)
  rwa [List.nil_append, ← hT1] at this)
 have CD : Hid (∀ w', PrS w0 ⟨n, cs⟩ b T1 0 w' → Calls Tryz.prog 44 #[.slice y.globals.p y.globals.l.length y.globals.cap, .func (.func 45) #[.pointer (some ⟨b, 0, none⟩)] #[]] w' fun e w'' => e = .returned (.tuple #[]) ∧ PrS w0 ⟨n, cs⟩ b T2 0 w'') := hdn (fun w' h' => by
  rw [hT2]
  exact eachDc_any y.globals.l y.globals.p y.globals.cap w0 ⟨n, cs⟩ b T1 0 w' hG (Lay.of_sl (R := triv) hl.2.1 (by decide)) h' o2 (by decide) (by omega))
 have CP : Hid (∀ w', PrS w0 ⟨n, cs⟩ b T2 0 w' → Calls Tryz.prog 46 #[.slice y.procs.p y.procs.l.length y.procs.cap, .func (.func 47) #[.pointer (some ⟨b, 0, none⟩)] #[]] w' fun e w'' => e = .returned (.tuple #[]) ∧ PrS w0 ⟨n, cs⟩ b (Pn.progT y) 0 w'') := hdn (fun w' h' => by
  rw [← e3]
  exact eachPc_any y.procs.l y.procs.p y.procs.cap w0 ⟨n, cs⟩ b T2 w' hG (Lay.of_sl (R := pcLies) hl.2.2 (by decide)) h' o3 (fun x hx => ⟨(t5 x hx).1, (t5 x hx).2.2, o4 x hx⟩) (by omega))
 have HCC : Hid (∀ w' T', PrS w0 ⟨n, cs⟩ b T' 0 w' → w'.cell? ⟨w.heap.size, 0, none⟩ = some (.slice y.structs.p y.structs.l.length y.structs.cap) ∧ w'.cell? ⟨w.heap.size, 1, none⟩ = some (.slice y.globals.p y.globals.l.length y.globals.cap) ∧ w'.cell? ⟨w.heap.size, 2, none⟩ = some (.slice y.procs.p y.procs.l.length y.procs.cap)) := hdn (fun w' T' h' => by
  have hk := h'.2.2.2.2
  rw [← hb, hcs] at hk
  exact ⟨hk.cell 0, hk.cell 1, hk.cell 2⟩)
 obtain ⟨c0, _, _⟩ := HCC.out _ _ HPA.out
 clear hG hl hP hw hn0 hnw hlen h2 o1 o2 o3 o4 o5 t1 t2 t3 t4 t5 hT1 hT2 e3 l3 l2 hb
 rw [← hcs]
 have HCS := hdn hcs
 clear hcs
 go_enter Tryz.func17, Tryz.ntmps17
 go_upto_region 1 with fail
 rw [← hwA]
 clear hwA
 obtain ⟨A, hA⟩ : ∃ A, A = w.heap.size := ⟨_, rfl⟩
 rw [← hA] at c0 HCC ⊢
 clear hA
 go_wp2_with (first | (go_at_call 42; refine CS.out.mono ?_; rintro e w1 ⟨rfl, h1⟩; have HP1 := hdn h1; have c1 := (HCC.out _ _ h1).2.1; clear h1) | (go_at_call 44; refine (CD.out _ HP1.out).mono ?_; rintro e w2 ⟨rfl, h2⟩; have HP2 := hdn h2; have c2 := (HCC.out _ _ h2).2.2; clear h2) | (go_at_call 46; refine (CP.out _ HP2.out).mono ?_; rintro e w3 ⟨rfl, h3⟩; have HP3 := hdn h3; clear h3))
 go_end0
 exact ⟨rfl, HP3.out.1, HP3.out.2.1, HP3.out.2.2.2.1⟩
end Go.Proofs.YtdlchhimkelinaaGreatDoor
namespace Go.Proofs.YtdlchhimkelinaaGreatDoor
namespace Pn
open Pr (th St Res th_ok)
/-- What a sign costs: its bytes and one more. -/
def cK (k : K) : Nat := k.2.1.length + 1
def cs : List K → Nat
 | [] => 0
 | k :: l => cK k + cs l
theorem cs_app : ∀ a b : List K, cs (a ++ b) = cs a + cs b
 | [], b => by simp [cs]
 | k :: a, b => by simp only [List.cons_append, cs, cs_app a b]; omega
theorem cK_mk (a : List UInt8) : cK (mk a) = a.length + 1 := rfl
theorem cK_ky (a : List UInt8) : cK (ky a) = a.length + 1 := rfl
theorem cK_nm (x : ByteArray) : cK (nm x) = x.size + 1 := by show (txt x).length + 1 = _; rw [show (txt x).length = x.size from Tx.len_eq x]
/-- How much stands ahead of sign i. -/
def wt (t : List Pr.Tk) : Nat → Nat
 | 0 => 0
 | n + 1 => wt t n + 10 * (Pr.sg t n).text.size
/-- All numbers among the signs have a text. -/
def Gz (t : List Pr.Tk) : Prop := ∀ i, (Pr.sg t i).kind = 2 → 1 ≤ (Pr.sg t i).text.size
theorem size_is {t : List Pr.Tk} {i : Nat} {s : ByteArray} (h : Pr.is t i s = true) : (Pr.sg t i).text.size = s.size := by
 unfold Pr.is at h
 rw [Lib.toList_data, Lib.toList_data, beq_iff_eq] at h
 rw [← Tx.len_eq, h, Tx.len_eq]
theorem digits_le {n : Int} (h : okNum n = true) : (Tx.digits n.toNat).length ≤ 9 := digits_len 8 n.toNat (by have := (okNum_nat h).2; omega)
section
variable {t : List Pr.Tk}
theorem go_wt (u : St) : wt t u.go.i = wt t u.i + 10 * (Pr.sg t u.i).text.size := rfl
theorem must_wt {s : ByteArray} {u v : St} {x : Pr.Tk} (h : Pr.must t s u = .ok (x, v)) : wt t v.i = wt t u.i + 10 * s.size := by
 obtain ⟨h1, rfl⟩ := Pr.must_is h
 rw [go_wt, size_is h1]
theorem name_wt (g : Gt t) {u v : St} {x : Pr.Tk} (h : Pr.name t u = .ok (x, v)) : x.text.size + 1 + wt t u.i + 2 ≤ wt t v.i ∧ v.i = u.i + 1 := by
 have hn := (name_gt g h)
 unfold Pr.name at h
 split at h
 ·injection h with h; injection h with h h2; subst h; subst h2
  have h1 : 1 ≤ (Pr.sg t u.i).text.size := by
   have hne : ¬ txt (Pr.sg t u.i).text = [] := fun e => okN_ne hn (.inr (fun b l e => by cases e)) e
   have h2 : (txt (Pr.sg t u.i).text).length = (Pr.sg t u.i).text.size := Tx.len_eq _
   cases hq : txt (Pr.sg t u.i).text with
   | nil => exact absurd hq hne
   | cons a l => rw [hq] at h2; simp at h2; omega
  rw [go_wt]; exact ⟨by omega, rfl⟩
 ·cases h
theorem hopsK_snoc : ∀ (l : List Hp) (h : Hp), hopsK (l ++ [h]) = hopsK l ++ [mk [45, 62], nm h.name]
 | [], h => rfl
 | x :: l, h => by simp only [List.cons_append, hopsK, hopsK_snoc l h, List.append_assoc]
theorem hops_wt (g : Gt t) : ∀ (n : Nat) (acc : List Hp) (u : St) {l : List Hp} {v : St}, Pr.hops t n acc u = .ok (l, v) → cs (hopsK l) + wt t u.i ≤ wt t v.i + cs (hopsK acc)
 | 0, acc, u, l, v, h => by
  unfold Pr.hops at h
  split at h
  ·cases h
  ·injection h with h; injection h with h h2; subst h; subst h2; omega
 | n + 1, acc, u, l, v, h => by
  unfold Pr.hops at h
  split at h
  ·rename_i hi
   obtain ⟨x, w, h1, h2⟩ := th_ok h
   have := hops_wt g n _ w h2
   have hs := size_is hi
   have h3 := (name_wt g h1).1
   rw [go_wt, hs, show (⟨#[45, 62]⟩ : ByteArray).size = 2 from rfl] at h3
   rw [hopsK_snoc, cs_app] at this
   simp only [cs, cK_mk, cK_nm, List.length_cons, List.length_nil] at this
   omega
  ·injection h with h; injection h with h h2; subst h; subst h2; omega
theorem path_wt (g : Gt t) {u v : St} {x : Pth} (h : Pr.path t u = .ok (x, v)) : cs (pathK x) + wt t u.i + 2 ≤ wt t v.i := by
 obtain ⟨a, u1, h1, h⟩ := th_ok h
 obtain ⟨b, u2, h2, h⟩ := th_ok h
 injection h with h; injection h with h hv; subst h; subst hv
 have k1 := (name_wt g h1).1
 have k2 := hops_wt g _ _ _ h2
 show cs ([nm a.text] ++ hopsK b) + _ + 2 ≤ _
 rw [cs_app]
 simp only [cs, cK_nm, hopsK] at k2 ⊢
 omega
theorem term_wt (g : Gt t) (z : Gz t) {u v : St} {x : Tm} (h : Pr.term t u = .ok (x, v)) : cs (termK x) + wt t u.i ≤ wt t v.i ∧ v.i = u.i + 1 := by
 unfold Pr.term at h
 split at h
 ·rename_i hk
  injection h with h; injection h with h hv; subst h; subst hv
  have h1 := digits_le ((g u.i).2 hk)
  have h2 := z u.i hk
  refine ⟨?_, rfl⟩
  rw [go_wt]
  show cs [dg (Pr.sg t u.i).num] + _ ≤ _
  simp only [cs]
  show (Tx.digits (Pr.sg t u.i).num.toNat).length + 1 + 0 + _ ≤ _
  omega
 ·obtain ⟨a, u1, h1, h⟩ := th_ok h
  injection h with h; injection h with h hv; subst h; subst hv
  have k1 := name_wt g h1
  have hn := name_gt g h1
  refine ⟨?_, k1.2⟩
  unfold termK
  rw [if_neg (fun e => okN_ne hn (.inr (fun b l e => by cases e)) e)]
  simp only [cs, cK_nm]
  omega
theorem side_wt (g : Gt t) (z : Gz t) {u v : St} {x : Vl} (h : Pr.side t u = .ok (x, v)) : cs (valK x) + wt t u.i ≤ wt t v.i := by
 unfold Pr.side at h
 split at h
 ·rename_i hi
  injection h with h; injection h with h hv; subst h; subst hv
  rw [go_wt, size_is hi]
  show 5 + 0 + _ ≤ _ + 10 * 4
  omega
 ·split at h
  ·rename_i hk
   obtain ⟨a, u1, h1, h⟩ := th_ok h
   injection h with h; injection h with h hv; subst h; subst hv
   unfold Pr.term at h1
   rw [if_pos hk] at h1
   injection h1 with h1; injection h1 with h1 hv; subst h1; subst hv
   have h1 := digits_le ((g u.i).2 hk)
   have h2 := z u.i hk
   rw [go_wt]
   show cs [dg (Pr.sg t u.i).num] + _ ≤ _
   simp only [cs]
   show (Tx.digits (Pr.sg t u.i).num.toNat).length + 1 + 0 + _ ≤ _
   omega
  ·obtain ⟨a, u1, h1, h⟩ := th_ok h
   injection h with h; injection h with h hv; subst h; subst hv
   have := path_wt g h1
   show cs (pathK a) + _ ≤ _
   omega
theorem value_wt (g : Gt t) (z : Gz t) {u v : St} {x : Vl} (h : Pr.value t u = .ok (x, v)) : cs (valK x) + wt t u.i ≤ wt t v.i := by
 unfold Pr.value at h
 split at h
 ·rename_i hi
  obtain ⟨a, u1, h1, h⟩ := th_ok h
  injection h with h; injection h with h hv; subst h; subst hv
  have k1 := (name_wt g h1).1
  rw [go_wt, size_is hi, show (⟨#[110, 101, 119]⟩ : ByteArray).size = 3 from rfl] at k1
  show cs [ky tNew, nm a.text] + _ ≤ _
  simp only [cs, cK_nm, cK_ky, tNew, List.length_cons, List.length_nil]
  omega
 ·split at h
  ·rename_i hi
   injection h with h; injection h with h hv; subst h; subst hv
   rw [go_wt, size_is hi]
   show 6 + 0 + _ ≤ _ + 10 * 5
   omega
  ·split at h
   ·rename_i hs
    obtain ⟨a, u1, h1, h⟩ := th_ok h
    obtain ⟨b, u2, h2, h⟩ := th_ok h
    injection h with h; injection h with h hv; subst h; subst hv
    have k1 := term_wt g z h1
    have k2 := (term_wt g z h2).1
    have hz : (Pr.sg t u1.i).text.size = 1 := by
     unfold Pr.sums at hs
     simp only [Bool.and_eq_true, Bool.or_eq_true] at hs
     rw [k1.2]
     rcases hs.2 with h | h
     ·exact size_is h
     ·exact size_is h
    rw [go_wt, hz] at k2
    have hc : cs (valK { Pr.noVl with kind := if Pr.is t u1.i ⟨#[45]⟩ then 6 else 5, left := a, right := b }) = cs (termK a) + 2 + cs (termK b) := by
     by_cases hq : Pr.is t u1.i ⟨#[45]⟩ = true
     ·rw [if_pos hq]
      show cs (termK a ++ [mk [45]] ++ termK b) = _
      rw [cs_app, cs_app]; rfl
     ·rw [if_neg hq]
      show cs (termK a ++ [mk [43]] ++ termK b) = _
      rw [cs_app, cs_app]; rfl
    rw [hc]
    omega
   ·exact side_wt g z h
theorem relation_wt {u v : St} {k : Int} (h : Pr.relation t u = .ok (k, v)) : (relT k).length + 1 + wt t u.i ≤ wt t v.i := by
 unfold Pr.relation at h
 split at h
 ·rename_i hi
  injection h with h; injection h with h hv; subst h; subst hv
  rw [go_wt, size_is hi]
  show 2 + 1 + _ ≤ _ + 10 * 2
  omega
 ·split at h
  ·rename_i hi
   injection h with h; injection h with h hv; subst h; subst hv
   rw [go_wt, size_is hi]
   show 2 + 1 + _ ≤ _ + 10 * 2
   omega
  ·split at h
   ·rename_i hi
    injection h with h; injection h with h hv; subst h; subst hv
    rw [go_wt, size_is hi]
    show 1 + 1 + _ ≤ _ + 10 * 1
    omega
   ·obtain ⟨a, u1, h1, h⟩ := th_ok h
    injection h with h; injection h with h hv; subst h; subst hv
    rw [must_wt h1]
    show 2 + 1 + _ ≤ _ + 10 * 2
    omega
theorem cond_wt (g : Gt t) (z : Gz t) {u v : St} {x : Cd} (h : Pr.cond t u = .ok (x, v)) : cs (condK x) + wt t u.i ≤ wt t v.i := by
 unfold Pr.cond at h
 split at h
 ·rename_i hi
  injection h with h; injection h with h hv; subst h; subst hv
  rw [go_wt, size_is hi]
  show 2 + 0 + _ ≤ _ + 10 * 1
  omega
 ·obtain ⟨a, u1, h1, h⟩ := th_ok h
  obtain ⟨b, u2, h2, h⟩ := th_ok h
  obtain ⟨c, u3, h3, h⟩ := th_ok h
  injection h with h; injection h with h hv; subst h; subst hv
  have hr := relation_gt h2
  have k1 := side_wt g z h1
  have k2 := relation_wt h2
  have k3 := side_wt g z h3
  unfold condK
  rw [if_neg (by show ¬ b = 0; omega)]
  show cs (valK a ++ [mk (relT b)] ++ valK c) + _ ≤ _
  rw [cs_app, cs_app]
  simp only [cs, cK_mk]
  omega
theorem held_wt (g : Gt t) (z : Gz t) {u v : St} {x : Cd} (h : Pr.held t u = .ok (x, v)) : cs (condK x) + 4 + wt t u.i ≤ wt t v.i := by
 obtain ⟨a, u1, h1, h⟩ := th_ok h
 obtain ⟨b, u2, h2, h⟩ := th_ok h
 obtain ⟨c, u3, h3, h⟩ := th_ok h
 injection h with h; injection h with h hv; subst h; subst hv
 have k1 := must_wt h1
 have k2 := cond_wt g z h2
 have k3 := must_wt h3
 rw [show (⟨#[40]⟩ : ByteArray).size = 1 from rfl] at k1
 rw [show (⟨#[41]⟩ : ByteArray).size = 1 from rfl] at k3
 omega
/-- What items cost, each with a comma. -/
def cl {α : Type} (f : α → List K) : List α → Nat
 | [] => 0
 | a :: l => cs (f a) + 2 + cl f l
theorem cl_snoc {α : Type} (f : α → List K) : ∀ (l : List α) (a : α), cl f (l ++ [a]) = cl f l + (cs (f a) + 2)
 | [], a => by simp [cl]
 | x :: l, a => by simp only [List.cons_append, cl, cl_snoc f l a]; omega
theorem comma_cl {α : Type} (f : α → List K) : ∀ l : List α, cs (commaK f l) ≤ cl f l
 | [] => Nat.le_refl _
 | [a] => by simp only [commaK, cl]; omega
 | a :: b :: l => by
  have := comma_cl f (b :: l)
  simp only [commaK, cl] at this ⊢
  rw [cs_app]
  simp only [cs, cK_mk, List.length_cons, List.length_nil]
  omega
theorem more_wt {α : Type} {f : α → List K} {item : St → Res α} (hi : ∀ u x v, item u = .ok (x, v) → cs (f x) + wt t u.i ≤ wt t v.i) : ∀ (n : Nat) (acc : List α) (u : St) {l : List α} {v : St}, Pr.more t item n acc u = .ok (l, v) → cl f l + 10 + wt t u.i ≤ wt t v.i + cl f acc
 | 0, acc, u, l, v, h => by cases h
 | n + 1, acc, u, l, v, h => by
  unfold Pr.more at h
  split at h
  ·rename_i hc
   obtain ⟨x, w, h1, h2⟩ := th_ok h
   have := more_wt hi n _ w h2
   have k1 := hi _ _ _ h1
   rw [go_wt, size_is hc, show (⟨#[44]⟩ : ByteArray).size = 1 from rfl] at k1
   rw [cl_snoc] at this
   omega
  ·obtain ⟨a, u1, h1, h⟩ := th_ok h
   injection h with h; injection h with h hv; subst h; subst hv
   have := must_wt h1
   rw [show (⟨#[41]⟩ : ByteArray).size = 1 from rfl] at this
   omega
theorem listed_wt {α : Type} {f : α → List K} {item : St → Res α} (hi : ∀ u x v, item u = .ok (x, v) → cs (f x) + wt t u.i ≤ wt t v.i) {u v : St} {l : List α} (h : Pr.listed t item u = .ok (l, v)) : cs (commaK f l) + 4 + wt t u.i ≤ wt t v.i := by
 obtain ⟨a, u1, h1, h⟩ := th_ok h
 have k1 := must_wt h1
 rw [show (⟨#[40]⟩ : ByteArray).size = 1 from rfl] at k1
 split at h
 ·injection h with h; injection h with h hv; subst h; subst hv
  show 0 + 4 + _ ≤ _
  rw [go_wt]; omega
 ·obtain ⟨b, u2, h2, h⟩ := th_ok h
  have k2 := hi _ _ _ h2
  have k3 := more_wt hi _ _ _ h
  have := comma_cl f l
  simp only [cl] at k3
  omega
theorem pointer_wt (g : Gt t) {u v : St} {x : Dc} (h : Pr.pointer t u = .ok (x, v)) : cs (declK x) + wt t u.i ≤ wt t v.i := by
 obtain ⟨a, u1, h1, h⟩ := th_ok h
 obtain ⟨b, u2, h2, h⟩ := th_ok h
 obtain ⟨c, u3, h3, h⟩ := th_ok h
 injection h with h; injection h with h hv; subst h; subst hv
 have ha := name_gt g h1
 have hn : ¬ txt a.text = [] := fun e => okN_ne ha (.inr (fun b l e => by cases e)) e
 have k1 := (name_wt g h1).1
 have k2 := must_wt h2
 have k3 := (name_wt g h3).1
 rw [show (⟨#[42]⟩ : ByteArray).size = 1 from rfl] at k2
 unfold declK
 rw [if_neg hn]
 simp only [cs, cK_mk, cK_nm, List.length_cons, List.length_nil]
 omega
theorem variable_wt (g : Gt t) {u v : St} {x : Dc} (h : Pr.variable_ t u = .ok (x, v)) : cs (declK x) + wt t u.i ≤ wt t v.i := by
 unfold Pr.variable_ at h
 split at h
 ·rename_i hi
  obtain ⟨a, u1, h1, h⟩ := th_ok h
  injection h with h; injection h with h hv; subst h; subst hv
  have k1 := (name_wt g h1).1
  rw [go_wt, size_is hi, show (⟨#[105, 110, 116]⟩ : ByteArray).size = 3 from rfl] at k1
  show cs [ky tInt, nm a.text] + _ ≤ _
  simp only [cs, cK_nm, cK_ky, tInt, List.length_cons, List.length_nil]
  omega
 ·exact pointer_wt g h
theorem decl_wt (g : Gt t) {u v : St} {x : Dc} (h : Pr.decl t u = .ok (x, v)) : cs (declK x) + 2 + wt t u.i ≤ wt t v.i := by
 obtain ⟨a, u1, h1, h⟩ := th_ok h
 obtain ⟨b, u2, h2, h⟩ := th_ok h
 injection h with h; injection h with h hv; subst h; subst hv
 have k1 := variable_wt g h1
 have k2 := must_wt h2
 rw [show (⟨#[59]⟩ : ByteArray).size = 1 from rfl] at k2
 omega
theorem block_wt {rec : St → Res SL} (hr : ∀ u l v, rec u = .ok (l, v) → cs (linesK l) + wt t u.i ≤ wt t v.i) {u v : St} {l : SL} (h : Pr.block t rec u = .ok (l, v)) : cs (linesK l) + 4 + wt t u.i ≤ wt t v.i := by
 obtain ⟨a, u1, h1, h⟩ := th_ok h
 obtain ⟨b, u2, h2, h⟩ := th_ok h
 obtain ⟨c, u3, h3, h⟩ := th_ok h
 obtain ⟨d, u4, h4, h⟩ := th_ok h
 injection h with h; injection h with hl h; subst h; subst hl
 obtain ⟨rfl, _⟩ := Pr.mustHold_ok h1
 have k2 := must_wt h2
 have k3 := hr _ _ _ h3
 have k4 := must_wt h4
 rw [show (⟨#[123]⟩ : ByteArray).size = 1 from rfl] at k2
 rw [show (⟨#[125]⟩ : ByteArray).size = 1 from rfl] at k4
 show _ ≤ wt t u4.i
 have k3' : cs (linesK c) + wt t u2.i ≤ wt t u3.i := k3
 omega
theorem free_wt (g : Gt t) {u v : St} {x : Hd} (h : Pr.free t u = .ok (x, v)) : cs (stK x [] [] []) + wt t u.i ≤ wt t v.i ∧ x.kind = 2 := by
 obtain ⟨a, u1, h1, h⟩ := th_ok h
 obtain ⟨b, u2, h2, h⟩ := th_ok h
 obtain ⟨c, u3, h3, h⟩ := th_ok h
 obtain ⟨d, u4, h4, h⟩ := th_ok h
 obtain ⟨e, u5, h5, h⟩ := th_ok h
 injection h with h; injection h with h hv; subst h; subst hv
 have k1 := must_wt h1; have k2 := must_wt h2; have k3 := path_wt g h3; have k4 := must_wt h4; have k5 := must_wt h5
 rw [show (⟨#[102, 114, 101, 101]⟩ : ByteArray).size = 4 from rfl] at k1
 rw [show (⟨#[40]⟩ : ByteArray).size = 1 from rfl] at k2
 rw [show (⟨#[41]⟩ : ByteArray).size = 1 from rfl] at k4
 rw [show (⟨#[59]⟩ : ByteArray).size = 1 from rfl] at k5
 refine ⟨?_, rfl⟩
 show cs (ky tFree :: mk [40] :: (pathK c ++ mk [41] :: mk [59] :: [])) + _ ≤ _
 simp only [cs, cs_app, cK_mk, cK_ky, tFree, List.length_cons, List.length_nil]
 omega
theorem named_wt (g : Gt t) (z : Gz t) {u v : St} {x : Hd} (h : Pr.named t u = .ok (x, v)) : cs (stK x [] [] []) + wt t u.i ≤ wt t v.i ∧ (x.kind = 1 ∨ x.kind = 3) := by
 unfold Pr.named at h
 split at h
 ·obtain ⟨a, u1, h1, h⟩ := th_ok h
  obtain ⟨b, u2, h2, h⟩ := th_ok h
  obtain ⟨c, u3, h3, h⟩ := th_ok h
  injection h with h; injection h with h hv; subst h; subst hv
  have k1 := (name_wt g h1).1
  have k2 := listed_wt (f := valK) (fun _ _ _ h => side_wt g z h) h2
  have k3 := must_wt h3
  rw [show (⟨#[59]⟩ : ByteArray).size = 1 from rfl] at k3
  refine ⟨?_, .inr rfl⟩
  show cs (nm a.text :: mk [40] :: (commaK valK b ++ mk [41] :: mk [59] :: [])) + _ ≤ _
  simp only [cs, cs_app, cK_mk, cK_nm, List.length_cons, List.length_nil]
  omega
 ·obtain ⟨a, u1, h1, h⟩ := th_ok h
  obtain ⟨b, u2, h2, h⟩ := th_ok h
  obtain ⟨c, u3, h3, h⟩ := th_ok h
  obtain ⟨d, u4, h4, h⟩ := th_ok h
  injection h with h; injection h with h hv; subst h; subst hv
  have k1 := path_wt g h1; have k2 := must_wt h2; have k3 := value_wt g z h3; have k4 := must_wt h4
  rw [show (⟨#[61]⟩ : ByteArray).size = 1 from rfl] at k2
  rw [show (⟨#[59]⟩ : ByteArray).size = 1 from rfl] at k4
  refine ⟨?_, .inl rfl⟩
  show cs (pathK a ++ mk [61] :: (valK c ++ mk [59] :: [])) + _ ≤ _
  simp only [cs, cs_app, cK_mk, List.length_cons, List.length_nil]
  omega
/-- A statement's signs and what is behind them. -/
theorem cs_stK (h : Hd) (a e k : List K) : cs (stK h a e k) = cs (stK h a e []) + cs k := by
 rw [← List.nil_append k, ← stK_app, cs_app, List.nil_append]
theorem stmt_wt (g : Gt t) (z : Gz t) {rec : St → Res SL} (hr : ∀ u l v, rec u = .ok (l, v) → cs (linesK l) + wt t u.i ≤ wt t v.i) {u v : St} {h : Hd} {T E : SL} (hs : Pr.stmt t rec u = .ok ((h, T, E), v)) :
  cs (stK h (linesK T) (linesK E) []) + wt t u.i ≤ wt t v.i := by
 obtain ⟨a, u1, h1, hs⟩ := th_ok hs
 obtain ⟨rfl, _⟩ := Pr.count_ok h1
 split at hs
 ·rename_i hi
  injection hs with hs; injection hs with hx hv; subst hv
  simp only [Prod.mk.injEq] at hx
  obtain ⟨rfl, rfl, rfl⟩ := hx
  rw [go_wt]
  show cs [mk [59]] + wt t u.i ≤ wt t u.i + 10 * (Pr.sg t u.i).text.size
  rw [size_is hi]
  show 2 + 0 + wt t u.i ≤ wt t u.i + 10 * 1
  omega
 ·split at hs
  ·obtain ⟨b, u2, h2, hs⟩ := th_ok hs
   injection hs with hs; injection hs with hx hv; subst hv
   simp only [Prod.mk.injEq] at hx
   obtain ⟨rfl, rfl, rfl⟩ := hx
   have k := block_wt hr h2
   show cs (mk [123] :: (linesK b ++ mk [125] :: [])) + wt t u.i ≤ _
   simp only [cs, cs_app, cK_mk, List.length_cons, List.length_nil]
   have k' : cs (linesK b) + 4 + wt t u.i ≤ wt t u2.i := k
   omega
  ·split at hs
   ·obtain ⟨b, u2, h2, hs⟩ := th_ok hs
    injection hs with hs; injection hs with hx hv; subst hv
    simp only [Prod.mk.injEq] at hx
    obtain ⟨rfl, rfl, rfl⟩ := hx
    exact (free_wt g h2).1
   ·split at hs
    ·obtain ⟨b, u2, h2, hs⟩ := th_ok hs
     obtain ⟨c, u3, h3, hs⟩ := th_ok hs
     obtain ⟨d, u4, h4, hs⟩ := th_ok hs
     have k2 := must_wt h2
     have k3 := held_wt g z h3
     have k4 := block_wt hr h4
     rw [show (⟨#[105, 102]⟩ : ByteArray).size = 2 from rfl] at k2
     have k2' : wt t u2.i = wt t u.i + 20 := k2
     split at hs
     ·rename_i hi
      obtain ⟨e, u5, h5, hs⟩ := th_ok hs
      injection hs with hs; injection hs with hx hv; subst hv
      simp only [Prod.mk.injEq] at hx
      obtain ⟨rfl, rfl, rfl⟩ := hx
      have k5 := block_wt hr h5
      rw [go_wt, size_is hi, show (⟨#[101, 108, 115, 101]⟩ : ByteArray).size = 4 from rfl] at k5
      show cs (ky tIf :: mk [40] :: (condK c ++ mk [41] :: mk [123] :: (linesK d ++ mk [125] :: (ky tElse :: mk [123] :: (linesK e ++ mk [125] :: []))))) + wt t u.i ≤ _
      simp only [cs, cs_app, cK_mk, cK_ky, tIf, tElse, List.length_cons, List.length_nil]
      omega
     ·injection hs with hs; injection hs with hx hv; subst hv
      simp only [Prod.mk.injEq] at hx
      obtain ⟨rfl, rfl, rfl⟩ := hx
      show cs (ky tIf :: mk [40] :: (condK c ++ mk [41] :: mk [123] :: (linesK d ++ mk [125] :: []))) + wt t u.i ≤ _
      simp only [cs, cs_app, cK_mk, cK_ky, tIf, List.length_cons, List.length_nil]
      omega
    ·split at hs
     ·obtain ⟨b, u2, h2, hs⟩ := th_ok hs
      obtain ⟨c, u3, h3, hs⟩ := th_ok hs
      obtain ⟨d, u4, h4, hs⟩ := th_ok hs
      have k2 := must_wt h2
      have k3 := held_wt g z h3
      have k4 := block_wt hr h4
      rw [show (⟨#[119, 104, 105, 108, 101]⟩ : ByteArray).size = 5 from rfl] at k2
      have k2' : wt t u2.i = wt t u.i + 50 := k2
      injection hs with hs; injection hs with hx hv; subst hv
      simp only [Prod.mk.injEq] at hx
      obtain ⟨rfl, rfl, rfl⟩ := hx
      show cs (ky tWhile :: mk [40] :: (condK c ++ mk [41] :: mk [123] :: (linesK d ++ mk [125] :: []))) + wt t u.i ≤ _
      simp only [cs, cs_app, cK_mk, cK_ky, tWhile, List.length_cons, List.length_nil]
      omega
     ·obtain ⟨b, u2, h2, hs⟩ := th_ok hs
      injection hs with hs; injection hs with hx hv; subst hv
      simp only [Prod.mk.injEq] at hx
      obtain ⟨rfl, rfl, rfl⟩ := hx
      exact (named_wt g z h2).1
theorem stmts_wt (g : Gt t) (z : Gz t) : ∀ (n : Nat) (u : St) (l : SL) (v : St), Pr.stmts t n u = .ok (l, v) → cs (linesK l) + wt t u.i ≤ wt t v.i
 | 0, u, l, v, h => by cases h
 | n + 1, u, l, v, h => by
  unfold Pr.stmts at h
  split at h
  ·obtain ⟨⟨hh, a, e⟩, u1, h1, h⟩ := th_ok h
   obtain ⟨r, u2, h2, h⟩ := th_ok h
   injection h with h; injection h with hl h; subst h; subst hl
   have k1 := stmt_wt g z (fun u l v h => stmts_wt g z n u l v h) h1
   have k2 := stmts_wt g z n _ _ _ h2
   show cs (stK hh (linesK a) (linesK e) (linesK r)) + _ ≤ _
   rw [cs_stK]
   omega
  ·injection h with h; injection h with hl h; subst h; subst hl
   show 0 + _ ≤ _
   omega
theorem fieldsK_snoc : ∀ (l : List Dc) (d : Dc) (k : List K), fieldsK (l ++ [d]) k = fieldsK l (declK d ++ mk [59] :: k)
 | [], d, k => rfl
 | x :: l, d, k => by simp only [List.cons_append, fieldsK, fieldsK_snoc l d k]
theorem cs_fields (l : List Dc) (k : List K) : cs (fieldsK l k) = cs (fieldsK l []) + cs k := by
 rw [← List.nil_append k, ← fieldsK_app, cs_app, List.nil_append]
theorem cs_fields_snoc (l : List Dc) (d : Dc) : cs (fieldsK (l ++ [d]) []) = cs (fieldsK l []) + (cs (declK d) + 2) := by
 rw [fieldsK_snoc, cs_fields, cs_app]; rfl
theorem fields_wt (g : Gt t) : ∀ (n : Nat) (acc : List Dc) (u : St) {l : List Dc} {v : St}, Pr.fields t n acc u = .ok (l, v) → cs (fieldsK l []) + 2 + wt t u.i ≤ wt t v.i + cs (fieldsK acc [])
 | 0, acc, u, l, v, h => by cases h
 | n + 1, acc, u, l, v, h => by
  unfold Pr.fields at h
  split at h
  ·rename_i hi
   injection h with h; injection h with hl h; subst h; subst hl
   rw [go_wt, size_is hi, show (⟨#[125]⟩ : ByteArray).size = 1 from rfl]; omega
  ·obtain ⟨x, u1, h1, h⟩ := th_ok h
   obtain ⟨y, u2, h2, h⟩ := th_ok h
   have k := fields_wt g n _ u2 h
   have k1 := pointer_wt g h1
   have k2 := must_wt h2
   rw [show (⟨#[59]⟩ : ByteArray).size = 1 from rfl] at k2
   rw [cs_fields_snoc] at k
   omega
theorem locals_wt (g : Gt t) : ∀ (n : Nat) (acc : List Dc) (u : St) {l : List Dc} {v : St}, Pr.locals t n acc u = .ok (l, v) → cs (fieldsK l []) + wt t u.i ≤ wt t v.i + cs (fieldsK acc [])
 | 0, acc, u, l, v, h => by cases h
 | n + 1, acc, u, l, v, h => by
  unfold Pr.locals at h
  split at h
  ·obtain ⟨x, u1, h1, h⟩ := th_ok h
   have k := locals_wt g n _ u1 h
   have k1 := decl_wt g h1
   rw [cs_fields_snoc] at k
   omega
  ·injection h with h; injection h with hl h; subst h; subst hl; omega
theorem cs_structs : ∀ (l : List Sr) (k : List K), cs (structsK l k) = cs (structsK l []) + cs k := fun l k => by
 rw [← List.nil_append k, ← structsK_app, cs_app, List.nil_append]
theorem structsK_snoc : ∀ (l : List Sr) (x : Sr) (k : List K), structsK (l ++ [x]) k = structsK l (structsK [x] k)
 | [], x, k => rfl
 | y :: l, x, k => by
  show ky tStruct :: nm y.name :: mk [123] :: fieldsK y.fields.l (mk [125] :: structsK (l ++ [x]) k) = _
  rw [structsK_snoc l x k]; rfl
theorem cs_structs_snoc (l : List Sr) (x : Sr) : cs (structsK (l ++ [x]) []) = cs (structsK l []) + cs (structsK [x] []) := by
 rw [structsK_snoc, cs_structs]
theorem cs_procs_snoc : ∀ (l : List Pc) (x : Pc), cs (procsK (l ++ [x])) = cs (procsK l) + cs (procsK [x])
 | [], x => by show cs (procsK [x]) = 0 + _; omega
 | y :: l, x => by
  have := cs_procs_snoc l x
  show cs (ky tVoid :: nm y.name :: mk [40] :: (commaK declK y.params.l ++ mk [41] :: mk [123] :: fieldsK y.locals_.l (linesK y.body ++ mk [125] :: procsK (l ++ [x])))) = cs (ky tVoid :: nm y.name :: mk [40] :: (commaK declK y.params.l ++ mk [41] :: mk [123] :: fieldsK y.locals_.l (linesK y.body ++ mk [125] :: procsK l))) + _
  simp only [cs, cs_app]
  rw [cs_fields, cs_fields y.locals_.l (linesK y.body ++ mk [125] :: procsK l)]
  simp only [cs, cs_app]
  omega
theorem struct_wt (g : Gt t) {u v : St} {x : Sr} (h : Pr.structure_ t u = .ok (x, v)) : cs (structsK [x] []) + wt t u.i ≤ wt t v.i := by
 obtain ⟨a, u1, h1, h⟩ := th_ok h
 obtain ⟨b, u2, h2, h⟩ := th_ok h
 obtain ⟨c, u3, h3, h⟩ := th_ok h
 obtain ⟨d, u4, h4, h⟩ := th_ok h
 injection h with h; injection h with hl h; subst h; subst hl
 have k1 := must_wt h1; have k2 := (name_wt g h2).1; have k3 := must_wt h3; have k4 := fields_wt g _ _ _ h4
 rw [show (⟨#[115, 116, 114, 117, 99, 116]⟩ : ByteArray).size = 6 from rfl] at k1
 rw [show (⟨#[123]⟩ : ByteArray).size = 1 from rfl] at k3
 have k4' : cs (fieldsK d []) + 2 + wt t u3.i ≤ wt t u4.i + 0 := k4
 show cs (ky tStruct :: nm b.text :: mk [123] :: fieldsK d (mk [125] :: [])) + _ ≤ _
 simp only [cs, cK_mk, cK_ky, cK_nm, tStruct, List.length_cons, List.length_nil]
 rw [cs_fields]
 simp only [cs, cK_mk, List.length_cons, List.length_nil]
 omega
theorem proc_wt (g : Gt t) (z : Gz t) {u v : St} {x : Pc} (h : Pr.proc t u = .ok (x, v)) : cs (procsK [x]) + wt t u.i ≤ wt t v.i := by
 obtain ⟨a, u1, h1, h⟩ := th_ok h
 obtain ⟨b, u2, h2, h⟩ := th_ok h
 obtain ⟨c, u3, h3, h⟩ := th_ok h
 obtain ⟨d, u4, h4, h⟩ := th_ok h
 obtain ⟨e, u5, h5, h⟩ := th_ok h
 obtain ⟨f, u6, h6, h⟩ := th_ok h
 obtain ⟨k, u7, h7, h⟩ := th_ok h
 injection h with h; injection h with hl h; subst h; subst hl
 have k1 := must_wt h1; have k2 := (name_wt g h2).1
 have k3 := listed_wt (f := declK) (fun _ _ _ h => variable_wt g h) h3
 have k4 := must_wt h4; have k5 := locals_wt g _ _ _ h5; have k6 := stmts_wt g z _ _ _ _ h6; have k7 := must_wt h7
 rw [show (⟨#[118, 111, 105, 100]⟩ : ByteArray).size = 4 from rfl] at k1
 rw [show (⟨#[123]⟩ : ByteArray).size = 1 from rfl] at k4
 rw [show (⟨#[125]⟩ : ByteArray).size = 1 from rfl] at k7
 have k5' : cs (fieldsK e []) + wt t u4.i ≤ wt t u5.i + 0 := k5
 show cs (ky tVoid :: nm b.text :: mk [40] :: (commaK declK c ++ mk [41] :: mk [123] :: fieldsK e (linesK f ++ mk [125] :: []))) + _ ≤ _
 simp only [cs, cs_app, cK_mk, cK_ky, cK_nm, tVoid, List.length_cons, List.length_nil]
 rw [cs_fields]
 simp only [cs, cs_app, cK_mk, List.length_cons, List.length_nil]
 omega
/-- What a program's parts cost. -/
def cp (ss : List Sr) (gs : List Dc) (ps : List Pc) : Nat := cs (structsK ss []) + cs (fieldsK gs []) + cs (procsK ps)
theorem cs_progK (p : Pg) : cs (progK p) = cp p.structs.l p.globals.l p.procs.l := by
 unfold progK cp
 rw [cs_structs, cs_fields]; omega
theorem program_wt (g : Gt t) (z : Gz t) : ∀ (n : Nat) (ss : List Sr) (gs : List Dc) (ps : List Pc) (u : St) {p : Pg} {v : St}, Pr.program t n ss gs ps u = .ok (p, v) → cs (progK p) + wt t u.i ≤ wt t v.i + cp ss gs ps
 | 0, ss, gs, ps, u, p, v, h => by cases h
 | n + 1, ss, gs, ps, u, p, v, h => by
  unfold Pr.program at h
  split at h
  ·injection h with h; injection h with hl h; subst h; subst hl
   rw [cs_progK]
   show cp ss gs ps + _ ≤ _
   omega
  ·split at h
   ·obtain ⟨x, u1, q1, h⟩ := th_ok h
    have k := program_wt g z n _ gs ps u1 h
    have k1 := struct_wt g q1
    unfold cp at k ⊢
    rw [cs_structs_snoc] at k
    omega
   ·split at h
    ·obtain ⟨x, u1, q1, h⟩ := th_ok h
     have k := program_wt g z n ss gs _ u1 h
     have k1 := proc_wt g z q1
     unfold cp at k ⊢
     rw [cs_procs_snoc] at k
     omega
    ·obtain ⟨x, u1, q1, h⟩ := th_ok h
     have k := program_wt g z n ss _ ps u1 h
     have k1 := decl_wt g q1
     unfold cp at k ⊢
     rw [cs_fields_snoc] at k
     omega
end
/-- The signs of a text have no more bytes than the text. -/
def sz : List Tx.Sg → Nat
 | [] => 0
 | a :: l => a.text.size + sz l
theorem nx_span (s : ByteArray) (i : Nat) : i + (Tx.nx s i).sg.text.size ≤ (Tx.nx s i).stop := by
 have h := Tx.nx_list s i
 have h1 := Tx.skp_ge s i
 rw [h]
 show i + (s.extract (Tx.skp s i) (Tx.skp s i + (Tx.tokL (s.data.toList.drop (Tx.skp s i))).len)).size ≤ Tx.skp s i + (Tx.tokL (s.data.toList.drop (Tx.skp s i))).len
 rw [ByteArray.size_extract]
 omega
theorem chain_sz : ∀ (l : List Tx.Sg) (s : ByteArray) (i : Nat), i ≤ s.size → Tx.Chain s i l → i + sz l ≤ s.size
 | [], s, i, hi, h => h.elim
 | a :: l, s, i, hi, h => by
  obtain ⟨_, rfl, h1⟩ := h
  have k1 := nx_span s i
  have k2 := Tx.nx_stop_le s i hi
  simp only [sz]
  rcases h1 with ⟨_, rfl⟩ | ⟨_, hc⟩
  ·simp only [sz]; omega
  ·have := chain_sz l s _ k2 hc
   omega
theorem wt_le : ∀ (l : List Tx.Sg) (n : Nat), wt (l.map Pr.tk) n ≤ 10 * sz l := by
 have key : ∀ (l : List Tx.Sg) (n : Nat), wt (l.map Pr.tk) n = 10 * sz (l.take n) := by
  intro l n
  induction n with
  | zero => rfl
  | succ n ih =>
   simp only [wt, ih]
   by_cases hn : n < l.length
   ·rw [← List.take_append_getElem hn, Pr.sg_tk (List.getElem?_eq_getElem hn)]
    have : ∀ (a b : List Tx.Sg), sz (a ++ b) = sz a + sz b := by
     intro a b
     induction a with
     | nil => simp [sz]
     | cons x a ih => simp only [List.cons_append, sz, ih]; omega
    rw [this]
    show _ + 10 * l[n].text.size = _
    simp only [sz]; omega
   ·rw [List.take_of_length_le (by omega), List.take_of_length_le (by omega)]
    have : (Pr.sg (l.map Pr.tk) n).text.size = 0 := by
     unfold Pr.sg
     rw [List.getD_eq_getElem?_getD, List.getElem?_eq_none (by simp; omega)]
     rfl
    rw [this]; omega
 have le : ∀ (l : List Tx.Sg) (n : Nat), sz (l.take n) ≤ sz l := by
  intro l
  induction l with
  | nil => intro n; simp [sz]
  | cons a l ih =>
   intro n
   cases n with
   | zero => simp [sz]
   | succ n => simp only [List.take_succ_cons, sz]; have := ih n; omega
 intro l n
 rw [key]
 have := le l n
 omega
theorem tokL_z (D : List UInt8) (h : (Tx.tokL D).kind = 2) : 1 ≤ (Tx.tokL D).len ∧ (Tx.tokL D).len ≤ D.length := by
 cases D with
 | nil => exact absurd h (by show ¬ (0 : Int) = 2; decide)
 | cons b l =>
  rw [Tx.tokL_cons] at h ⊢
  by_cases hl : Tx.ltr (b.toNat : Int) = true
  ·rw [if_pos hl] at h
   split at h
   ·exact absurd h (by show ¬ (0 : Int) = 2; decide)
   ·split at h
    ·exact absurd h (by show ¬ (3 : Int) = 2; decide)
    ·exact absurd h (by show ¬ (1 : Int) = 2; decide)
  ·rw [if_neg hl] at h ⊢
   by_cases hg : Tx.dgt (b.toNat : Int) = true
   ·rw [if_pos hg] at h ⊢
    split at h
    ·exact absurd h (by show ¬ (0 : Int) = 2; decide)
    ·rename_i h9
     rw [if_neg h9]
     show 1 ≤ Tx.run Tx.dgt (b :: l) ∧ Tx.run Tx.dgt (b :: l) ≤ (b :: l).length
     refine ⟨?_, Tx.run_le _ _⟩
     simp only [Tx.run, hg, if_true]; omega
   ·rw [if_neg hg] at h
    split at h
    ·exact absurd h (by show ¬ (0 : Int) = 2; decide)
    ·exact absurd h (by show ¬ (4 : Int) = 2; decide)
theorem nx_z (s : ByteArray) (i : Nat) (h : (Tx.nx s i).sg.kind = 2) : 1 ≤ (Tx.nx s i).sg.text.size := by
 have e := Tx.nx_list s i
 rw [e] at h ⊢
 have := tokL_z _ h
 show 1 ≤ (s.extract (Tx.skp s i) (Tx.skp s i + (Tx.tokL (s.data.toList.drop (Tx.skp s i))).len)).size
 have hl : (s.data.toList.drop (Tx.skp s i)).length = s.size - Tx.skp s i := by rw [List.length_drop, Tx.len_eq]
 rw [ByteArray.size_extract]
 omega
theorem chain_z : ∀ (l : List Tx.Sg) (s : ByteArray) (i : Nat), Tx.Chain s i l → ∀ a ∈ l, a.kind = 2 → 1 ≤ a.text.size
 | [], s, i, h => h.elim
 | b :: l, s, i, h => by
  obtain ⟨_, rfl, h1⟩ := h
  intro a ha
  rcases List.mem_cons.1 ha with rfl | ha
  ·exact nx_z s i
  ·rcases h1 with ⟨_, rfl⟩ | ⟨_, hc⟩
   ·simp at ha
   ·exact chain_z l s _ hc a ha
theorem alls_z (s : ByteArray) (h : (Tx.alls s).2.2 = 0) : Gz ((Tx.alls s).1.map Pr.tk) := by
 intro i
 unfold Pr.sg
 rw [List.getD_eq_getElem?_getD]
 cases hx : ((Tx.alls s).1.map Pr.tk)[i]? with
 | none => exact fun h => absurd h (by show ¬ (0 : Int) = 2; decide)
 | some y =>
  obtain ⟨a, ha, rfl⟩ := List.mem_map.1 (List.mem_of_getElem? hx)
  exact chain_z _ s 0 (Tx.alls_chain s h) a ha
end Pn
end Go.Proofs.YtdlchhimkelinaaGreatDoor
namespace Go.Proofs.YtdlchhimkelinaaGreatDoor
namespace Pn
theorem ln_nm (x : ByteArray) : (txt x).length = x.size := Tx.len_eq x
theorem ln_hops : ∀ l : List Hp, (hopsT l).length ≤ cs (hopsK l)
 | [] => Nat.le_refl _
 | h :: l => by
  have := ln_hops l
  simp only [hopsT, hopsK, List.length_append, cs_app, cs, cK_mk, cK_nm, List.length_cons, List.length_nil, ln_nm]
  omega
theorem ln_path (w : Pth) : (pathT w).length + 1 ≤ cs (pathK w) := by
 have := ln_hops w.hops.l
 simp only [pathT, pathK, List.length_append, cs_app, cs, cK_nm, ln_nm]
 omega
theorem ln_term (t : Tm) : (termT t).length + 1 ≤ cs (termK t) := by
 unfold termT termK
 by_cases h : txt t.name = []
 ·rw [if_pos h, if_pos h]
  show _ ≤ (Tx.digits t.n.toNat).length + 1 + 0
  omega
 ·rw [if_neg h, if_neg h]
  show _ ≤ cK (nm t.name) + 0
  rw [cK_nm, ln_nm]; omega
theorem ln_val {v : Vl} (_ : okVal v = true) : (valT v).length + 1 ≤ cs (valK v) := by
 unfold valT valK
 by_cases h0 : v.kind = 0
 ·rw [if_pos h0, if_pos h0]; decide
 rw [if_neg h0, if_neg h0]
 by_cases h1 : v.kind = 1
 ·rw [if_pos h1, if_pos h1]; exact ln_path _
 rw [if_neg h1, if_neg h1]
 by_cases h2 : v.kind = 2
 ·rw [if_pos h2, if_pos h2]
  simp only [cs, cK_nm, cK_ky, tNew, List.length_append, List.length_cons, List.length_nil, ln_nm]
  omega
 rw [if_neg h2, if_neg h2]
 by_cases h3 : v.kind = 3
 ·rw [if_pos h3, if_pos h3]; decide
 rw [if_neg h3, if_neg h3]
 by_cases h4 : v.kind = 4
 ·rw [if_pos h4, if_pos h4]
  show _ ≤ (Tx.digits v.left.n.toNat).length + 1 + 0
  omega
 rw [if_neg h4, if_neg h4]
 have a := ln_term v.left
 have b := ln_term v.right
 by_cases h5 : v.kind = 5
 ·rw [if_pos h5, if_pos h5]
  simp only [cs_app, cs, cK_mk, List.length_append, List.length_cons, List.length_nil]
  omega
 ·rw [if_neg h5, if_neg h5]
  simp only [cs_app, cs, cK_mk, List.length_append, List.length_cons, List.length_nil]
  omega
theorem ln_cond {c : Cd} (h : okCond c = true) : (condT c).length ≤ cs (condK c) := by
 unfold okCond at h
 unfold condT condK
 by_cases h0 : c.kind = 0
 ·rw [if_pos h0, if_pos h0]; decide
 rw [if_neg h0] at h
 rw [if_neg h0, if_neg h0]
 simp only [Bool.and_eq_true, okSide] at h
 have a := ln_val h.1.2.1
 have b := ln_val h.2.1
 simp only [cs_app, cs, cK_mk, List.length_append, List.length_cons, List.length_nil]
 omega
theorem ln_comma {α : Type} {f : α → List UInt8} {g : α → List K} : ∀ l : List α, (∀ a ∈ l, (f a).length ≤ cs (g a)) → (commaT f l).length ≤ cs (commaK g l)
 | [], _ => Nat.le_refl _
 | [a], h => h a List.mem_cons_self
 | a :: b :: l, h => by
  have h1 := h a List.mem_cons_self
  have h2 := ln_comma (b :: l) fun x hx => h x (List.mem_cons_of_mem _ hx)
  simp only [commaT, commaK, List.length_append, cs_app, cs, cK_mk, List.length_cons, List.length_nil] at h2 ⊢
  omega
theorem ln_decl {d : Dc} : (declT d).length ≤ cs (declK d) := by
 unfold declT declK
 by_cases h0 : txt d.type = []
 ·rw [if_pos h0, if_pos h0]
  simp only [cs, cK_nm, cK_ky, tInt, List.length_append, List.length_cons, List.length_nil, ln_nm]
  omega
 ·rw [if_neg h0, if_neg h0]
  simp only [cs, cK_nm, cK_mk, List.length_append, List.length_cons, List.length_nil, ln_nm]
  omega
theorem ln_stmt {h : Hd} {t0 e0 : Bool} {t e : List UInt8} {tk ek : List K} {d : Nat} (ho : okStmt h t0 e0 = true) (hd : d ≤ 24) (ht : t.length ≤ 50 * cs tk) (he : e.length ≤ 50 * cs ek) :
  (pad d ++ stT h t e d []).length ≤ 50 * cs (stK h tk ek []) := by
 have hp := pad_len d
 rw [List.length_append, hp]
 unfold okStmt at ho
 by_cases h0 : h.kind = 0
 ·rw [st0 h0]; unfold stK; rw [if_pos h0]
  simp only [cs, cK_mk, List.length_cons, List.length_nil]; omega
 rw [if_neg h0] at ho
 by_cases h1 : h.kind = 1
 ·rw [if_pos h1] at ho
  simp only [Bool.and_eq_true] at ho
  have a := ln_path h.place
  have b := ln_val ho.1.1.1.1.1.2
  rw [st1 h1]; unfold stK; rw [if_neg h0, if_pos h1]
  simp only [cs, cs_app, cK_mk, List.length_append, List.length_cons, List.length_nil]; omega
 rw [if_neg h1] at ho
 by_cases h2 : h.kind = 2
 ·have a := ln_path h.place
  rw [st2 h2]; unfold stK; rw [if_neg h0, if_neg h1, if_pos h2]
  simp only [cs, cs_app, cK_mk, cK_ky, tFree, List.length_append, List.length_cons, List.length_nil]; omega
 rw [if_neg h2] at ho
 by_cases h3 : h.kind = 3
 ·rw [if_pos h3] at ho
  simp only [Bool.and_eq_true] at ho
  have a := ln_comma (f := valT) (g := valK) h.args.l (fun y hy => by
   have := List.all_eq_true.1 ho.1.1.1.1.1.1.1 y hy
   unfold okSide at this
   simp only [Bool.and_eq_true] at this
   have := ln_val this.1
   omega)
  rw [st3 h3]; unfold stK; rw [if_neg h0, if_neg h1, if_neg h2, if_pos h3]
  simp only [cs, cs_app, cK_mk, cK_nm, List.length_append, List.length_cons, List.length_nil, ln_nm]; omega
 rw [if_neg h3] at ho
 by_cases h4 : h.kind = 4
 ·rw [if_pos h4] at ho
  simp only [Bool.and_eq_true] at ho
  have a := ln_cond ho.1.1.2
  unfold stK; rw [if_neg h0, if_neg h1, if_neg h2, if_neg h3, if_pos h4]
  cases hb : h.both with
  | true =>
   rw [st4b h4 hb, if_pos rfl]
   simp only [cs, cs_app, cK_mk, cK_ky, tIf, tElse, List.length_append, List.length_cons, List.length_nil, hp]; omega
  | false =>
   rw [st4 h4 hb, if_neg (by decide)]
   simp only [cs, cs_app, cK_mk, cK_ky, tIf, List.length_append, List.length_cons, List.length_nil, hp]; omega
 rw [if_neg h4] at ho
 by_cases h5 : h.kind = 5
 ·rw [if_pos h5] at ho
  simp only [Bool.and_eq_true] at ho
  have a := ln_cond ho.1.1.1.2
  rw [st5 h5]; unfold stK; rw [if_neg h0, if_neg h1, if_neg h2, if_neg h3, if_neg h4, if_pos h5]
  simp only [cs, cs_app, cK_mk, cK_ky, tWhile, List.length_append, List.length_cons, List.length_nil, hp]; omega
 rw [if_neg h5] at ho
 by_cases h6 : h.kind = 6
 ·rw [st6 (by omega)]; unfold stK; rw [if_neg h0, if_neg h1, if_neg h2, if_neg h3, if_neg h4, if_neg h5]
  simp only [cs, cs_app, cK_mk, List.length_append, List.length_cons, List.length_nil, hp]; omega
 rw [if_neg h6] at ho; cases ho
theorem dp_kind {h : Hd} {t e : SL} (ho : okStmt h (isNil t) (isNil e) = true) (hk : ¬ 4 ≤ h.kind) : t = .nil ∧ e = .nil := by
 unfold okStmt at ho
 by_cases h0 : h.kind = 0
 ·rw [if_pos h0] at ho; simp only [Bool.and_eq_true] at ho; exact ⟨nil_of ho.1.1.2, nil_of ho.1.2⟩
 rw [if_neg h0] at ho
 by_cases h1 : h.kind = 1
 ·rw [if_pos h1] at ho; simp only [Bool.and_eq_true] at ho; exact ⟨nil_of ho.1.1.2, nil_of ho.1.2⟩
 rw [if_neg h1] at ho
 by_cases h2 : h.kind = 2
 ·rw [if_pos h2] at ho; simp only [Bool.and_eq_true] at ho; exact ⟨nil_of ho.1.1.2, nil_of ho.1.2⟩
 rw [if_neg h2] at ho
 by_cases h3 : h.kind = 3
 ·rw [if_pos h3] at ho; simp only [Bool.and_eq_true] at ho; exact ⟨nil_of ho.1.1.2, nil_of ho.1.2⟩
 rw [if_neg h3, if_neg (by omega), if_neg (by omega), if_neg (by omega)] at ho
 cases ho
theorem ln_lines : ∀ (l : SL) (d : Nat), okList l = true → (d : Int) + dp l ≤ 24 → (linesT l d).length ≤ 50 * cs (linesK l)
 | .nil, _, _, _ => Nat.zero_le _
 | .cons h _ _ t _ _ e r, d, ho, hd => by
  simp only [okList, Bool.and_eq_true] at ho
  simp only [dp] at hd
  have n1 := dp_nn t; have n2 := dp_nn e; have n3 := dp_nn r
  have lr := ln_lines r d ho.2 (by omega)
  have hte : (linesT t (d + 1)).length ≤ 50 * cs (linesK t) ∧ (linesT e (d + 1)).length ≤ 50 * cs (linesK e) := by
   by_cases hk : 4 ≤ h.kind
   ·rw [if_pos hk] at hd
    exact ⟨ln_lines t (d + 1) ho.1.1.2 (by omega), ln_lines e (d + 1) ho.1.2 (by omega)⟩
   ·obtain ⟨rfl, rfl⟩ := dp_kind ho.1.1.1 hk
    exact ⟨Nat.zero_le _, Nat.zero_le _⟩
  have hs := ln_stmt (d := d) ho.1.1.1 (by omega) hte.1 hte.2
  show (pad d ++ stT h (linesT t (d + 1)) (linesT e (d + 1)) d (linesT r d)).length ≤ 50 * cs (stK h (linesK t) (linesK e) (linesK r))
  rw [stT_app, ← List.append_assoc, List.length_append, cs_stK]
  omega
theorem ln_fields (d : Nat) (hd : d ≤ 1) : ∀ l : List Dc, (fieldsT d l []).length ≤ 50 * cs (fieldsK l [])
 | [] => Nat.zero_le _
 | x :: l => by
  have h1 := ln_fields d hd l
  have h2 := @ln_decl x
  have hp := pad_len d
  show (pad d ++ (declT x ++ 59 :: 10 :: fieldsT d l [])).length ≤ 50 * cs (declK x ++ mk [59] :: fieldsK l [])
  simp only [cs, cs_app, cK_mk, List.length_append, List.length_cons, List.length_nil, hp]
  omega
theorem ln_structs : ∀ l : List Sr, (structsT l []).length ≤ 50 * cs (structsK l [])
 | [] => Nat.zero_le _
 | x :: l => by
  have h1 := ln_structs l
  have h2 := ln_fields 1 (by decide) x.fields.l
  show (tStruct ++ 32 :: (txt x.name ++ 32 :: 123 :: 10 :: fieldsT 1 x.fields.l (125 :: 10 :: structsT l []))).length ≤ 50 * cs (ky tStruct :: nm x.name :: mk [123] :: fieldsK x.fields.l (mk [125] :: structsK l []))
  rw [fieldsT_app, show cs (ky tStruct :: nm x.name :: mk [123] :: fieldsK x.fields.l (mk [125] :: structsK l [])) = cK (ky tStruct) + (cK (nm x.name) + (cK (mk [123]) + cs (fieldsK x.fields.l (mk [125] :: structsK l [])))) from rfl, cs_fields]
  simp only [cs, cK_mk, cK_ky, cK_nm, tStruct, List.length_append, List.length_cons, List.length_nil, ln_nm]
  omega
theorem ln_procs : ∀ l : List Pc, (∀ x ∈ l, okProc x = true ∧ dp x.body ≤ 20) → (procsT l).length ≤ 50 * cs (procsK l)
 | [], _ => Nat.zero_le _
 | x :: l, h => by
  have h1 := ln_procs l fun y hy => h y (List.mem_cons_of_mem _ hy)
  obtain ⟨ho, hd⟩ := h x List.mem_cons_self
  unfold okProc at ho
  simp only [Bool.and_eq_true, List.all_eq_true] at ho
  have h2 := ln_comma (f := declT) (g := declK) x.params.l (fun y _ => ln_decl)
  have h3 := ln_fields 1 (by decide) x.locals_.l
  have h4 := ln_lines x.body 1 ho.2 (by omega)
  show (tVoid ++ 32 :: (txt x.name ++ 40 :: (commaT declT x.params.l ++ 41 :: 32 :: 123 :: 10 :: fieldsT 1 x.locals_.l (linesT x.body 1 ++ 125 :: 10 :: procsT l)))).length ≤ 50 * cs (ky tVoid :: nm x.name :: mk [40] :: (commaK declK x.params.l ++ mk [41] :: mk [123] :: fieldsK x.locals_.l (linesK x.body ++ mk [125] :: procsK l)))
  rw [fieldsT_app]
  simp only [cs, cs_app]
  rw [cs_fields]
  simp only [cs, cs_app, cK_mk, cK_ky, cK_nm, tVoid, List.length_append, List.length_cons, List.length_nil, ln_nm]
  omega
/-- The printed text is no longer than fifty times its signs. -/
theorem ln_prog {p : Pg} (h : right p = true) : (progT p).length ≤ 50 * cs (progK p) := by
 unfold right okProg at h
 simp only [Bool.and_eq_true, List.all_eq_true, decide_eq_true_eq] at h
 have h1 := ln_structs p.structs.l
 have h2 := ln_fields 0 (by decide) p.globals.l
 have h3 := ln_procs p.procs.l (fun x hx => ⟨h.1.1.2 x hx, h.1.2 x hx⟩)
 rw [progT_eq, cs_progK]
 unfold cp
 simp only [List.length_append]
 omega
/-- The least size of signs: their bytes, and a blank between words. -/
def lsum : Bool → List Tx.Sg → Nat
 | _, [] => 0
 | b, a :: l => if a.kind = 0 then 0 else (if b = true ∧ a.kind ≠ 4 then 1 else 0) + a.text.size + lsum (decide (a.kind ≠ 4)) l
theorem lsum_cs : ∀ (l : List Tx.Sg) (b : Bool), lsum b l ≤ cs (l.map Tx.key)
 | [], _ => Nat.le_refl _
 | a :: l, b => by
  have := lsum_cs l (decide (a.kind ≠ 4))
  have e : cK (Tx.key a) = a.text.size + 1 := by show (a.text.data.toList).length + 1 = _; rw [Tx.len_eq]
  simp only [List.map_cons, cs, lsum, e]
  split
  ·omega
  ·split <;> omega
/-- The signs of a printed text, however long it is. -/
theorem prog_chain {p : Pg} (h : okProg p = true) {t : ByteArray} (ht : t.data.toList = progT p) : ∃ m, Tx.Chain t 0 m ∧ m.map Tx.key = progK p ++ [(0, [], 0)] := by
 obtain ⟨k, h1, h2⟩ := (lx_prog h) t 0 [] trivial (by rw [ht]; simp)
 have hk : t.size ≤ k := by
  have := congrArg List.length h2
  rw [List.length_drop, Tx.len_eq] at this; simp at this; omega
 have hnx : Tx.nx t k = Tx.An.bad k 0 := by unfold Tx.nx; rw [Tx.skp_end t k hk, (by unfold Tx.tok; rw [dif_neg (by omega)] : Tx.tok t k = Tx.An.bad k 0)]
 obtain ⟨m, c, e⟩ := h1.chain (by rw [hnx]; rfl) (by rw [hnx]; rfl)
 refine ⟨m, c, ?_⟩
 rw [e, hnx]; rfl
end Pn
end Go.Proofs.YtdlchhimkelinaaGreatDoor
namespace Go.Proofs.YtdlchhimkelinaaGreatDoor
open Go.RowKit Go.Sort
theorem least_any (t : ByteArray) (m : List Tx.Sg) (w : World) (hc : Tx.Chain t 0 m) (hg : Gl w) (hs : t.size ≤ 5000000) (ht : Pn.lsum false m ≤ 1000000) :
  Calls Tryz.prog 19 #[.string t] w fun e w' => e = .returned (.int .i64 (Pn.lsum false m : Nat)) ∧ Below w.heap.size w w' := by
 have HG := hdn hg; have HC := hdn hc
 obtain ⟨tot, htot⟩ : ∃ tot, tot = Pn.lsum false m := ⟨_, rfl⟩
 have HTOT := hdn htot
 rw [← htot] at ht ⊢
 clear hg hc htot
 go_enter Tryz.func19, Tryz.ntmps19
 go_wp2_with fail
 go_loopw [3, 4, 5] (fun s d a wr => ∃ (sum at_ : Nat) (b : Bool) (rest : List Tx.Sg), s = .int .i64 sum ∧ d = .bool b ∧ a = .int .i64 at_ ∧ Hid (Tx.Chain t at_ rest) ∧ at_ ≤ t.size ∧ Hid (sum + Pn.lsum b rest = tot) ∧ Hid (Below w.heap.size w wr)) (fun _ _ a _ => t.size + 1 - (intOf a).toNat)
 case atStart => exact ⟨0, 0, false, m, rfl, rfl, rfl, HC, Nat.zero_le _, hdn (by rw [HTOT.out]; omega), hdn (Below.refl _ _)⟩
 case round =>
  obtain ⟨sum, at_, b, rest, rfl, rfl, rfl, HCH, hat, HS, HB⟩ := hrel
  cases rest with
  | nil => exact HCH.out.elim
  | cons a l =>
   have hch := HCH.out
   obtain ⟨he, ha, hr⟩ := hch
   have CN0 := next_any t (at_ : Nat) wr hs (HG.out.below HB.out HG.out.two)
   rw [held_of t at_ hat, he] at CN0
   have hstop := Tx.nx_stop_le t at_ hat
   have hadv := fun h => Tx.nx_adv t at_ he h
   have hspan := Pn.nx_span t at_
   rw [ha] at CN0 hadv hspan
   have hls := HS.out
   simp only [Pn.lsum] at hls
   obtain ⟨kk, hkk⟩ : ∃ kk, kk = a.kind := ⟨_, rfl⟩
   obtain ⟨ps, hps⟩ : ∃ ps, ps = a.pos := ⟨_, rfl⟩
   obtain ⟨tx, htx⟩ : ∃ tx, tx = a.text := ⟨_, rfl⟩
   obtain ⟨nn, hnn⟩ : ∃ nn, nn = a.num := ⟨_, rfl⟩
   obtain ⟨st, hst⟩ : ∃ st, st = (Tx.nx t at_).stop := ⟨_, rfl⟩
   rw [← hkk, ← hps, ← htx, ← hnn, ← hst] at CN0
   rw [← hkk] at hr hadv hls
   rw [← hst] at hr hadv hstop hspan
   rw [← htx] at hls hspan
   have CN := hdn CN0
   clear CN0 he ha hkk hps htx hnn hst
   by_cases k0 : kk = 0
   ·subst k0
    rw [if_pos rfl] at hls
    have hse : sum = tot := by omega
    clear hr hadv hls
    go_wp2_with (go_at_call 48; refine CN.out.mono ?_; rintro en w1 ⟨rfl, hb⟩; have HB1 := hdn (HB.out.trans (hb.mono HB.out.size)); have HB2 := hdn (HB1.out.alloc HB1.out.size (.cells #[.int .i64 0, .int .i64 ps, .string tx, .int .i64 nn] 106)); clear hb)
    go_ret
    exact ⟨rfl, HB2.out⟩
   ·rw [if_neg k0] at hls
    have hr2 := (hr.resolve_left (fun h => k0 h.1)).2
    have HR2 := hdn hr2
    have hadv2 := hadv k0
    clear hr hadv hr2
    by_cases k4 : kk = 4
    ·subst k4
     rw [if_neg (by simp), show decide ((4 : Int) ≠ 4) = false from rfl] at hls
     have HS1 : Hid (sum + tx.size + Pn.lsum false l = tot) := hdn (by omega)
     have hsb : sum + tx.size ≤ 1000000 := by omega
     clear hls
     cases b
     ·go_wp2_with (go_at_call 48; refine CN.out.mono ?_; rintro en w1 ⟨rfl, hb⟩; have HB1 := hdn (HB.out.trans (hb.mono HB.out.size)); have HB2 := hdn (HB1.out.alloc HB1.out.size (.cells #[.int .i64 4, .int .i64 ps, .string tx, .int .i64 nn] 106)); clear hb)
      go_roundw
      case rel => exact ⟨sum + tx.size, st, false, l, by go_num, rfl, rfl, HR2, hstop, HS1, HB2⟩
      case measure => simp [intOf]; omega
     ·go_wp2_with (go_at_call 48; refine CN.out.mono ?_; rintro en w1 ⟨rfl, hb⟩; have HB1 := hdn (HB.out.trans (hb.mono HB.out.size)); have HB2 := hdn (HB1.out.alloc HB1.out.size (.cells #[.int .i64 4, .int .i64 ps, .string tx, .int .i64 nn] 106)); clear hb)
      go_roundw
      case rel => exact ⟨sum + tx.size, st, false, l, by go_num, rfl, rfl, HR2, hstop, HS1, HB2⟩
      case measure => simp [intOf]; omega
    ·rw [show decide (kk ≠ 4) = true from decide_eq_true k4] at hls
     have k4' : (kk != 4) = true := by simp [k4]
     cases b
     ·rw [if_neg (by simp)] at hls
      have HS1 : Hid (sum + tx.size + Pn.lsum true l = tot) := hdn (by omega)
      have hsb : sum + tx.size ≤ 1000000 := by omega
      clear hls
      go_wp2_with (go_at_call 48; refine CN.out.mono ?_; rintro en w1 ⟨rfl, hb⟩; have HB1 := hdn (HB.out.trans (hb.mono HB.out.size)); have HB2 := hdn (HB1.out.alloc HB1.out.size (.cells #[.int .i64 kk, .int .i64 ps, .string tx, .int .i64 nn] 106)); clear hb)
      go_roundw
      case rel => exact ⟨sum + tx.size, st, true, l, by go_num, rfl, rfl, HR2, hstop, HS1, HB2⟩
      case measure => simp [intOf]; omega
     ·rw [if_pos ⟨rfl, k4⟩] at hls
      have HS1 : Hid (sum + 1 + tx.size + Pn.lsum true l = tot) := hdn (by omega)
      have hsb : sum + 1 + tx.size ≤ 1000000 := by omega
      clear hls
      go_wp2_with (go_at_call 48; refine CN.out.mono ?_; rintro en w1 ⟨rfl, hb⟩; have HB1 := hdn (HB.out.trans (hb.mono HB.out.size)); have HB2 := hdn (HB1.out.alloc HB1.out.size (.cells #[.int .i64 kk, .int .i64 ps, .string tx, .int .i64 nn] 106)); clear hb)
      go_roundw
      case rel => exact ⟨sum + 1 + tx.size, st, true, l, by go_num, rfl, rfl, HR2, hstop, HS1, HB2⟩
      case measure => simp [intOf]; omega
end Go.Proofs.YtdlchhimkelinaaGreatDoor
namespace Go.Proofs.YtdlchhimkelinaaGreatDoor
open Go.RowKit Go.Sort
def tPB : ByteArray := ⟨tProg.toArray⟩
theorem nx0 : Tx.nx tPB (held tPB 0) = ⟨⟨3, 0, ⟨#[118, 111, 105, 100]⟩, 0⟩, 4, 0⟩ := by kernel_rfl
theorem cn0 (w : World) (hg : Gl w) : Calls Tryz.prog 48 #[.string tPB, .int .i64 0] w fun e w' => e = .returned (.tuple #[.agg #[.int .i64 3, .int .i64 0, .string ⟨#[118, 111, 105, 100]⟩, .int .i64 0], .int .i64 4, .int .i64 0]) ∧ Below w.heap.size w w' := by
 have := next_any tPB 0 w (by decide) hg
 rw [nx0] at this
 exact this
theorem nx1 : Tx.nx tPB (held tPB 4) = ⟨⟨1, 5, ⟨#[112]⟩, 0⟩, 6, 0⟩ := by kernel_rfl
theorem cn1 (w : World) (hg : Gl w) : Calls Tryz.prog 48 #[.string tPB, .int .i64 4] w fun e w' => e = .returned (.tuple #[.agg #[.int .i64 1, .int .i64 5, .string ⟨#[112]⟩, .int .i64 0], .int .i64 6, .int .i64 0]) ∧ Below w.heap.size w w' := by
 have := next_any tPB 4 w (by decide) hg
 rw [nx1] at this
 exact this
theorem nx2 : Tx.nx tPB (held tPB 6) = ⟨⟨4, 6, ⟨#[40]⟩, 0⟩, 7, 0⟩ := by kernel_rfl
theorem cn2 (w : World) (hg : Gl w) : Calls Tryz.prog 48 #[.string tPB, .int .i64 6] w fun e w' => e = .returned (.tuple #[.agg #[.int .i64 4, .int .i64 6, .string ⟨#[40]⟩, .int .i64 0], .int .i64 7, .int .i64 0]) ∧ Below w.heap.size w w' := by
 have := next_any tPB 6 w (by decide) hg
 rw [nx2] at this
 exact this
theorem nx3 : Tx.nx tPB (held tPB 7) = ⟨⟨4, 7, ⟨#[41]⟩, 0⟩, 8, 0⟩ := by kernel_rfl
theorem cn3 (w : World) (hg : Gl w) : Calls Tryz.prog 48 #[.string tPB, .int .i64 7] w fun e w' => e = .returned (.tuple #[.agg #[.int .i64 4, .int .i64 7, .string ⟨#[41]⟩, .int .i64 0], .int .i64 8, .int .i64 0]) ∧ Below w.heap.size w w' := by
 have := next_any tPB 7 w (by decide) hg
 rw [nx3] at this
 exact this
theorem nx4 : Tx.nx tPB (held tPB 8) = ⟨⟨4, 9, ⟨#[123]⟩, 0⟩, 10, 0⟩ := by kernel_rfl
theorem cn4 (w : World) (hg : Gl w) : Calls Tryz.prog 48 #[.string tPB, .int .i64 8] w fun e w' => e = .returned (.tuple #[.agg #[.int .i64 4, .int .i64 9, .string ⟨#[123]⟩, .int .i64 0], .int .i64 10, .int .i64 0]) ∧ Below w.heap.size w w' := by
 have := next_any tPB 8 w (by decide) hg
 rw [nx4] at this
 exact this
theorem nx5 : Tx.nx tPB (held tPB 10) = ⟨⟨1, 13, ⟨#[120]⟩, 0⟩, 14, 0⟩ := by kernel_rfl
theorem cn5 (w : World) (hg : Gl w) : Calls Tryz.prog 48 #[.string tPB, .int .i64 10] w fun e w' => e = .returned (.tuple #[.agg #[.int .i64 1, .int .i64 13, .string ⟨#[120]⟩, .int .i64 0], .int .i64 14, .int .i64 0]) ∧ Below w.heap.size w w' := by
 have := next_any tPB 10 w (by decide) hg
 rw [nx5] at this
 exact this
theorem nx6 : Tx.nx tPB (held tPB 14) = ⟨⟨4, 15, ⟨#[61]⟩, 0⟩, 16, 0⟩ := by kernel_rfl
theorem cn6 (w : World) (hg : Gl w) : Calls Tryz.prog 48 #[.string tPB, .int .i64 14] w fun e w' => e = .returned (.tuple #[.agg #[.int .i64 4, .int .i64 15, .string ⟨#[61]⟩, .int .i64 0], .int .i64 16, .int .i64 0]) ∧ Below w.heap.size w w' := by
 have := next_any tPB 14 w (by decide) hg
 rw [nx6] at this
 exact this
theorem nx7 : Tx.nx tPB (held tPB 16) = ⟨⟨3, 17, ⟨#[110, 117, 108, 108]⟩, 0⟩, 21, 0⟩ := by kernel_rfl
theorem cn7 (w : World) (hg : Gl w) : Calls Tryz.prog 48 #[.string tPB, .int .i64 16] w fun e w' => e = .returned (.tuple #[.agg #[.int .i64 3, .int .i64 17, .string ⟨#[110, 117, 108, 108]⟩, .int .i64 0], .int .i64 21, .int .i64 0]) ∧ Below w.heap.size w w' := by
 have := next_any tPB 16 w (by decide) hg
 rw [nx7] at this
 exact this
theorem nx8 : Tx.nx tPB (held tPB 21) = ⟨⟨4, 21, ⟨#[59]⟩, 0⟩, 22, 0⟩ := by kernel_rfl
theorem cn8 (w : World) (hg : Gl w) : Calls Tryz.prog 48 #[.string tPB, .int .i64 21] w fun e w' => e = .returned (.tuple #[.agg #[.int .i64 4, .int .i64 21, .string ⟨#[59]⟩, .int .i64 0], .int .i64 22, .int .i64 0]) ∧ Below w.heap.size w w' := by
 have := next_any tPB 21 w (by decide) hg
 rw [nx8] at this
 exact this
theorem nx9 : Tx.nx tPB (held tPB 22) = ⟨⟨4, 23, ⟨#[125]⟩, 0⟩, 24, 0⟩ := by kernel_rfl
theorem cn9 (w : World) (hg : Gl w) : Calls Tryz.prog 48 #[.string tPB, .int .i64 22] w fun e w' => e = .returned (.tuple #[.agg #[.int .i64 4, .int .i64 23, .string ⟨#[125]⟩, .int .i64 0], .int .i64 24, .int .i64 0]) ∧ Below w.heap.size w w' := by
 have := next_any tPB 22 w (by decide) hg
 rw [nx9] at this
 exact this
theorem nx10 : Tx.nx tPB (held tPB 24) = ⟨⟨0, 25, ⟨#[]⟩, 0⟩, 25, 0⟩ := by kernel_rfl
theorem cn10 (w : World) (hg : Gl w) : Calls Tryz.prog 48 #[.string tPB, .int .i64 24] w fun e w' => e = .returned (.tuple #[.agg #[.int .i64 0, .int .i64 25, .string ⟨#[]⟩, .int .i64 0], .int .i64 25, .int .i64 0]) ∧ Below w.heap.size w w' := by
 have := next_any tPB 24 w (by decide) hg
 rw [nx10] at this
 exact this
theorem least_sx (w : World) (hg : Gl w) : Calls Tryz.prog 19 #[.string tPB] w fun e w' => e = .returned (.int .i64 17) ∧ Below w.heap.size w w' := by
 have HG := hdn hg
 clear hg
 obtain ⟨T, hT⟩ : ∃ T, T = tPB := ⟨_, rfl⟩
 have HT := hdn hT
 rw [← hT]
 clear hT
 go_enter Tryz.func19, Tryz.ntmps19
 go_wp2_with fail
 go_loopw [3, 4, 5] (fun s d a wr => Hid (Below w.heap.size w wr) ∧ ((s = .int .i64 0 ∧ d = .bool false ∧ a = .int .i64 0) ∨ (s = .int .i64 4 ∧ d = .bool true ∧ a = .int .i64 4) ∨ (s = .int .i64 6 ∧ d = .bool true ∧ a = .int .i64 6) ∨ (s = .int .i64 7 ∧ d = .bool false ∧ a = .int .i64 7) ∨ (s = .int .i64 8 ∧ d = .bool false ∧ a = .int .i64 8) ∨ (s = .int .i64 9 ∧ d = .bool false ∧ a = .int .i64 10) ∨ (s = .int .i64 10 ∧ d = .bool true ∧ a = .int .i64 14) ∨ (s = .int .i64 11 ∧ d = .bool false ∧ a = .int .i64 16) ∨ (s = .int .i64 15 ∧ d = .bool true ∧ a = .int .i64 21) ∨ (s = .int .i64 16 ∧ d = .bool false ∧ a = .int .i64 22) ∨ (s = .int .i64 17 ∧ d = .bool false ∧ a = .int .i64 24))) (fun _ _ a _ => 25 - (intOf a).toNat)
 case atStart => exact ⟨hdn (Below.refl _ _), .inl ⟨rfl, rfl, rfl⟩⟩
 case round =>
  obtain ⟨HB, hrel⟩ := hrel
  have HGW := hdn (HG.out.below HB.out HG.out.two)
  rcases hrel with ⟨rfl, rfl, rfl⟩ | ⟨rfl, rfl, rfl⟩ | ⟨rfl, rfl, rfl⟩ | ⟨rfl, rfl, rfl⟩ | ⟨rfl, rfl, rfl⟩ | ⟨rfl, rfl, rfl⟩ | ⟨rfl, rfl, rfl⟩ | ⟨rfl, rfl, rfl⟩ | ⟨rfl, rfl, rfl⟩ | ⟨rfl, rfl, rfl⟩ | ⟨rfl, rfl, rfl⟩
  ·have CN := cn0 wr HGW.out
   rw [← HT.out] at CN
   go_wp2_with (go_at_call 48; refine CN.mono ?_; rintro en w1 ⟨rfl, hb⟩; have HB1 := hdn (HB.out.trans (hb.mono HB.out.size)); have HB2 := hdn (HB1.out.alloc HB1.out.size (.cells #[.int .i64 3, .int .i64 0, .string ⟨#[118, 111, 105, 100]⟩, .int .i64 0] 106)); clear hb)
   go_roundw
   case rel => exact ⟨HB2, (.inr (.inl ⟨rfl, rfl, rfl⟩))⟩
   case measure => simp [intOf]
  ·have CN := cn1 wr HGW.out
   rw [← HT.out] at CN
   go_wp2_with (go_at_call 48; refine CN.mono ?_; rintro en w1 ⟨rfl, hb⟩; have HB1 := hdn (HB.out.trans (hb.mono HB.out.size)); have HB2 := hdn (HB1.out.alloc HB1.out.size (.cells #[.int .i64 1, .int .i64 5, .string ⟨#[112]⟩, .int .i64 0] 106)); clear hb)
   go_roundw
   case rel => exact ⟨HB2, (.inr (.inr (.inl ⟨rfl, rfl, rfl⟩)))⟩
   case measure => simp [intOf]
  ·have CN := cn2 wr HGW.out
   rw [← HT.out] at CN
   go_wp2_with (go_at_call 48; refine CN.mono ?_; rintro en w1 ⟨rfl, hb⟩; have HB1 := hdn (HB.out.trans (hb.mono HB.out.size)); have HB2 := hdn (HB1.out.alloc HB1.out.size (.cells #[.int .i64 4, .int .i64 6, .string ⟨#[40]⟩, .int .i64 0] 106)); clear hb)
   go_roundw
   case rel => exact ⟨HB2, (.inr (.inr (.inr (.inl ⟨rfl, rfl, rfl⟩))))⟩
   case measure => simp [intOf]
  ·have CN := cn3 wr HGW.out
   rw [← HT.out] at CN
   go_wp2_with (go_at_call 48; refine CN.mono ?_; rintro en w1 ⟨rfl, hb⟩; have HB1 := hdn (HB.out.trans (hb.mono HB.out.size)); have HB2 := hdn (HB1.out.alloc HB1.out.size (.cells #[.int .i64 4, .int .i64 7, .string ⟨#[41]⟩, .int .i64 0] 106)); clear hb)
   go_roundw
   case rel => exact ⟨HB2, (.inr (.inr (.inr (.inr (.inl ⟨rfl, rfl, rfl⟩)))))⟩
   case measure => simp [intOf]
  ·have CN := cn4 wr HGW.out
   rw [← HT.out] at CN
   go_wp2_with (go_at_call 48; refine CN.mono ?_; rintro en w1 ⟨rfl, hb⟩; have HB1 := hdn (HB.out.trans (hb.mono HB.out.size)); have HB2 := hdn (HB1.out.alloc HB1.out.size (.cells #[.int .i64 4, .int .i64 9, .string ⟨#[123]⟩, .int .i64 0] 106)); clear hb)
   go_roundw
   case rel => exact ⟨HB2, (.inr (.inr (.inr (.inr (.inr (.inl ⟨rfl, rfl, rfl⟩))))))⟩
   case measure => simp [intOf]
  ·have CN := cn5 wr HGW.out
   rw [← HT.out] at CN
   go_wp2_with (go_at_call 48; refine CN.mono ?_; rintro en w1 ⟨rfl, hb⟩; have HB1 := hdn (HB.out.trans (hb.mono HB.out.size)); have HB2 := hdn (HB1.out.alloc HB1.out.size (.cells #[.int .i64 1, .int .i64 13, .string ⟨#[120]⟩, .int .i64 0] 106)); clear hb)
   go_roundw
   case rel => exact ⟨HB2, (.inr (.inr (.inr (.inr (.inr (.inr (.inl ⟨rfl, rfl, rfl⟩)))))))⟩
   case measure => simp [intOf]
  ·have CN := cn6 wr HGW.out
   rw [← HT.out] at CN
   go_wp2_with (go_at_call 48; refine CN.mono ?_; rintro en w1 ⟨rfl, hb⟩; have HB1 := hdn (HB.out.trans (hb.mono HB.out.size)); have HB2 := hdn (HB1.out.alloc HB1.out.size (.cells #[.int .i64 4, .int .i64 15, .string ⟨#[61]⟩, .int .i64 0] 106)); clear hb)
   go_roundw
   case rel => exact ⟨HB2, (.inr (.inr (.inr (.inr (.inr (.inr (.inr (.inl ⟨rfl, rfl, rfl⟩))))))))⟩
   case measure => simp [intOf]
  ·have CN := cn7 wr HGW.out
   rw [← HT.out] at CN
   go_wp2_with (go_at_call 48; refine CN.mono ?_; rintro en w1 ⟨rfl, hb⟩; have HB1 := hdn (HB.out.trans (hb.mono HB.out.size)); have HB2 := hdn (HB1.out.alloc HB1.out.size (.cells #[.int .i64 3, .int .i64 17, .string ⟨#[110, 117, 108, 108]⟩, .int .i64 0] 106)); clear hb)
   go_roundw
   case rel => exact ⟨HB2, (.inr (.inr (.inr (.inr (.inr (.inr (.inr (.inr (.inl ⟨rfl, rfl, rfl⟩)))))))))⟩
   case measure => simp [intOf]
  ·have CN := cn8 wr HGW.out
   rw [← HT.out] at CN
   go_wp2_with (go_at_call 48; refine CN.mono ?_; rintro en w1 ⟨rfl, hb⟩; have HB1 := hdn (HB.out.trans (hb.mono HB.out.size)); have HB2 := hdn (HB1.out.alloc HB1.out.size (.cells #[.int .i64 4, .int .i64 21, .string ⟨#[59]⟩, .int .i64 0] 106)); clear hb)
   go_roundw
   case rel => exact ⟨HB2, (.inr (.inr (.inr (.inr (.inr (.inr (.inr (.inr (.inr (.inl ⟨rfl, rfl, rfl⟩))))))))))⟩
   case measure => simp [intOf]
  ·have CN := cn9 wr HGW.out
   rw [← HT.out] at CN
   go_wp2_with (go_at_call 48; refine CN.mono ?_; rintro en w1 ⟨rfl, hb⟩; have HB1 := hdn (HB.out.trans (hb.mono HB.out.size)); have HB2 := hdn (HB1.out.alloc HB1.out.size (.cells #[.int .i64 4, .int .i64 23, .string ⟨#[125]⟩, .int .i64 0] 106)); clear hb)
   go_roundw
   case rel => exact ⟨HB2, (.inr (.inr (.inr (.inr (.inr (.inr (.inr (.inr (.inr (.inr ⟨rfl, rfl, rfl⟩))))))))))⟩
   case measure => simp [intOf]
  ·have CN := cn10 wr HGW.out
   rw [← HT.out] at CN
   go_wp2_with (go_at_call 48; refine CN.mono ?_; rintro en w1 ⟨rfl, hb⟩; have HB1 := hdn (HB.out.trans (hb.mono HB.out.size)); have HB2 := hdn (HB1.out.alloc HB1.out.size (.cells #[.int .i64 0, .int .i64 25, .string ⟨#[]⟩, .int .i64 0] 106)); clear hb)
   go_ret
   exact ⟨rfl, HB2.out⟩
end Go.Proofs.YtdlchhimkelinaaGreatDoor
namespace Go.Proofs.YtdlchhimkelinaaGreatDoor
open Go.RowKit Go.Sort
theorem Pb.new (w : World) : Pb w.heap.size w.heap.size [] 0 (w.alloc (.cells #[.pointer none, .slice none 0 0, .int .i64 0] 61)) :=
 .inl ⟨Nat.le_refl _, .slice none 0 0, heap_alloc_new _ _, ⟨rfl, .inl ⟨rfl, rfl⟩⟩, by intro e; cases e⟩
theorem printP_sx (q L : Nat) (w : World) (hg : Gl w) (hL : L < w.heap.size) (hq0 : q < w.heap.size) (hr : w.rangeAt L 0 sx.cells) (hq : w.rangeAt q 0 (pcs L)) :
  Calls Tryz.prog 8 #[.agg #[.slice none 0 0, .slice none 0 0, .slice (some ⟨q, 0, none⟩) 1 1]] w fun e w' => e = .returned (.tuple #[.string tPB, .int .i64 0]) ∧ Below w.heap.size w w' := by
 have HG := hdn hg; have HR := hdn hr; have HQ := hdn hq; have HL := hdn hL; have HQ0 := hdn hq0
 clear hg hr hq hL hq0
 obtain ⟨wA, hwA⟩ : ∃ wA : World, wA = w.alloc (.cells #[.slice none 0 0, .slice none 0 0, .slice (some ⟨q, 0, none⟩) 1 1] 26) := ⟨_, rfl⟩
 have HBA : Hid (Below w.heap.size w wA) := hdn (by rw [hwA]; exact (Below.refl _ _).alloc (Nat.le_refl _) _)
 have HKA : Hid (Bk wA w.heap.size 26 #[.slice none 0 0, .slice none 0 0, .slice (some ⟨q, 0, none⟩) 1 1]) := hdn (by rw [hwA]; exact heap_alloc_new _ _)
 have c0 : wA.cell? ⟨w.heap.size, 0, none⟩ = some (.slice none 0 0) := HKA.out.cell 0
 have c1 : wA.cell? ⟨w.heap.size, 1, none⟩ = some (.slice none 0 0) := HKA.out.cell 1
 have c2 : wA.cell? ⟨w.heap.size, 2, none⟩ = some (.slice (some ⟨q, 0, none⟩) 1 1) := HKA.out.cell 2
 have CH := hasForm_sx q L wA (HG.out.below HBA.out HG.out.two) (Nat.lt_of_lt_of_le HL.out HBA.out.size) (rangeAt_below HR.out HBA.out) (rangeAt_below HQ.out HBA.out)
 have HKC := HKA.out.lt
 go_enter Tryz.func8, Tryz.ntmps8
 go_upto_region 1 with fail
 rw [← hwA]
 clear hwA
 obtain ⟨A, hA⟩ : ∃ A, A = w.heap.size := ⟨_, rfl⟩
 rw [← hA] at c0 c1 c2 HKA HKC ⊢
 clear hA
 go_upto_region 3 with (go_at_call 16; refine CH.mono ?_; rintro e w1 ⟨rfl, hb⟩; have HB1 := hdn hb; clear hb)
 clear c0 c1 c2 CH
 obtain ⟨wB, hwB⟩ : ∃ wB : World, wB = w1.alloc (.cells #[.pointer none, .slice none 0 0, .int .i64 0] 61) := ⟨_, rfl⟩
 have HP0 : Hid (Pb w1.heap.size w1.heap.size [] 0 wB) := hdn (by rw [hwB]; exact Pb.new w1)
 have HBB : Hid (Below w1.heap.size w1 wB) := hdn (by rw [hwB]; exact (Below.refl _ _).alloc (Nat.le_refl _) _)
 have HBW : Hid (Below w.heap.size w w1) := hdn (HBA.out.trans (HB1.out.mono HBA.out.size))
 have HBX : Hid (Below w.heap.size w wB) := hdn (HBW.out.trans (HBB.out.mono HBW.out.size))
 have HK1 := hdn ((HKA.out.below HB1.out HKA.out.lt).below HBB.out (HKA.out.below HB1.out HKA.out.lt).lt)
 go_upto_region 4 with fail
 rw [← hwB]
 clear hwB
 obtain ⟨b, hb0⟩ : ∃ b, b = w1.heap.size := ⟨_, rfl⟩
 have c0 : wB.cell? ⟨A, 0, none⟩ = some (.slice none 0 0) := HK1.out.cell 0
 have c1 : wB.cell? ⟨A, 1, none⟩ = some (.slice none 0 0) := HK1.out.cell 1
 have c2 : wB.cell? ⟨A, 2, none⟩ = some (.slice (some ⟨q, 0, none⟩) 1 1) := HK1.out.cell 2
 have CP := program_sx w1.heap.size w1.heap.size q L wB HP0.out HBB.out.size (Nat.lt_of_lt_of_le HL.out HBW.out.size) (Nat.lt_of_lt_of_le HQ0.out HBW.out.size) (rangeAt_below HR.out HBX.out) (rangeAt_below HQ.out HBX.out)
 have HSZ := hdn HBW.out.size
 have HG1 := hdn (HG.out.below HBX.out HG.out.two)
 have HS : Hid (∀ w', Pb w1.heap.size w1.heap.size tProg 0 w' → Calls Tryz.prog 18 #[.pointer (some ⟨w1.heap.size, 0, none⟩)] w' fun e w'' => e = .returned (.string tPB) ∧ Below w1.heap.size w' w'') := hdn (fun w' h => string_any _ _ tProg 0 w' h (by decide))
 rw [← hb0] at CP HS HSZ ⊢
 have HB0 := hdn hb0
 clear hb0
 have HGB : Hid (∀ w', Below w.heap.size wB w' → Gl w') := hdn (fun w' h => HG1.out.below h HG.out.two)
 go_wp2_with (first | (go_at_call 17; refine CP.mono ?_; rintro e w2 ⟨rfl, h2, hb⟩; have HP2 := hdn h2; have HB2 := hdn (Below.mono hb HSZ.out); clear h2 hb) | (go_at_call 18; refine (HS.out _ HP2.out).mono ?_; rintro e w3 ⟨rfl, hb⟩; have HB3 := hdn (HB2.out.trans (hb.mono HSZ.out)); clear hb) | (go_at_call 19; refine (least_sx _ (HGB.out _ HB3.out)).mono ?_; rintro e w4 ⟨rfl, hb⟩; have HB4 := hdn (HB3.out.trans (hb.mono (Nat.le_trans HBX.out.size HB3.out.size))); clear hb))
 refine bodyPost_ret (results_tmp2 rfl _ _ _) rfl ?_
 exact ⟨rfl, HBX.out.trans HB4.out⟩
theorem rightP_sx (q L : Nat) (w : World) (hg : Gl w) (hL : L < w.heap.size) (hq0 : q < w.heap.size) (hr : w.rangeAt L 0 sx.cells) (hq : w.rangeAt q 0 (pcs L)) :
  Calls Tryz.prog 9 #[.agg #[.slice none 0 0, .slice none 0 0, .slice (some ⟨q, 0, none⟩) 1 1]] w fun e w' => e = .returned (.bool true) ∧ Below w.heap.size w w' := by
 obtain ⟨wA, hwA⟩ : ∃ wA : World, wA = w.alloc (.cells #[.slice none 0 0, .slice none 0 0, .slice (some ⟨q, 0, none⟩) 1 1] 26) := ⟨_, rfl⟩
 have HBA : Hid (Below w.heap.size w wA) := hdn (by rw [hwA]; exact (Below.refl _ _).alloc (Nat.le_refl _) _)
 have HKA : Hid (Bk wA w.heap.size 26 #[.slice none 0 0, .slice none 0 0, .slice (some ⟨q, 0, none⟩) 1 1]) := hdn (by rw [hwA]; exact heap_alloc_new _ _)
 have c0 : wA.cell? ⟨w.heap.size, 0, none⟩ = some (.slice none 0 0) := HKA.out.cell 0
 have c1 : wA.cell? ⟨w.heap.size, 1, none⟩ = some (.slice none 0 0) := HKA.out.cell 1
 have c2 : wA.cell? ⟨w.heap.size, 2, none⟩ = some (.slice (some ⟨q, 0, none⟩) 1 1) := HKA.out.cell 2
 have CP := printP_sx q L wA (hg.below HBA.out hg.two) (Nat.lt_of_lt_of_le hL HBA.out.size) (Nat.lt_of_lt_of_le hq0 HBA.out.size) (rangeAt_below hr HBA.out) (rangeAt_below hq HBA.out)
 clear hg hr hq hL hq0
 go_enter Tryz.func9, Tryz.ntmps9
 go_upto_region 1 with fail
 rw [← hwA]
 clear hwA
 obtain ⟨A, hA⟩ : ∃ A, A = w.heap.size := ⟨_, rfl⟩
 rw [← hA] at c0 c1 c2 ⊢
 clear hA
 go_wp2_with (go_at_call 8; refine CP.mono ?_; rintro e w1 ⟨rfl, hb⟩; have HB1 := hdn (HBA.out.trans (hb.mono HBA.out.size)); clear hb)
 go_ret
 exact ⟨rfl, HB1.out⟩
end Go.Proofs.YtdlchhimkelinaaGreatDoor
namespace Go.Proofs.YtdlchhimkelinaaGreatDoor
open Go.RowKit Go.Sort
theorem size26 : (Tryz.prog.info? 26).map (·.size) = some 3 := by kernel_rfl
theorem string_empty (B b : Nat) (op : Int) (w : World) (h : Pb B b [] op w) (hBw : B ≤ w.heap.size) :
  Calls Tryz.prog 18 #[.pointer (some ⟨b, 0, none⟩)] w fun e w' => e = .returned (.string ⟨#[]⟩) ∧ Below B w w' := by
 have hUS : ∀ (W : World) (q : Option Addr), (Builtin.unsafeString_ #[105, 3] 9 #[.pointer q, .int .i64 0]).run Tryz.prog W = .ok (.string .empty) W := fun W q => Lib.run_unsafeString_none W _ _ _ q
 obtain ⟨p, hB, v, hbk, hown, hne⟩ : ∃ p, PbA B b [] op p w := by
  rcases h with h | h
  ·exact ⟨_, h⟩
  ·exact ⟨_, h⟩
 clear h
 rcases hown.2 with ⟨rfl, _⟩ | ⟨g, cap, cur, rfl, hbg, hg, _, _, _, _⟩
 ·have c1 : w.drew.cell? ⟨b, 1, none⟩ = some (.slice none 0 0) := by
   have : w.drew.heap[b]? = some (.cells #[p, .slice none 0 0, .int .i64 op] 61 (0, 0)) := hbk
   exact cell_of_row _ _ 1 _ _ _ this
  have hSD : (Builtin.unsafeSliceData_ #[57] 105 #[.slice none 0 0]).run Tryz.prog w.drew = .ok (.pointer none) w.drew := rfl
  clear hown hne
  go_enter Tryz.func18, Tryz.ntmps18
  go_wp2
  go_region
  all_goals (go_wp2; go_ret; exact ⟨rfl, Below.drew (Below.refl B w)⟩)
 ·have hlt : b < w.heap.size := (Array.getElem?_eq_some_iff.1 hbk).1
  clear hown hne
  by_cases hc0 : cap = 0
  ·subst hc0
   have c1 : w.drew.cell? ⟨b, 1, none⟩ = some (.slice (some ⟨g, 0, none⟩) 0 0) := by
    have : w.drew.heap[b]? = some (.cells #[p, .slice (some ⟨g, 0, none⟩) 0 0, .int .i64 op] 61 (0, 0)) := hbk
    exact cell_of_row _ _ 1 _ _ _ this
   have hSD : (Builtin.unsafeSliceData_ #[57] 105 #[.slice (some ⟨g, 0, none⟩) 0 0]).run Tryz.prog w.drew = .ok (.pointer (some ⟨w.drew.heap.size, 0, none⟩)) (w.drew.alloc (.view ⟨g, 0, none⟩ 5)) :=
    Lib.run_unsafeSliceData_zero w.drew _ _ 5 Tryz.underlying105 ⟨g, 0, none⟩ 0 (5, cur.size) (by have hg' : w.drew.heap[g]? = some (.cells cur 5 (0, 0)) := hg; simp [World.shape?, hg'])
   have c2 : (w.drew.alloc (.view ⟨g, 0, none⟩ 5)).cell? ⟨b, 1, none⟩ = some (.slice (some ⟨g, 0, none⟩) 0 0) := by
    have : (w.drew.alloc (.view ⟨g, 0, none⟩ 5)).heap[b]? = _ := (Lib.alloc_old w.drew _ b hlt).trans hbk
    exact cell_of_row _ _ 1 _ _ _ this
   have c3 : (w.alloc (.view ⟨g, 0, none⟩ 5)).drew.cell? ⟨b, 1, none⟩ = some (.slice (some ⟨g, 0, none⟩) 0 0) := c2
   have c0 : w.cell? ⟨b, 1, none⟩ = some (.slice (some ⟨g, 0, none⟩) 0 0) := c1
   go_enter Tryz.func18, Tryz.ntmps18
   go_wp2
   go_region
   all_goals (go_wp2; go_ret; exact ⟨rfl, (Below.drew (Below.refl B w)).alloc hBw _⟩)
  ·have c1 : w.drew.cell? ⟨b, 1, none⟩ = some (.slice (some ⟨g, 0, none⟩) 0 cap) := by
    have : w.drew.heap[b]? = some (.cells #[p, .slice (some ⟨g, 0, none⟩) 0 cap, .int .i64 op] 61 (0, 0)) := hbk
    exact cell_of_row _ _ 1 _ _ _ this
   have hSD : (Builtin.unsafeSliceData_ #[57] 105 #[.slice (some ⟨g, 0, none⟩) 0 cap]).run Tryz.prog w.drew = .ok (.pointer (some ⟨g, 0, none⟩)) w.drew :=
    Lib.run_unsafeSliceData_row _ _ _ _ _ _ hc0
   clear hc0
   go_enter Tryz.func18, Tryz.ntmps18
   go_wp2
   go_region
   all_goals (go_wp2; go_ret; exact ⟨rfl, Below.drew (Below.refl B w)⟩)
theorem stringX (B b : Nat) (l : List UInt8) (op : Int) (w : World) (h : Pb B b l op w) (hBw : B ≤ w.heap.size) :
  Calls Tryz.prog 18 #[.pointer (some ⟨b, 0, none⟩)] w fun e w' => e = .returned (.string (bt l)) ∧ Below B w w' := by
 by_cases h0 : l = []
 ·subst h0; exact string_empty B b op w h hBw
 ·exact string_any B b l op w h h0
/-- print.Program of a tree that may be, the signs of which are not too many: its text. -/
theorem printP_any (y : Pg) (w : World) (hG : Gp w) (hl : pgLies w y) (ho : Pn.right y = true) (ht : Pn.tightP 8010 y) (hz : Pn.cs (Pn.progK y) ≤ 65000) :
  Calls Tryz.prog 8 #[.agg #[.slice y.structs.p y.structs.l.length y.structs.cap, .slice y.globals.p y.globals.l.length y.globals.cap, .slice y.procs.p y.procs.l.length y.procs.cap]] w fun e w' => e = .returned (.tuple #[.string (bt (Pn.progT y)), .int .i64 0]) ∧ Below w.heap.size w w' := by
 obtain ⟨m, hm1, hm2⟩ := Pn.prog_chain (p := y) (by unfold Pn.right at ho; simp only [Bool.and_eq_true] at ho; exact ho.1.1) (t := bt (Pn.progT y)) rfl
 have hls : Pn.lsum false m ≤ 65001 := by
  have h1 := Pn.lsum_cs m false
  rw [hm2, Pn.cs_app] at h1
  have h2 : Pn.cs [((0 : Int), ([] : List UInt8), (0 : Int))] = 1 := rfl
  omega
 have hts : (bt (Pn.progT y)).size ≤ 5000000 := by
  have := Pn.ln_prog ho
  rw [bt_size]; omega
 have HG := hdn hG; have HL := hdn hl; have HO := hdn ho; have HT := hdn ht; have HM := hdn hm1
 obtain ⟨cs, hcs⟩ : ∃ cs, cs = (#[.slice y.structs.p y.structs.l.length y.structs.cap, .slice y.globals.p y.globals.l.length y.globals.cap, .slice y.procs.p y.procs.l.length y.procs.cap] : Array Value) := ⟨_, rfl⟩
 have HCS := hdn hcs
 obtain ⟨wA, hwA⟩ : ∃ wA : World, wA = w.alloc (.cells cs 26) := ⟨_, rfl⟩
 have HBA : Hid (Below w.heap.size w wA) := hdn (by rw [hwA]; exact (Below.refl _ _).alloc (Nat.le_refl _) _)
 have HKA : Hid (Bk wA w.heap.size 26 cs) := hdn (by rw [hwA]; exact heap_alloc_new _ _)
 have HSI : Hid ((Tryz.prog.info? 26).map (·.size) = some cs.size) := hdn (by rw [hcs]; exact size26)
 have CH : Hid (∀ w', Below w.heap.size w w' → Calls Tryz.prog 16 #[.agg cs] w' fun e w'' => e = .returned (.bool true) ∧ Below w'.heap.size w' w'') := hdn (fun w' hb => by
  rw [HCS.out]; exact hasForm_any y w' (HG.out.gl.below hb HG.out.gl.two) (pgLies_below HL.out hb) HO.out)
 clear hG hl ho ht hz hm1 hm2
 rw [← hcs]
 clear hcs
 go_enter Tryz.func8, Tryz.ntmps8
 go_upto_region 1 with fail
 rw [← hwA]
 clear hwA
 obtain ⟨A, hA⟩ : ∃ A, A = w.heap.size := ⟨_, rfl⟩
 rw [← hA] at HKA ⊢
 have HA := hdn hA
 clear hA
 go_upto_region 3 with (first | ((with_reducible show wpList _ _ _ (Oper.mk (some 6) _ _ _ _ _ :: _) _ _); refine wpList_load_bk rfl 26 (.tmp 1) rfl A 26 cs rfl _ HKA.out Tryz.underlying26 rfl HSI.out ?_) | (go_at_call 16; refine (CH.out _ HBA.out).mono ?_; rintro e w1 ⟨rfl, hb⟩; have HB1 := hdn hb; clear hb))
 obtain ⟨wB, hwB⟩ : ∃ wB : World, wB = w1.alloc (.cells #[.pointer none, .slice none 0 0, .int .i64 0] 61) := ⟨_, rfl⟩
 have HP0 : Hid (Pb w1.heap.size w1.heap.size [] 0 wB) := hdn (by rw [hwB]; exact Pb.new w1)
 have HBB : Hid (Below w1.heap.size w1 wB) := hdn (by rw [hwB]; exact (Below.refl _ _).alloc (Nat.le_refl _) _)
 have HSB : Hid (wB.heap.size = w1.heap.size + 1) := hdn (by rw [hwB]; simp)
 have HBW : Hid (Below w.heap.size w w1) := hdn (HBA.out.trans (HB1.out.mono HBA.out.size))
 have HBX : Hid (Below w.heap.size w wB) := hdn (HBW.out.trans (HBB.out.mono HBW.out.size))
 have HK1 : Hid (Bk wB A 26 cs) := hdn ((HKA.out.below HB1.out HKA.out.lt).below HBB.out (HKA.out.below HB1.out HKA.out.lt).lt)
 go_upto_region 4 with fail
 rw [← hwB]
 clear hwB
 obtain ⟨b, hb0⟩ : ∃ b, b = w1.heap.size := ⟨_, rfl⟩
 have CP : Hid (Calls Tryz.prog 17 #[.pointer (some ⟨w1.heap.size, 0, none⟩), .agg cs] wB fun e w' => e = .returned (.tuple #[]) ∧ Pb w1.heap.size w1.heap.size (Pn.progT y) 0 w' ∧ Below w.heap.size w w' ∧ w1.heap.size ≤ w'.heap.size) := hdn (by
  rw [HCS.out]
  exact programX_any y w w1.heap.size w1.heap.size wB HG.out HL.out HP0.out HBX.out HBW.out.size HBB.out.size HSB.out HO.out HT.out)
 have HSZ := hdn HBW.out.size
 have HS : Hid (∀ w', Pb w1.heap.size w1.heap.size (Pn.progT y) 0 w' → w1.heap.size ≤ w'.heap.size → Calls Tryz.prog 18 #[.pointer (some ⟨w1.heap.size, 0, none⟩)] w' fun e w'' => e = .returned (.string (bt (Pn.progT y))) ∧ Below w1.heap.size w' w'') := hdn (fun w' h hs => stringX _ _ _ 0 w' h hs)
 have HLE : Hid (∀ w', Below w.heap.size w w' → Calls Tryz.prog 19 #[.string (bt (Pn.progT y))] w' fun e w'' => e = .returned (.int .i64 (Pn.lsum false m : Nat)) ∧ Below w'.heap.size w' w'') := hdn (fun w' hb => least_any _ m w' HM.out (HG.out.gl.below hb HG.out.gl.two) hts (by omega))
 rw [← hb0] at CP HS HSZ ⊢
 clear hb0 hts
 have hl2 : ((Pn.lsum false m : Nat) : Int) ≤ 65536 := by omega
 generalize (Pn.lsum false m : Nat) = ls at *
 obtain ⟨tx, htx⟩ : ∃ tx, tx = bt (Pn.progT y) := ⟨_, rfl⟩
 rw [← htx] at HS HLE
 have HTX := hdn htx
 clear htx
 go_wp2_with (first | ((with_reducible show wpList _ _ _ (Oper.mk (some 12) _ _ _ _ _ :: _) _ _); refine wpList_load_bk rfl 26 (.tmp 1) rfl A 26 cs rfl _ HK1.out Tryz.underlying26 rfl HSI.out ?_) | (go_at_call 17; refine CP.out.mono ?_; rintro e w2 ⟨rfl, h2, hb, hs2⟩; have HP2 := hdn h2; have HB2 := hdn hb; have HS2 := hdn hs2; clear h2 hb hs2) | (go_at_call 18; refine (HS.out _ HP2.out HS2.out).mono ?_; rintro e w3 ⟨rfl, hb⟩; have HB3 := hdn (HB2.out.trans (hb.mono HSZ.out)); clear hb) | (go_at_call 19; refine (HLE.out _ HB3.out).mono ?_; rintro e w4 ⟨rfl, hb⟩; have HB4 := hdn (HB3.out.trans (hb.mono HB3.out.size)); clear hb))
 refine bodyPost_ret (results_tmp2 rfl _ _ _) rfl ?_
 exact ⟨by rw [← HTX.out]; rfl, HB4.out⟩
theorem rightX_any (y : Pg) (w : World) (hG : Gp w) (hl : pgLies w y) (ho : Pn.right y = true) (ht : Pn.tightP 8010 y) (hz : Pn.cs (Pn.progK y) ≤ 65000) :
  Calls Tryz.prog 9 #[.agg #[.slice y.structs.p y.structs.l.length y.structs.cap, .slice y.globals.p y.globals.l.length y.globals.cap, .slice y.procs.p y.procs.l.length y.procs.cap]] w fun e w' => e = .returned (.bool true) ∧ Below w.heap.size w w' := by
 obtain ⟨cs, hcs⟩ : ∃ cs, cs = (#[.slice y.structs.p y.structs.l.length y.structs.cap, .slice y.globals.p y.globals.l.length y.globals.cap, .slice y.procs.p y.procs.l.length y.procs.cap] : Array Value) := ⟨_, rfl⟩
 obtain ⟨wA, hwA⟩ : ∃ wA : World, wA = w.alloc (.cells cs 26) := ⟨_, rfl⟩
 have HBA : Hid (Below w.heap.size w wA) := hdn (by rw [hwA]; exact (Below.refl _ _).alloc (Nat.le_refl _) _)
 have HKA : Hid (Bk wA w.heap.size 26 cs) := hdn (by rw [hwA]; exact heap_alloc_new _ _)
 have HSI : Hid ((Tryz.prog.info? 26).map (·.size) = some cs.size) := hdn (by rw [hcs]; exact size26)
 have CP : Hid (Calls Tryz.prog 8 #[.agg cs] wA fun e w' => e = .returned (.tuple #[.string (bt (Pn.progT y)), .int .i64 0]) ∧ Below wA.heap.size wA w') := hdn (by
  rw [hcs]; exact printP_any y wA (hG.go HBA.out) (pgLies_below hl HBA.out) ho ht hz)
 rw [← hcs]
 clear hG hl ho ht hz hcs
 generalize bt (Pn.progT y) = tx at *
 go_enter Tryz.func9, Tryz.ntmps9
 go_upto_region 1 with fail
 rw [← hwA]
 clear hwA
 obtain ⟨A, hA⟩ : ∃ A, A = w.heap.size := ⟨_, rfl⟩
 rw [← hA] at HKA ⊢
 clear hA
 go_wp2_with (first | ((with_reducible show wpList _ _ _ (Oper.mk (some 6) _ _ _ _ _ :: _) _ _); refine wpList_load_bk rfl 26 (.tmp 1) rfl A 26 cs rfl _ HKA.out Tryz.underlying26 rfl HSI.out ?_) | (go_at_call 8; refine CP.out.mono ?_; rintro e w1 ⟨rfl, hb⟩; have HB1 := hdn (HBA.out.trans (hb.mono HBA.out.size)); clear hb))
 go_ret
 exact ⟨rfl, HB1.out⟩
end Go.Proofs.YtdlchhimkelinaaGreatDoor
namespace Go.Proofs.YtdlchhimkelinaaGreatDoor
open Go.RowKit Go.Sort
namespace Pa
open Pr (St Res th noTm noPth noVl noCd noHd th_ok)
section
variable (l : List Tx.Sg)
/-- The signs without places. -/
abbrev ts : List Pr.Tk := l.map Pr.tk
def sg (i : Nat) : Tx.Sg := l.getD i ⟨0, 0, ByteArray.empty, 0⟩
def name (u : St) : Res Tx.Sg := if (sg l u.i).kind = 1 then .ok (sg l u.i, u.go) else .error (5, u.i)
def hops : Nat → List Hp → St → Res (List Hp)
 | 0, acc, u => if Pr.is (ts l) u.i ⟨#[45, 62]⟩ then .error (11, u.i) else .ok (acc, u)
 | n + 1, acc, u => if Pr.is (ts l) u.i ⟨#[45, 62]⟩ then (th (name l u.go) fun x v => hops n (acc ++ [⟨x.text, (sg l u.i).pos⟩]) v) else .ok (acc, u)
def path (u : St) : Res Pth :=
 th (name l u) fun x u =>
 th (hops l 8 [] u) fun l u =>
 .ok (⟨x.text, x.pos, ⟨none, 0, l⟩⟩, u)
def term (u : St) : Res Tm :=
 if (sg l u.i).kind = 2 then .ok (⟨ByteArray.empty, (sg l u.i).num, (sg l u.i).pos⟩, u.go)
 else
  th (name l u) fun x u =>
  .ok (⟨x.text, 0, x.pos⟩, u)
def side (u : St) : Res Vl :=
 if Pr.is (ts l) u.i ⟨#[110, 117, 108, 108]⟩ then .ok ({ noVl with pos := (sg l u.i).pos }, u.go)
 else if (sg l u.i).kind = 2 then
  th (term l u) fun x v =>
  .ok ({ noVl with kind := 4, pos := (sg l u.i).pos, left := x }, v)
 else
  th (path l u) fun x v =>
  .ok ({ noVl with kind := 1, pos := (sg l u.i).pos, path := x }, v)
def sum (u : St) : Res Vl :=
 th (term l u) fun x v =>
 th (term l v.go) fun y z =>
 .ok ({ noVl with kind := if Pr.is (ts l) v.i ⟨#[45]⟩ then 6 else 5, pos := (sg l u.i).pos, left := x, right := y }, z)
def value (u : St) : Res Vl :=
 if Pr.is (ts l) u.i ⟨#[110, 101, 119]⟩ then
  th (name l u.go) fun x v =>
  .ok ({ noVl with kind := 2, pos := (sg l u.i).pos, type := x.text }, v)
 else if Pr.is (ts l) u.i ⟨#[105, 110, 112, 117, 116]⟩ then .ok ({ noVl with kind := 3, pos := (sg l u.i).pos }, u.go)
 else if Pr.sums (ts l) u then sum l u else side l u
def cond (u : St) : Res Cd :=
 if Pr.is (ts l) u.i ⟨#[63]⟩ then .ok ({ noCd with pos := (sg l u.i).pos }, u.go)
 else
  th (side l u) fun x v =>
  th (Pr.relation (ts l) v) fun k v =>
  th (side l v) fun y v =>
  .ok (⟨k, (sg l u.i).pos, x, y⟩, v)
def held (u : St) : Res Cd :=
 th (Pr.must (ts l) ⟨#[40]⟩ u) fun _ u =>
 th (cond l u) fun c u =>
 th (Pr.must (ts l) ⟨#[41]⟩ u) fun _ u =>
 .ok (c, u)
def pointer (u : St) : Res Dc :=
 th (name l u) fun x u =>
 th (Pr.must (ts l) ⟨#[42]⟩ u) fun _ u =>
 th (name l u) fun y u =>
 .ok (⟨x.text, y.text, y.pos⟩, u)
def variable_ (u : St) : Res Dc :=
 if Pr.is (ts l) u.i ⟨#[105, 110, 116]⟩ then
  th (name l u.go) fun x u =>
  .ok (⟨ByteArray.empty, x.text, x.pos⟩, u)
 else pointer l u
def decl (u : St) : Res Dc :=
 th (variable_ l u) fun d u =>
 th (Pr.must (ts l) ⟨#[59]⟩ u) fun _ u =>
 .ok (d, u)
def block (rec : St → Res SL) (u : St) : Res SL := Pr.block (ts l) rec u
def free (u : St) : Res Hd :=
 th (Pr.must (ts l) ⟨#[102, 114, 101, 101]⟩ u) fun _ v =>
 th (Pr.must (ts l) ⟨#[40]⟩ v) fun _ v =>
 th (path l v) fun x v =>
 th (Pr.must (ts l) ⟨#[41]⟩ v) fun _ v =>
 th (Pr.must (ts l) ⟨#[59]⟩ v) fun _ v =>
 .ok ({ noHd with kind := 2, pos := (sg l u.i).pos, place := x }, v)
def branch (rec : St → Res SL) (u : St) : Res (Hd × SL × SL) :=
 th (Pr.must (ts l) ⟨#[105, 102]⟩ u) fun _ v =>
 th (held l v) fun c v =>
 th (block l rec v) fun a v =>
 if Pr.is (ts l) v.i ⟨#[101, 108, 115, 101]⟩ then
  th (block l rec v.go) fun e v =>
  .ok (({ noHd with kind := 4, pos := (sg l u.i).pos, cond := c, both := true }, a, e), v)
 else .ok (({ noHd with kind := 4, pos := (sg l u.i).pos, cond := c }, a, .nil), v)
def loop (rec : St → Res SL) (u : St) : Res (Hd × SL × SL) :=
 th (Pr.must (ts l) ⟨#[119, 104, 105, 108, 101]⟩ u) fun _ v =>
 th (held l v) fun c v =>
 th (block l rec v) fun a v =>
 .ok (({ noHd with kind := 5, pos := (sg l u.i).pos, cond := c }, a, .nil), v)
def named (u : St) : Res Hd :=
 if Pr.is (ts l) (u.i + 1) ⟨#[40]⟩ then
  th (name l u) fun x v =>
  th (Pr.listed (ts l) (side l) v) fun a v =>
  th (Pr.must (ts l) ⟨#[59]⟩ v) fun _ v =>
  .ok ({ noHd with kind := 3, pos := (sg l u.i).pos, name := x.text, args := ⟨none, 0, a⟩ }, v)
 else
  th (path l u) fun x v =>
  th (Pr.must (ts l) ⟨#[61]⟩ v) fun _ v =>
  th (value l v) fun y v =>
  th (Pr.must (ts l) ⟨#[59]⟩ v) fun _ v =>
  .ok ({ noHd with kind := 1, pos := (sg l u.i).pos, place := x, value := y }, v)
def stmt (rec : St → Res SL) (u : St) : Res (Hd × SL × SL) :=
 th (Pr.count (ts l) u) fun _ u =>
 if Pr.is (ts l) u.i ⟨#[59]⟩ then .ok (({ noHd with pos := (sg l u.i).pos }, .nil, .nil), u.go)
 else if Pr.is (ts l) u.i ⟨#[123]⟩ then
  th (block l rec u) fun a v =>
  .ok (({ noHd with kind := 6, pos := (sg l u.i).pos }, a, .nil), v)
 else if Pr.is (ts l) u.i ⟨#[102, 114, 101, 101]⟩ then
  th (free l u) fun h u =>
  .ok ((h, .nil, .nil), u)
 else if Pr.is (ts l) u.i ⟨#[105, 102]⟩ then branch l rec u
 else if Pr.is (ts l) u.i ⟨#[119, 104, 105, 108, 101]⟩ then loop l rec u
 else
  th (named l u) fun h u =>
  .ok ((h, .nil, .nil), u)
def stmts : Nat → St → Res SL
 | 0, _ => .error (0, 0)
 | n + 1, u =>
  if Pr.begins (ts l) u then
   th (stmt l (stmts n) u) fun (h, a, e) u =>
   th (stmts n u) fun r u =>
   .ok (.cons h none 0 a none 0 e r, u)
  else .ok (.nil, u)
def fields : Nat → List Dc → St → Res (List Dc)
 | 0, _, _ => .error (0, 0)
 | n + 1, acc, u =>
  if Pr.is (ts l) u.i ⟨#[125]⟩ then .ok (acc, u.go)
  else
   th (pointer l u) fun d u =>
   th (Pr.must (ts l) ⟨#[59]⟩ u) fun _ u =>
   fields n (acc ++ [d]) u
def structure_ (u : St) : Res Sr :=
 th (Pr.must (ts l) ⟨#[115, 116, 114, 117, 99, 116]⟩ u) fun _ u =>
 th (name l u) fun x u =>
 th (Pr.must (ts l) ⟨#[123]⟩ u) fun _ u =>
 th (fields l ((ts l).length + 1) [] u) fun a u =>
 .ok (⟨x.text, x.pos, ⟨none, 0, a⟩⟩, u)
def locals : Nat → List Dc → St → Res (List Dc)
 | 0, _, _ => .error (0, 0)
 | n + 1, acc, u => if Pr.declares (ts l) u then (th (decl l u) fun d u => locals n (acc ++ [d]) u) else .ok (acc, u)
end
/-- With places and without, step by step. -/
def Like {α β : Type} (f : α → β) (r : Res α) (s : Res β) : Prop :=
 match r, s with
 | .ok (a, u), .ok (b, v) => f a = b ∧ u = v
 | .error e, .error e' => e = e'
 | _, _ => False
theorem Like.th {α β γ δ : Type} {f : α → β} {g : γ → δ} {r : Res α} {s : Res β} {h : α → St → Res γ} {k : β → St → Res δ} (h1 : Like f r s) (h2 : ∀ a u, Like g (h a u) (k (f a) u)) : Like g (Pr.th r h) (Pr.th s k) := by
 unfold Like at h1
 split at h1
 ·obtain ⟨rfl, rfl⟩ := h1; exact h2 _ _
 ·subst h1; exact rfl
 ·exact h1.elim
theorem Like.id {α : Type} (r : Res α) : Like (fun a => a) r r := by
 cases r with
 | error e => exact rfl
 | ok x => exact ⟨rfl, rfl⟩
theorem Like.ok {α β : Type} {f : α → β} {a : α} {b : β} {u : St} (h : f a = b) : Like f (.ok (a, u)) (.ok (b, u)) := ⟨h, rfl⟩
theorem Like.ite {α β : Type} {f : α → β} {c : Prop} [Decidable c] {r1 r2 : Res α} {s1 s2 : Res β} (h1 : Like f r1 s1) (h2 : Like f r2 s2) : Like f (if c then r1 else r2) (if c then s1 else s2) := by
 split
 ·exact h1
 ·exact h2
section
variable {l : List Tx.Sg}
theorem sg_tk (i : Nat) : Pr.tk (sg l i) = Pr.sg (ts l) i := by
 unfold sg Pr.sg
 rw [List.getD_eq_getElem?_getD, List.getD_eq_getElem?_getD, List.getElem?_map]
 cases l[i]? <;> rfl
theorem kind_tk (i : Nat) : (sg l i).kind = (Pr.sg (ts l) i).kind := by rw [← sg_tk]; rfl
theorem num_tk (i : Nat) : (sg l i).num = (Pr.sg (ts l) i).num := by rw [← sg_tk]; rfl
theorem name_er (u : St) : Like Pr.tk (name l u) (Pr.name (ts l) u) := by
 unfold name Pr.name
 rw [kind_tk]
 exact Like.ite (Like.ok (sg_tk _)) rfl
theorem hops_er : ∀ (n : Nat) (acc : List Hp) (u : St), Like (List.map Hp.er) (hops l n acc u) (Pr.hops (ts l) n (acc.map Hp.er) u)
 | 0, acc, u => by
  unfold hops Pr.hops
  exact Like.ite rfl (Like.ok rfl)
 | n + 1, acc, u => by
  unfold hops Pr.hops
  refine Like.ite (Like.th (name_er _) fun x v => ?_) (Like.ok rfl)
  have := hops_er n (acc ++ [⟨x.text, (sg l u.i).pos⟩]) v
  rw [List.map_append] at this
  exact this
theorem path_er (u : St) : Like Pth.er (path l u) (Pr.path (ts l) u) :=
 Like.th (name_er u) fun _ v => Like.th (hops_er 8 [] v) fun _ _ => Like.ok rfl
theorem term_er (u : St) : Like Tm.er (term l u) (Pr.term (ts l) u) := by
 unfold term Pr.term
 rw [kind_tk]
 refine Like.ite (Like.ok ?_) (Like.th (name_er u) fun _ _ => Like.ok rfl)
 show (⟨_, _, _⟩ : Tm) = ⟨_, _, _⟩
 rw [← num_tk]
theorem side_er (u : St) : Like Vl.er (side l u) (Pr.side (ts l) u) := by
 unfold side Pr.side
 rw [kind_tk]
 exact Like.ite (Like.ok rfl) (Like.ite (Like.th (term_er u) fun _ _ => Like.ok rfl) (Like.th (path_er u) fun _ _ => Like.ok rfl))
theorem must_er (x : ByteArray) (u : St) : Like (fun a => a) (Pr.must (ts l) x u) (Pr.must (ts l) x u) := Like.id _
theorem sum_er (u : St) : Like Vl.er (sum l u) (Pr.sum (ts l) u) := by
 unfold sum Pr.sum
 refine Like.th (term_er u) fun _ v => Like.th (term_er v.go) fun _ _ => Like.ok ?_
 rfl
theorem value_er (u : St) : Like Vl.er (value l u) (Pr.value (ts l) u) := by
 unfold value Pr.value
 exact Like.ite (Like.th (name_er u.go) fun _ _ => Like.ok rfl) (Like.ite (Like.ok rfl) (Like.ite (sum_er u) (side_er u)))
theorem cond_er (u : St) : Like Cd.er (cond l u) (Pr.cond (ts l) u) := by
 unfold cond Pr.cond
 exact Like.ite (Like.ok rfl) (Like.th (side_er u) fun _ v => Like.th (Like.id (Pr.relation (ts l) v)) fun _ v => Like.th (side_er v) fun _ _ => Like.ok rfl)
theorem held_er (u : St) : Like Cd.er (held l u) (Pr.held (ts l) u) :=
 Like.th (must_er _ u) fun _ v => Like.th (cond_er v) fun _ v => Like.th (must_er _ v) fun _ _ => Like.ok rfl
theorem pointer_er (u : St) : Like Dc.er (pointer l u) (Pr.pointer (ts l) u) :=
 Like.th (name_er u) fun _ v => Like.th (must_er _ v) fun _ v => Like.th (name_er v) fun _ _ => Like.ok rfl
theorem variable_er (u : St) : Like Dc.er (variable_ l u) (Pr.variable_ (ts l) u) := by
 unfold variable_ Pr.variable_
 exact Like.ite (Like.th (name_er u.go) fun _ _ => Like.ok rfl) (pointer_er u)
theorem decl_er (u : St) : Like Dc.er (decl l u) (Pr.decl (ts l) u) :=
 Like.th (variable_er u) fun _ v => Like.th (must_er _ v) fun _ _ => Like.ok rfl
theorem more_er {α β : Type} {f : α → β} {item : St → Res α} {jtem : St → Res β} (h : ∀ u, Like f (item u) (jtem u)) : ∀ (n : Nat) (acc : List α) (u : St), Like (List.map f) (Pr.more (ts l) item n acc u) (Pr.more (ts l) jtem n (acc.map f) u)
 | 0, _, _ => rfl
 | n + 1, acc, u => by
  unfold Pr.more
  refine Like.ite (Like.th (h _) fun x v => ?_) (Like.th (must_er _ u) fun _ _ => Like.ok rfl)
  have := more_er h n (acc ++ [x]) v
  rw [List.map_append] at this
  exact this
theorem listed_er {α β : Type} {f : α → β} {item : St → Res α} {jtem : St → Res β} (h : ∀ u, Like f (item u) (jtem u)) (u : St) : Like (List.map f) (Pr.listed (ts l) item u) (Pr.listed (ts l) jtem u) := by
 unfold Pr.listed
 exact Like.th (must_er _ u) fun _ v => Like.ite (Like.ok rfl) (Like.th (h v) fun x v => more_er h _ [x] v)
section
variable {rec rec' : St → Res SL} (h : ∀ u, Like SL.er (rec u) (rec' u))
include h
theorem block_er (u : St) : Like SL.er (block l rec u) (Pr.block (ts l) rec' u) := by
 unfold block Pr.block
 exact Like.th (Like.id _) fun _ v => Like.th (must_er _ v) fun _ v => Like.th (h _) fun _ v => Like.th (must_er _ v) fun _ _ => Like.ok rfl
def er3 (x : Hd × SL × SL) : Hd × SL × SL := (x.1.er, x.2.1.er, x.2.2.er)
omit h in
theorem free_er (u : St) : Like Hd.er (free l u) (Pr.free (ts l) u) :=
 Like.th (must_er _ u) fun _ v => Like.th (must_er _ v) fun _ v => Like.th (path_er v) fun _ v => Like.th (must_er _ v) fun _ v => Like.th (must_er _ v) fun _ _ => Like.ok rfl
theorem branch_er (u : St) : Like er3 (branch l rec u) (Pr.branch (ts l) rec' u) := by
 unfold branch Pr.branch
 exact Like.th (must_er _ u) fun _ v => Like.th (held_er v) fun _ v => Like.th (block_er h v) fun _ v => Like.ite (Like.th (block_er h v.go) fun _ _ => Like.ok rfl) (Like.ok rfl)
theorem loop_er (u : St) : Like er3 (loop l rec u) (Pr.loop (ts l) rec' u) :=
 Like.th (must_er _ u) fun _ v => Like.th (held_er v) fun _ v => Like.th (block_er h v) fun _ _ => Like.ok rfl
omit h in
theorem named_er (u : St) : Like Hd.er (named l u) (Pr.named (ts l) u) := by
 unfold named Pr.named
 exact Like.ite (Like.th (name_er u) fun _ v => Like.th (listed_er side_er v) fun _ v => Like.th (must_er _ v) fun _ _ => Like.ok rfl)
  (Like.th (path_er u) fun _ v => Like.th (must_er _ v) fun _ v => Like.th (value_er v) fun _ v => Like.th (must_er _ v) fun _ _ => Like.ok rfl)
theorem stmt_er (u : St) : Like er3 (stmt l rec u) (Pr.stmt (ts l) rec' u) := by
 unfold stmt Pr.stmt
 exact Like.th (Like.id _) fun _ v => Like.ite (Like.ok rfl) (Like.ite (Like.th (block_er h v) fun _ _ => Like.ok rfl) (Like.ite (Like.th (free_er v) fun _ _ => Like.ok rfl)
  (Like.ite (branch_er h v) (Like.ite (loop_er h v) (Like.th (named_er v) fun _ _ => Like.ok rfl)))))
end
theorem stmts_er : ∀ (n : Nat) (u : St), Like SL.er (stmts l n u) (Pr.stmts (ts l) n u)
 | 0, _ => rfl
 | n + 1, u => by
  unfold stmts Pr.stmts
  exact Like.ite (Like.th (stmt_er (stmts_er n) u) fun _ v => Like.th (stmts_er n v) fun _ _ => Like.ok rfl) (Like.ok rfl)
theorem fields_er : ∀ (n : Nat) (acc : List Dc) (u : St), Like (List.map Dc.er) (fields l n acc u) (Pr.fields (ts l) n (acc.map Dc.er) u)
 | 0, _, _ => rfl
 | n + 1, acc, u => by
  unfold fields Pr.fields
  refine Like.ite (Like.ok rfl) (Like.th (pointer_er u) fun d v => Like.th (must_er _ v) fun _ v => ?_)
  have := fields_er n (acc ++ [d]) v
  rw [List.map_append] at this
  exact this
theorem structure_er (u : St) : Like Sr.er (structure_ l u) (Pr.structure_ (ts l) u) :=
 Like.th (must_er _ u) fun _ v => Like.th (name_er v) fun _ v => Like.th (must_er _ v) fun _ v => Like.th (fields_er _ [] v) fun _ _ => Like.ok rfl
theorem locals_er : ∀ (n : Nat) (acc : List Dc) (u : St), Like (List.map Dc.er) (locals l n acc u) (Pr.locals (ts l) n (acc.map Dc.er) u)
 | 0, _, _ => rfl
 | n + 1, acc, u => by
  unfold locals Pr.locals
  refine Like.ite (Like.th (decl_er u) fun d v => ?_) (Like.ok rfl)
  have := locals_er n (acc ++ [d]) v
  rw [List.map_append] at this
  exact this
end
section
variable (l : List Tx.Sg)
def proc (u : St) : Res Pc :=
 th (Pr.must (ts l) ⟨#[118, 111, 105, 100]⟩ u) fun _ u =>
 th (name l u) fun x u =>
 th (Pr.listed (ts l) (variable_ l) u) fun ps u =>
 th (Pr.must (ts l) ⟨#[123]⟩ u) fun _ u =>
 th (locals l ((ts l).length + 1) [] u) fun ls u =>
 th (stmts l ((ts l).length + 1) u) fun body v =>
 th (Pr.must (ts l) ⟨#[125]⟩ v) fun _ z =>
 .ok (⟨x.text, x.pos, (sg l v.i).pos, ⟨none, 0, ps⟩, ⟨none, 0, ls⟩, none, 0, body⟩, z)
def program : Nat → List Sr → List Dc → List Pc → St → Res Pg
 | 0, _, _, _, _ => .error (0, 0)
 | n + 1, ss, gs, ps, u =>
  if (sg l u.i).kind = 0 then .ok (⟨⟨none, 0, ss⟩, ⟨none, 0, gs⟩, ⟨none, 0, ps⟩⟩, u)
  else if Pr.is (ts l) u.i ⟨#[115, 116, 114, 117, 99, 116]⟩ then (th (structure_ l u) fun x u => program n (ss ++ [x]) gs ps u)
  else if Pr.is (ts l) u.i ⟨#[118, 111, 105, 100]⟩ then (th (proc l u) fun x u => program n ss gs (ps ++ [x]) u)
  else (th (decl l u) fun x u => program n ss (gs ++ [x]) ps u)
theorem proc_er (u : St) : Like Pc.er (proc l u) (Pr.proc (ts l) u) :=
 Like.th (must_er _ u) fun _ v => Like.th (name_er v) fun _ v => Like.th (listed_er variable_er v) fun _ v => Like.th (must_er _ v) fun _ v => Like.th (locals_er _ [] v) fun _ v => Like.th (stmts_er _ v) fun _ v => Like.th (must_er _ v) fun _ _ => Like.ok rfl
theorem program_er : ∀ (n : Nat) (ss : List Sr) (gs : List Dc) (ps : List Pc) (u : St), Like Pg.er (program l n ss gs ps u) (Pr.program (ts l) n (ss.map Sr.er) (gs.map Dc.er) (ps.map Pc.er) u)
 | 0, _, _, _, _ => rfl
 | n + 1, ss, gs, ps, u => by
  unfold program Pr.program
  rw [kind_tk]
  refine Like.ite (Like.ok rfl) (Like.ite (Like.th (structure_er u) fun x v => ?_) (Like.ite (Like.th (proc_er l u) fun x v => ?_) (Like.th (decl_er u) fun x v => ?_)))
  ·have := program_er n (ss ++ [x]) gs ps v; rw [List.map_append] at this; exact this
  ·have := program_er n ss gs (ps ++ [x]) v; rw [List.map_append] at this; exact this
  ·have := program_er n ss (gs ++ [x]) ps v; rw [List.map_append] at this; exact this
end
end Pa
end Go.Proofs.YtdlchhimkelinaaGreatDoor
namespace Go.Proofs.YtdlchhimkelinaaGreatDoor
open Go.RowKit Go.Sort
namespace Pa
/-- A text and the kind of its sign. -/
def KindOk (k : Int) (a : List UInt8) : Prop :=
 (k = 0 ∧ a = []) ∨ (k = 1 ∧ (∃ b r, a = b :: r ∧ Tx.ltr (b.toNat : Int) = true) ∧ Tx.isKeyL a = false) ∨ (k = 2 ∧ ∃ b r, a = b :: r ∧ Tx.ltr (b.toNat : Int) = false ∧ Tx.dgt (b.toNat : Int) = true) ∨
 (k = 3 ∧ Tx.isKeyL a = true ∧ ∃ b r, a = b :: r ∧ Tx.ltr (b.toNat : Int) = true) ∨ (k = 4 ∧ ∃ b r, a = b :: r ∧ Tx.ltr (b.toNat : Int) = false ∧ Tx.dgt (b.toNat : Int) = false)
theorem tokL_kind (D : List UInt8) : KindOk (Tx.tokL D).kind (D.take (Tx.tokL D).len) := by
 cases D with
 | nil => exact .inl ⟨rfl, rfl⟩
 | cons b l =>
  rw [Tx.tokL_cons]
  by_cases hl : Tx.ltr (b.toNat : Int) = true
  ·rw [if_pos hl]
   by_cases h16 : 16 < Tx.run Tx.wrd (b :: l)
   ·rw [if_pos h16]; exact .inl ⟨rfl, rfl⟩
   ·rw [if_neg h16]
    have hw : Tx.wrd (b.toNat : Int) = true := by unfold Tx.wrd; rw [hl]; rfl
    have hrun : Tx.run Tx.wrd (b :: l) = Tx.run Tx.wrd l + 1 := by simp only [Tx.run, hw, if_true]
    by_cases hk : Tx.isKeyL ((b :: l).take (Tx.run Tx.wrd (b :: l))) = true
    ·rw [if_pos hk]
     exact .inr (.inr (.inr (.inl ⟨rfl, hk, b, _, by rw [hrun, List.take_succ_cons], hl⟩)))
    ·rw [if_neg hk]
     exact .inr (.inl ⟨rfl, ⟨b, _, by rw [hrun, List.take_succ_cons], hl⟩, by simpa using hk⟩)
  ·rw [if_neg hl]
   have hl' : Tx.ltr (b.toNat : Int) = false := by simpa using hl
   by_cases hg : Tx.dgt (b.toNat : Int) = true
   ·rw [if_pos hg]
    by_cases h9 : 9 < Tx.run Tx.dgt (b :: l)
    ·rw [if_pos h9]; exact .inl ⟨rfl, rfl⟩
    ·rw [if_neg h9]
     have hrun : Tx.run Tx.dgt (b :: l) = Tx.run Tx.dgt l + 1 := by simp only [Tx.run, hg, if_true]
     exact .inr (.inr (.inl ⟨rfl, b, _, by rw [hrun, List.take_succ_cons], hl', hg⟩))
   ·rw [if_neg hg]
    have hg' : Tx.dgt (b.toNat : Int) = false := by simpa using hg
    split
    ·exact .inl ⟨rfl, rfl⟩
    ·rename_i h0
     refine .inr (.inr (.inr (.inr ⟨rfl, b, ?_, ?_, hl', hg'⟩)))
     ·exact l.take (Tx.mkl (b :: l) - 1)
     ·rw [show Tx.mkl (b :: l) = (Tx.mkl (b :: l) - 1) + 1 by omega, List.take_succ_cons]; rfl
theorem nx_kind (s : ByteArray) (i : Nat) : KindOk (Tx.nx s i).sg.kind (Tx.nx s i).sg.text.data.toList := by
 have h := Tx.nx_list s i
 have hp := Tx.part_take s (Tx.skp s i) (Tx.tokL (s.data.toList.drop (Tx.skp s i))).len
 have hg := tokL_kind (s.data.toList.drop (Tx.skp s i))
 rw [← hp] at hg
 rw [h]; exact hg
theorem chain_kind : ∀ (l : List Tx.Sg) (s : ByteArray) (i : Nat), Tx.Chain s i l → ∀ a ∈ l, KindOk a.kind a.text.data.toList
 | [], s, i, h => h.elim
 | b :: l, s, i, h => by
  obtain ⟨_, rfl, h1⟩ := h
  intro a ha
  rcases List.mem_cons.1 ha with rfl | ha
  ·exact nx_kind s i
  ·rcases h1 with ⟨_, rfl⟩ | ⟨_, hc⟩
   ·simp at ha
   ·exact chain_kind l s _ hc a ha
/-- The kinds of all signs hang on their texts. -/
def Gk (l : List Tx.Sg) : Prop := ∀ a ∈ l, KindOk a.kind a.text.data.toList
theorem alls_kind (s : ByteArray) (h : (Tx.alls s).2.2 = 0) : Gk (Tx.alls s).1 := chain_kind _ s 0 (Tx.alls_chain s h)
theorem key_letter {a : List UInt8} (h : Tx.isKeyL a = true) : ∃ b r, a = b :: r ∧ Tx.ltr (b.toNat : Int) = true := by
 unfold Tx.isKeyL at h
 obtain ⟨x, hx, he⟩ := List.any_eq_true.1 h
 rw [beq_iff_eq] at he
 subst he
 simp only [Tx.kw, List.mem_cons, List.not_mem_nil, or_false] at hx
 rcases hx with rfl | rfl | rfl | rfl | rfl | rfl | rfl | rfl | rfl | rfl <;> exact ⟨_, _, rfl, by rfl⟩
/-- A key, or a mark. -/
def lit (a : List UInt8) : Bool := Tx.isKeyL a || (match a with | [] => false | b :: _ => !Tx.ltr (b.toNat : Int) && !Tx.dgt (b.toNat : Int))
def litM (a : List UInt8) : Bool := match a with | [] => false | b :: _ => !Tx.ltr (b.toNat : Int) && !Tx.dgt (b.toNat : Int)
theorem kind_mark {k : Int} {a : List UInt8} (h : KindOk k a) (ha : litM a = true) : k = 4 := by
 rcases h with ⟨_, rfl⟩ | ⟨_, ⟨b, r, rfl, hb⟩, _⟩ | ⟨_, b, r, rfl, _, hb⟩ | ⟨_, _, b, r, rfl, hb⟩ | ⟨h, _⟩
 ·cases ha
 ·simp [litM, hb] at ha
 ·simp [litM, hb] at ha
 ·simp [litM, hb] at ha
 ·exact h
theorem kind_lit {k : Int} {a : List UInt8} (h : KindOk k a) (ha : lit a = true) : k = 3 ∨ k = 4 := by
 unfold lit at ha
 rw [Bool.or_eq_true] at ha
 rcases ha with hk | hm
 ·rcases h with ⟨_, rfl⟩ | ⟨_, _, hn⟩ | ⟨_, b, r, rfl, hl, hb⟩ | ⟨h, _⟩ | ⟨h, _⟩
  ·exact absurd hk (by decide)
  ·rw [hk] at hn; cases hn
  ·obtain ⟨b', r', he, hb'⟩ := key_letter hk
   injection he with he; subst he; rw [hl] at hb'; cases hb'
  ·exact .inl h
  ·exact .inr h
 ·exact .inr (kind_mark h (by unfold litM; exact hm))
end Pa
end Go.Proofs.YtdlchhimkelinaaGreatDoor
