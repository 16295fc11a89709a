/-
  The printer's judge, true ways: names, hops, paths, numbers, terms, declarations, structs. The printer's judge, true ways: values, sides, conditions. The walks of besides, for all kinds. The walk of besides at a branch, a loop. The walk of besides at a branch, a loop. The walk of besides at a branch
-/
import Derived.Test.YtdlchhimkelinaaGreatDoorK05
import Derived.Test.YtdlchhimkelinaaGreatDoorK04
import Derived.Lib.QuietBelow
set_option maxHeartbeats 6400000
set_option maxRecDepth 100000
namespace Go.Proofs.YtdlchhimkelinaaGreatDoor
open Go.RowKit Go.Sort
theorem isName_ok (n : ByteArray) (w : World) (hg : Gl w) (hn : Pn.okN n = true) : Calls Tryz.prog 79 #[.string n] w fun e w' => e = .returned (.bool true) ∧ w = w' := by
 obtain ⟨hs, hb⟩ := Pn.okN_nameB hn
 have CN := isNameLex_any n w (by omega) hg
 rwa [hb] at CN
theorem isHop_any (x : Hp) (b o : Nat) (w : World) (hg : Gl w) (ho : Pn.okN x.name = true) (hr : w.rangeAt b o x.cells) :
  Calls Tryz.prog 174 #[.pointer (some ⟨b, o, none⟩)] w fun e w' => e = .returned (.bool true) ∧ w = w' := by
 have c0 : w.cell? ⟨b, o, none⟩ = some (.string x.name) := cell_at hr 0 _ rfl
 have CN := isName_ok x.name w hg ho
 clear hg ho hr
 go_enter Tryz.func174, Tryz.ntmps174
 go_wp2_with (go_at_call 79; refine CN.mono ?_; rintro e w1 ⟨rfl, rfl⟩)
 go_ret
 exact ⟨rfl, rfl⟩
theorem enters174 : ∀ args w, (callFunc 174 args).run Tryz.prog w = .ok (.enter 174 args) w := enters Tryz.func174 (by kernel_rfl) rfl
theorem allHp_any (l : List Hp) (p : Option Addr) (c : Nat) (w : World) (hg : Gl w) (h1 : Lay 2 Hp.cells triv w p l) (ho : ∀ x ∈ l, Pn.okN x.name = true) :
  Calls Tryz.prog 173 #[.slice p l.length c, .func (.func 174) #[] #[]] w fun e w' => e = .returned (.bool true) ∧ w = w' := by
 obtain ⟨hl, h1⟩ := h1
 have H1 := hdn h1; have HO := hdn ho; have HG := hdn hg
 clear h1 ho hg
 have hcl := enters174
 go_enter Tryz.func173, Tryz.ntmps173
 go_wp2_with fail
 go_loop [8] (fun i => ∃ n : Nat, n ≤ l.length ∧ i = .int .i64 n) (fun i => l.length - (intOf i).toNat)
 case atStart => exact ⟨0, Nat.zero_le _, rfl⟩
 case round =>
  obtain ⟨n, hn, rfl⟩ := hrel
  by_cases hnl : n < l.length
  ·obtain ⟨b1, o1, rfl, hx⟩ : ∃ b o, p = some ⟨b, o, none⟩ ∧ ∀ k x, l[k]? = some x → w.rangeAt b (o + k * 2) (Hp.cells x) ∧ triv w x := by
    rcases H1.out with h | h
    ·rw [h] at hnl; simp at hnl
    ·exact h
   have hxn := hx n l[n] (List.getElem?_eq_getElem hnl)
   have hok := HO.out l[n] (List.getElem_mem hnl)
   generalize l[n] = x at hxn hok
   have HC := hdn (isHop_any x b1 (o1 + n * 2) w HG.out hok hxn.1)
   have hn0 : (0 : Int) ≤ (n : Int) := Int.natCast_nonneg _
   have hn1 : (n : Int) < (l.length : Int) := by omega
   clear hx hxn hok
   go_wp2_with fail
   refine HC.out.mono ?_; rintro e w1 ⟨rfl, rfl⟩
   go_wp2_with fail
   go_round
   case rel => exact ⟨n + 1, by omega, by go_num⟩
   case measure => simp [intOf]; omega
  ·obtain rfl : n = l.length := by omega
   go_wp2_with fail
   go_ret
   exact ⟨rfl, rfl⟩
theorem isPath_any (x : Pth) (b o : Nat) (w : World) (hg : Gl w) (ho : Pn.okPath x = true) (hr : w.rangeAt b o x.cells) (hl : pthLies w x) :
  Calls Tryz.prog 151 #[.pointer (some ⟨b, o, none⟩)] w fun e w' => e = .returned (.bool true) ∧ w = w' := by
 unfold Pn.okPath at ho
 simp only [Bool.and_eq_true, decide_eq_true_eq, List.all_eq_true] at ho
 obtain ⟨⟨h1, h8⟩, h2⟩ := ho
 have CN := isName_ok x.name w hg h1
 have CH := allHp_any x.hops.l x.hops.p x.hops.cap w hg (Lay.of_sl hl (by decide)) h2
 have c0 : w.cell? ⟨b, o, none⟩ = some (.string x.name) := cell_at hr 0 _ rfl
 have c2 : w.cell? ⟨b, o + 2, none⟩ = some (.slice x.hops.p x.hops.l.length x.hops.cap) := cell_at hr 2 _ rfl
 have hle : (x.hops.l.length : Int) ≤ 8 := by omega
 clear hg h1 h2 hr hl
 go_enter Tryz.func151, Tryz.ntmps151
 go_wp2_with (first | (go_at_call 79; refine CN.mono ?_; rintro e w1 ⟨rfl, rfl⟩) | (go_at_call 173; refine CH.mono ?_; rintro e w2 ⟨rfl, rfl⟩))
 go_ret
 exact ⟨rfl, rfl⟩
theorem isNumber_any (n : Int) (w : World) (ho : Pn.okNum n = true) : Calls Tryz.prog 175 #[.int .i64 n] w fun e w' => e = .returned (.bool true) ∧ w = w' := by
 unfold Pn.okNum at ho
 simp only [Bool.and_eq_true, decide_eq_true_eq] at ho
 obtain ⟨h0, h1⟩ := ho
 go_enter Tryz.func175, Tryz.ntmps175
 go_wp2_with fail
 go_ret
 exact ⟨rfl, rfl⟩
theorem isTerm_any (x : Tm) (b o : Nat) (w : World) (hg : Gl w) (ho : Pn.okTerm x = true) (hr : w.rangeAt b o x.cells) :
  Calls Tryz.prog 176 #[.pointer (some ⟨b, o, none⟩)] w fun e w' => e = .returned (.bool true) ∧ w = w' := by
 have c0 : w.cell? ⟨b, o, none⟩ = some (.string x.name) := cell_at hr 0 _ rfl
 have c1 : w.cell? ⟨b, o + 1, none⟩ = some (.int .i64 x.n) := cell_at hr 1 _ rfl
 unfold Pn.okTerm at ho
 by_cases h0 : Pn.txt x.name = []
 ·rw [if_pos h0] at ho
  have CN := isNumber_any x.n w ho
  have he := e_txt h0
  clear hg ho hr h0
  go_enter Tryz.func176, Tryz.ntmps176
  go_wp2_with (go_at_call 175; refine CN.mono ?_; rintro e w1 ⟨rfl, rfl⟩)
  go_ret
  exact ⟨rfl, rfl⟩
 ·rw [if_neg h0] at ho
  simp only [Bool.and_eq_true, decide_eq_true_eq] at ho
  have he := okN_ne ho.1
  have CN := isName_ok x.name w hg ho.1
  have hz := ho.2
  clear hg ho hr h0
  go_enter Tryz.func176, Tryz.ntmps176
  go_wp2_with (go_at_call 79; refine CN.mono ?_; rintro e w1 ⟨rfl, rfl⟩)
  go_ret
  exact ⟨rfl, rfl⟩
theorem isPointer_any (x : Dc) (b o : Nat) (w : World) (hg : Gl w) (ho : Pn.okField x = true) (hr : w.rangeAt b o x.cells) :
  Calls Tryz.prog 80 #[.pointer (some ⟨b, o, none⟩)] w fun e w' => e = .returned (.bool true) ∧ w = w' := by
 have c0 : w.cell? ⟨b, o, none⟩ = some (.string x.type) := cell_at hr 0 _ rfl
 have c1 : w.cell? ⟨b, o + 1, none⟩ = some (.string x.name) := cell_at hr 1 _ rfl
 unfold Pn.okField Pn.okDecl at ho
 simp only [Bool.and_eq_true, Bool.or_eq_true, decide_eq_true_eq, Bool.not_eq_true', decide_eq_false_iff_not] at ho
 have CT := isName_ok x.type w hg (ho.1.2.resolve_left ho.2)
 have CN := isName_ok x.name w hg ho.1.1
 clear hg ho hr
 go_enter Tryz.func80, Tryz.ntmps80
 go_wp2_with (first | (go_at_call 79; (with_reducible refine CT.mono ?_); rintro e w1 ⟨rfl, rfl⟩) | (go_at_call 79; (with_reducible refine CN.mono ?_); rintro e w1 ⟨rfl, rfl⟩))
 go_ret
 exact ⟨rfl, rfl⟩
/-- A type that is no name: no pointer. -/
theorem isPointer_no (x : Dc) (b o : Nat) (w : World) (hg : Gl w) (ht : Pn.txt x.type = []) (hr : w.rangeAt b o x.cells) :
  Calls Tryz.prog 80 #[.pointer (some ⟨b, o, none⟩)] w fun e w' => e = .returned (.bool false) ∧ w = w' := by
 have c0 : w.cell? ⟨b, o, none⟩ = some (.string x.type) := cell_at hr 0 _ rfl
 have hz : x.type.size = 0 := by
  have h2 : (Pn.txt x.type).length = x.type.size := Tx.len_eq _
  rw [ht] at h2; simpa using h2.symm
 have CT := isNameLex_any x.type w (by omega) hg
 rw [show Tx.nameB x.type = false by rw [Tx.empty_of x.type hz]; rfl] at CT
 clear hg ht hr hz
 go_enter Tryz.func80, Tryz.ntmps80
 go_wp2_with (go_at_call 79; refine CT.mono ?_; rintro e w1 ⟨rfl, rfl⟩)
 go_ret
 exact ⟨rfl, rfl⟩
theorem isDecl_any (x : Dc) (b o : Nat) (w : World) (hg : Gl w) (ho : Pn.okDecl x = true) (hr : w.rangeAt b o x.cells) :
  Calls Tryz.prog 39 #[.pointer (some ⟨b, o, none⟩)] w fun e w' => e = .returned (.bool true) ∧ w = w' := by
 have c0 : w.cell? ⟨b, o, none⟩ = some (.string x.type) := cell_at hr 0 _ rfl
 have c1 : w.cell? ⟨b, o + 1, none⟩ = some (.string x.name) := cell_at hr 1 _ rfl
 by_cases h0 : Pn.txt x.type = []
 ·have CP := isPointer_no x b o w hg h0 hr
  unfold Pn.okDecl at ho
  simp only [Bool.and_eq_true] at ho
  have CN := isName_ok x.name w hg ho.1
  have he := e_txt h0
  clear hg ho hr h0
  go_enter Tryz.func39, Tryz.ntmps39
  go_wp2_with (first | (go_at_call 80; refine CP.mono ?_; rintro e w1 ⟨rfl, rfl⟩) | (go_at_call 79; refine CN.mono ?_; rintro e w1 ⟨rfl, rfl⟩))
  go_ret
  exact ⟨rfl, rfl⟩
 ·have CP := isPointer_any x b o w hg (by unfold Pn.okField; rw [ho, decide_eq_false h0]; rfl) hr
  clear hg ho hr h0
  go_enter Tryz.func39, Tryz.ntmps39
  go_wp2_with (go_at_call 80; refine CP.mono ?_; rintro e w1 ⟨rfl, rfl⟩)
  go_ret
  exact ⟨rfl, rfl⟩
theorem enters39 : ∀ args w, (callFunc 39 args).run Tryz.prog w = .ok (.enter 39 args) w := enters Tryz.func39 (by kernel_rfl) rfl
theorem allDc_any (l : List Dc) (p : Option Addr) (c : Nat) (w : World) (hg : Gl w) (h1 : Lay 3 Dc.cells triv w p l) (ho : ∀ x ∈ l, Pn.okDecl x = true) :
  Calls Tryz.prog 38 #[.slice p l.length c, .func (.func 39) #[] #[]] w fun e w' => e = .returned (.bool true) ∧ w = w' := by
 obtain ⟨hl, h1⟩ := h1
 have H1 := hdn h1; have HO := hdn ho; have HG := hdn hg
 clear h1 ho hg
 have hcl := enters39
 go_enter Tryz.func38, Tryz.ntmps38
 go_wp2_with fail
 go_loop [8] (fun i => ∃ n : Nat, n ≤ l.length ∧ i = .int .i64 n) (fun i => l.length - (intOf i).toNat)
 case atStart => exact ⟨0, Nat.zero_le _, rfl⟩
 case round =>
  obtain ⟨n, hn, rfl⟩ := hrel
  by_cases hnl : n < l.length
  ·obtain ⟨b1, o1, rfl, hx⟩ : ∃ b o, p = some ⟨b, o, none⟩ ∧ ∀ k x, l[k]? = some x → w.rangeAt b (o + k * 3) (Dc.cells x) ∧ triv w x := by
    rcases H1.out with h | h
    ·rw [h] at hnl; simp at hnl
    ·exact h
   have hxn := hx n l[n] (List.getElem?_eq_getElem hnl)
   have hok := HO.out l[n] (List.getElem_mem hnl)
   generalize l[n] = x at hxn hok
   have HC := hdn (isDecl_any x b1 (o1 + n * 3) w HG.out hok hxn.1)
   have hn0 : (0 : Int) ≤ (n : Int) := Int.natCast_nonneg _
   have hn1 : (n : Int) < (l.length : Int) := by omega
   clear hx hxn hok
   go_wp2_with fail
   refine HC.out.mono ?_; rintro e w1 ⟨rfl, rfl⟩
   go_wp2_with fail
   go_round
   case rel => exact ⟨n + 1, by omega, by go_num⟩
   case measure => simp [intOf]; omega
  ·obtain rfl : n = l.length := by omega
   go_wp2_with fail
   go_ret
   exact ⟨rfl, rfl⟩
theorem enters80 : ∀ args w, (callFunc 80 args).run Tryz.prog w = .ok (.enter 80 args) w := enters Tryz.func80 (by kernel_rfl) rfl
theorem allFd_any (l : List Dc) (p : Option Addr) (c : Nat) (w : World) (hg : Gl w) (h1 : Lay 3 Dc.cells triv w p l) (ho : ∀ x ∈ l, Pn.okField x = true) :
  Calls Tryz.prog 38 #[.slice p l.length c, .func (.func 80) #[] #[]] w fun e w' => e = .returned (.bool true) ∧ w = w' := by
 obtain ⟨hl, h1⟩ := h1
 have H1 := hdn h1; have HO := hdn ho; have HG := hdn hg
 clear h1 ho hg
 have hcl := enters80
 go_enter Tryz.func38, Tryz.ntmps38
 go_wp2_with fail
 go_loop [8] (fun i => ∃ n : Nat, n ≤ l.length ∧ i = .int .i64 n) (fun i => l.length - (intOf i).toNat)
 case atStart => exact ⟨0, Nat.zero_le _, rfl⟩
 case round =>
  obtain ⟨n, hn, rfl⟩ := hrel
  by_cases hnl : n < l.length
  ·obtain ⟨b1, o1, rfl, hx⟩ : ∃ b o, p = some ⟨b, o, none⟩ ∧ ∀ k x, l[k]? = some x → w.rangeAt b (o + k * 3) (Dc.cells x) ∧ triv w x := by
    rcases H1.out with h | h
    ·rw [h] at hnl; simp at hnl
    ·exact h
   have hxn := hx n l[n] (List.getElem?_eq_getElem hnl)
   have hok := HO.out l[n] (List.getElem_mem hnl)
   generalize l[n] = x at hxn hok
   have HC := hdn (isPointer_any x b1 (o1 + n * 3) w HG.out hok hxn.1)
   have hn0 : (0 : Int) ≤ (n : Int) := Int.natCast_nonneg _
   have hn1 : (n : Int) < (l.length : Int) := by omega
   clear hx hxn hok
   go_wp2_with fail
   refine HC.out.mono ?_; rintro e w1 ⟨rfl, rfl⟩
   go_wp2_with fail
   go_round
   case rel => exact ⟨n + 1, by omega, by go_num⟩
   case measure => simp [intOf]; omega
  ·obtain rfl : n = l.length := by omega
   go_wp2_with fail
   go_ret
   exact ⟨rfl, rfl⟩
theorem isStruct_any (x : Sr) (b o : Nat) (w : World) (hg : Gl w) (ho : Pn.okStruct x = true) (hr : w.rangeAt b o x.cells) (hl : declsLie w x.fields) :
  Calls Tryz.prog 37 #[.pointer (some ⟨b, o, none⟩)] w fun e w' => e = .returned (.bool true) ∧ w = w' := by
 have c0 : w.cell? ⟨b, o, none⟩ = some (.string x.name) := cell_at hr 0 _ rfl
 have c2 : w.cell? ⟨b, o + 2, none⟩ = some (.slice x.fields.p x.fields.l.length x.fields.cap) := cell_at hr 2 _ rfl
 unfold Pn.okStruct at ho
 simp only [Bool.and_eq_true, List.all_eq_true] at ho
 have CN := isName_ok x.name w hg ho.1
 have CF := allFd_any x.fields.l x.fields.p x.fields.cap w hg (Lay.of_sl (R := triv) hl (by decide)) ho.2
 clear hg ho hr hl
 go_enter Tryz.func37, Tryz.ntmps37
 go_wp2_with (first | (go_at_call 79; refine CN.mono ?_; rintro e w1 ⟨rfl, rfl⟩) | (go_at_call 38; refine CF.mono ?_; rintro e w1 ⟨rfl, rfl⟩))
 go_ret
 exact ⟨rfl, rfl⟩
theorem enters37 : ∀ args w, (callFunc 37 args).run Tryz.prog w = .ok (.enter 37 args) w := enters Tryz.func37 (by kernel_rfl) rfl
theorem allSr_any (l : List Sr) (p : Option Addr) (c : Nat) (w : World) (hg : Gl w) (h1 : Lay 3 Sr.cells (fun w (x : Sr) => declsLie w x.fields) w p l) (ho : ∀ x ∈ l, Pn.okStruct x = true) :
  Calls Tryz.prog 36 #[.slice p l.length c, .func (.func 37) #[] #[]] w fun e w' => e = .returned (.bool true) ∧ w = w' := by
 obtain ⟨hl, h1⟩ := h1
 have H1 := hdn h1; have HO := hdn ho; have HG := hdn hg
 clear h1 ho hg
 have hcl := enters37
 go_enter Tryz.func36, Tryz.ntmps36
 go_wp2_with fail
 go_loop [8] (fun i => ∃ n : Nat, n ≤ l.length ∧ i = .int .i64 n) (fun i => l.length - (intOf i).toNat)
 case atStart => exact ⟨0, Nat.zero_le _, rfl⟩
 case round =>
  obtain ⟨n, hn, rfl⟩ := hrel
  by_cases hnl : n < l.length
  ·obtain ⟨b1, o1, rfl, hx⟩ : ∃ b o, p = some ⟨b, o, none⟩ ∧ ∀ k x, l[k]? = some x → w.rangeAt b (o + k * 3) (Sr.cells x) ∧ (fun w (x : Sr) => declsLie w x.fields) w x := by
    rcases H1.out with h | h
    ·rw [h] at hnl; simp at hnl
    ·exact h
   have hxn := hx n l[n] (List.getElem?_eq_getElem hnl)
   have hok := HO.out l[n] (List.getElem_mem hnl)
   generalize l[n] = x at hxn hok
   have HC := hdn (isStruct_any x b1 (o1 + n * 3) w HG.out hok hxn.1 hxn.2)
   have hn0 : (0 : Int) ≤ (n : Int) := Int.natCast_nonneg _
   have hn1 : (n : Int) < (l.length : Int) := by omega
   clear hx hxn hok
   go_wp2_with fail
   refine HC.out.mono ?_; rintro e w1 ⟨rfl, rfl⟩
   go_wp2_with fail
   go_round
   case rel => exact ⟨n + 1, by omega, by go_num⟩
   case measure => simp [intOf]; omega
  ·obtain rfl : n = l.length := by omega
   go_wp2_with fail
   go_ret
   exact ⟨rfl, rfl⟩
end Go.Proofs.YtdlchhimkelinaaGreatDoor
namespace Go.Proofs.YtdlchhimkelinaaGreatDoor
open Go.RowKit Go.Sort
/-- A statement of this value alone. -/
def valIt (v : Vl) : It := { zIt with h := { Pr.noHd with value := v } }
theorem valIt_built (v : Vl) : Tryz.prog.built 54 [(3, .agg (Vl.cells v).toArray)] = some (valIt v).cells.toArray := by kernel_rfl
theorem noVal_hops {v : Vl} (h : Pn.noVal v = true) : v.path.hops.l = [] := by
 have e := Pn.noVal_er h
 have : v.path.er.hops.l = [] := by rw [show v.path.er = v.er.path from rfl, e]; rfl
 exact List.map_eq_nil_iff.1 this
theorem nil_lies {α : Type} (w : World) (n b : Nat) (f : α → List Value) (R : α → Prop) {s : Sl α} (h : s.l = []) : slLies w n b f R s := ⟨by rw [h]; simp, .inl h⟩
theorem noName : ByteArray.empty.size ≤ maxLen := by decide
theorem noLen : SL.nil.len * 608 ≤ 140737488351232 := by decide
theorem valIt_lies (v : Vl) (w : World) (h : v.path.hops.l = []) : itLies w (valIt v) :=
 ⟨⟨no_lies .., nil_lies _ _ _ _ _ h, no_lies .., no_lies .., no_lies .., noName⟩, ⟨noLen, .inl rfl⟩, ⟨noLen, .inl rfl⟩⟩
theorem valIt_same (v : Vl) (h : Pn.noVal v = true) : sameSL zIt.one (valIt v).one = true := by
 have e : (valIt v).one.er = zIt.one.er := by
  show SL.cons { Pr.noHd.er with value := v.er } none 0 SL.nil none 0 SL.nil SL.nil = _
  rw [Pn.noVal_er h]; rfl
 rw [sameSL_er, e]; exact sameSL_refl _
theorem zTm_built : Tryz.prog.built 47 [] = some (Tm.cells Pr.noTm).toArray := by kernel_rfl
theorem size47v : (Tryz.prog.info? 47).map (·.size) = some (Tm.cells Pr.noTm).toArray.size := by kernel_rfl
theorem zTm_one : (Tm.cells Pr.noTm).toArray.all (·.oneCell') = true := by simp [Tm.cells, Value.oneCell']
theorem isVal0 (x : Vl) (b o : Nat) (w : World) (hg : Gl w) (hr : w.rangeAt b o x.cells) (hl : vlLies w x) (k : x.kind = 0) (hv : Pn.noVal { x with kind := 0 } = true) :
  Calls Tryz.prog 152 #[.pointer (some ⟨b, o, none⟩)] w fun e w' => e = .returned (.bool true) ∧ Below w.heap.size w w' := by
 obtain ⟨vs, hvs⟩ : ∃ vs, vs = (Vl.cells x).toArray := ⟨_, rfl⟩
 have HR : Hid (w.rangeAt b o vs.toList) := hdn (by rw [hvs]; exact hr)
 have HSI : Hid ((Tryz.prog.info? 49).map (·.size) = some vs.size) := hdn (by rw [hvs]; exact size49c)
 have HZ : Hid (12 = vs.size) := hdn (by rw [hvs]; rfl)
 have HON : Hid (vs.all (·.oneCell') = true) := hdn (by rw [hvs]; simp [Value.oneCell'])
 obtain ⟨vF, hvF⟩ : ∃ vF, vF = (Vl.cells { x with kind := 0 }).toArray := ⟨_, rfl⟩
 have HSF : Hid ((Tryz.prog.info? 49).map (·.size) = some vF.size) := hdn (by rw [hvF]; exact size49c)
 have HVF := hdn hvF
 obtain ⟨cF, hcF⟩ : ∃ cF, cF = (valIt { x with kind := 0 }).cells.toArray := ⟨_, rfl⟩
 have HBL : Hid (Tryz.prog.built 54 [(3, .agg vF)] = some cF) := hdn (by rw [hvF, hcF]; exact valIt_built _)
 have HNT : Hid (∀ w, Calls Tryz.prog 116 #[.agg cF] w fun e w' => e = .returned (.bool true) ∧ Below w.heap.size w w') := hdn (fun w => by
  have := isNothing_any (valIt { x with kind := 0 }) cF hcF w (valIt_lies _ w (noVal_hops hv))
  rwa [valIt_same _ hv] at this)
 clear hv hvF hcF
 obtain ⟨wA, hwA⟩ : ∃ wA : World, wA = w.alloc (.cells vs 49) := ⟨_, rfl⟩
 have HBA : Hid (Below w.heap.size w wA) := hdn (by rw [hwA]; exact (Below.refl _ _).alloc (Nat.le_refl _) _)
 have HK : Hid (Bk wA w.heap.size 49 vs) := hdn (by rw [hwA]; exact heap_alloc_new _ _)
 have HW := hdn hwA
 have HV := hdn hvs
 have HR0 := hdn hr; have HG0 := hdn hg; have HL0 := hdn hl
 have c0 := cell_at hr 0 _ rfl
 rw [k] at c0
 clear hwA hr hvs hg hl k
 go_enter Tryz.func152, Tryz.ntmps152
 go_upto_region 2 with (first | ((with_reducible show wpList _ _ _ (Oper.mk (some 7) _ _ _ _ _ :: _) _ _); refine wpList_load_arr rfl 49 (.tmp 6) rfl b o rfl vs _ HR.out Tryz.underlying49 rfl HSI.out ?_) | ((with_reducible show wpList _ _ _ (Oper.mk none (Op.store 49 _ _) _ _ _ _ :: _) _ _); refine wpList_store_new rfl 49 (.tmp 3) (.tmp 7) rfl _ vs rfl rfl HSI.out HZ.out HON.out ?_))
 rw [← HW.out]
 obtain ⟨A, hA⟩ : ∃ A, A = w.heap.size := ⟨_, rfl⟩
 rw [← hA] at HK HBA ⊢
 have HA := hdn hA
 clear hA
 have d0 : wA.cell? ⟨A, 0, none⟩ = some (.int .i64 x.kind) := by have := HK.out; rw [HV.out] at this; exact this.cell 0
 have f0 := HK.out.frozen 0
 have gS := grownBy_setC wA ⟨A, 0, none⟩ (.int .i64 0)
 have HK2 : Hid (Bk (wA.setCell ⟨A, 0, none⟩ (.int .i64 0)) A 49 (Vl.cells { x with kind := 0 }).toArray) := hdn (by
  have := HK.out
  rw [HV.out] at this
  exact this.setArr 0 (.int .i64 0))
 have HB2 : Hid (Below w.heap.size w (wA.setCell ⟨A, 0, none⟩ (.int .i64 0))) := hdn (below_by (by rw [← HA.out]; exact HBA.out) gS (by rw [HA.out]; exact Nat.le_refl _))
 have e0 : (wA.setCell ⟨A, 0, none⟩ (.int .i64 0)).cell? ⟨b, o, none⟩ = some (.int .i64 0) := by
  have hlt := World.block_lt_of_cell? w _ c0
  have h1 : Below w.heap.size w (wA.setCell ⟨A, 0, none⟩ (.int .i64 0)) := HB2.out
  exact (h1.cell (p := ⟨b, o, none⟩) hlt).trans c0
 clear gS c0
 go_upto_region 3 with fail
 clear d0 f0
 generalize wA.setCell ⟨A, 0, none⟩ (.int .i64 0) = w2 at HK2 HB2 e0 ⊢
 have HKX : Hid (Bk w2 A 49 vF) := hdn (by rw [HVF.out]; exact HK2.out)
 go_wp2_with (first | ((with_reducible show wpList _ _ _ (Oper.mk (some 61) _ _ _ _ _ :: _) _ _); refine wpList_load_arr_g 49 (.tmp 3) rfl rfl A 0 rfl vF _ HKX.out.range Tryz.underlying49 rfl HSF.out ?_) | ((with_reducible show wpList _ _ _ (Oper.mk (some 62) _ _ _ _ _ :: _) _ _); refine wpList_build1_g 54 3 (.tmp 61) (.agg vF) rfl rfl rfl _ HBL.out ?_) | (go_at_call 116; refine (HNT.out _).mono ?_; rintro e w9 ⟨rfl, hb⟩; have HB9 := hdn (HB2.out.trans (hb.mono HB2.out.size)); clear hb))
 go_ret
 exact ⟨rfl, HB9.out⟩
theorem isVal3 (x : Vl) (b o : Nat) (w : World) (hg : Gl w) (hr : w.rangeAt b o x.cells) (hl : vlLies w x) (k : x.kind = 3) (hv : Pn.noVal { x with kind := 0 } = true) :
  Calls Tryz.prog 152 #[.pointer (some ⟨b, o, none⟩)] w fun e w' => e = .returned (.bool true) ∧ Below w.heap.size w w' := by
 obtain ⟨vs, hvs⟩ : ∃ vs, vs = (Vl.cells x).toArray := ⟨_, rfl⟩
 have HR : Hid (w.rangeAt b o vs.toList) := hdn (by rw [hvs]; exact hr)
 have HSI : Hid ((Tryz.prog.info? 49).map (·.size) = some vs.size) := hdn (by rw [hvs]; exact size49c)
 have HZ : Hid (12 = vs.size) := hdn (by rw [hvs]; rfl)
 have HON : Hid (vs.all (·.oneCell') = true) := hdn (by rw [hvs]; simp [Value.oneCell'])
 obtain ⟨vF, hvF⟩ : ∃ vF, vF = (Vl.cells { x with kind := 0 }).toArray := ⟨_, rfl⟩
 have HSF : Hid ((Tryz.prog.info? 49).map (·.size) = some vF.size) := hdn (by rw [hvF]; exact size49c)
 have HVF := hdn hvF
 obtain ⟨cF, hcF⟩ : ∃ cF, cF = (valIt { x with kind := 0 }).cells.toArray := ⟨_, rfl⟩
 have HBL : Hid (Tryz.prog.built 54 [(3, .agg vF)] = some cF) := hdn (by rw [hvF, hcF]; exact valIt_built _)
 have HNT : Hid (∀ w, Calls Tryz.prog 116 #[.agg cF] w fun e w' => e = .returned (.bool true) ∧ Below w.heap.size w w') := hdn (fun w => by
  have := isNothing_any (valIt { x with kind := 0 }) cF hcF w (valIt_lies _ w (noVal_hops hv))
  rwa [valIt_same _ hv] at this)
 clear hv hvF hcF
 obtain ⟨wA, hwA⟩ : ∃ wA : World, wA = w.alloc (.cells vs 49) := ⟨_, rfl⟩
 have HBA : Hid (Below w.heap.size w wA) := hdn (by rw [hwA]; exact (Below.refl _ _).alloc (Nat.le_refl _) _)
 have HK : Hid (Bk wA w.heap.size 49 vs) := hdn (by rw [hwA]; exact heap_alloc_new _ _)
 have HW := hdn hwA
 have HV := hdn hvs
 have HR0 := hdn hr; have HG0 := hdn hg; have HL0 := hdn hl
 have c0 := cell_at hr 0 _ rfl
 rw [k] at c0
 clear hwA hr hvs hg hl k
 go_enter Tryz.func152, Tryz.ntmps152
 go_upto_region 2 with (first | ((with_reducible show wpList _ _ _ (Oper.mk (some 7) _ _ _ _ _ :: _) _ _); refine wpList_load_arr rfl 49 (.tmp 6) rfl b o rfl vs _ HR.out Tryz.underlying49 rfl HSI.out ?_) | ((with_reducible show wpList _ _ _ (Oper.mk none (Op.store 49 _ _) _ _ _ _ :: _) _ _); refine wpList_store_new rfl 49 (.tmp 3) (.tmp 7) rfl _ vs rfl rfl HSI.out HZ.out HON.out ?_))
 rw [← HW.out]
 obtain ⟨A, hA⟩ : ∃ A, A = w.heap.size := ⟨_, rfl⟩
 rw [← hA] at HK HBA ⊢
 have HA := hdn hA
 clear hA
 have d0 : wA.cell? ⟨A, 0, none⟩ = some (.int .i64 x.kind) := by have := HK.out; rw [HV.out] at this; exact this.cell 0
 have f0 := HK.out.frozen 0
 have gS := grownBy_setC wA ⟨A, 0, none⟩ (.int .i64 0)
 have HK2 : Hid (Bk (wA.setCell ⟨A, 0, none⟩ (.int .i64 0)) A 49 (Vl.cells { x with kind := 0 }).toArray) := hdn (by
  have := HK.out
  rw [HV.out] at this
  exact this.setArr 0 (.int .i64 0))
 have HB2 : Hid (Below w.heap.size w (wA.setCell ⟨A, 0, none⟩ (.int .i64 0))) := hdn (below_by (by rw [← HA.out]; exact HBA.out) gS (by rw [HA.out]; exact Nat.le_refl _))
 have e0 : (wA.setCell ⟨A, 0, none⟩ (.int .i64 0)).cell? ⟨b, o, none⟩ = some (.int .i64 3) := by
  have hlt := World.block_lt_of_cell? w _ c0
  have h1 : Below w.heap.size w (wA.setCell ⟨A, 0, none⟩ (.int .i64 0)) := HB2.out
  exact (h1.cell (p := ⟨b, o, none⟩) hlt).trans c0
 clear gS c0
 go_upto_region 3 with fail
 clear d0 f0
 generalize wA.setCell ⟨A, 0, none⟩ (.int .i64 0) = w2 at HK2 HB2 e0 ⊢
 have HKX : Hid (Bk w2 A 49 vF) := hdn (by rw [HVF.out]; exact HK2.out)
 go_wp2_with (first | ((with_reducible show wpList _ _ _ (Oper.mk (some 61) _ _ _ _ _ :: _) _ _); refine wpList_load_arr_g 49 (.tmp 3) rfl rfl A 0 rfl vF _ HKX.out.range Tryz.underlying49 rfl HSF.out ?_) | ((with_reducible show wpList _ _ _ (Oper.mk (some 62) _ _ _ _ _ :: _) _ _); refine wpList_build1_g 54 3 (.tmp 61) (.agg vF) rfl rfl rfl _ HBL.out ?_) | (go_at_call 116; refine (HNT.out _).mono ?_; rintro e w9 ⟨rfl, hb⟩; have HB9 := hdn (HB2.out.trans (hb.mono HB2.out.size)); clear hb))
 go_ret
 exact ⟨rfl, HB9.out⟩
theorem isVal1 (x : Vl) (b o : Nat) (w : World) (hg : Gl w) (hr : w.rangeAt b o x.cells) (hl : vlLies w x) (k : x.kind = 1) (hp : Pn.okPath x.path = true) (hv : Pn.noVal { x with kind := 0, path := Pr.noPth } = true) :
  Calls Tryz.prog 152 #[.pointer (some ⟨b, o, none⟩)] w fun e w' => e = .returned (.bool true) ∧ Below w.heap.size w w' := by
 obtain ⟨vs, hvs⟩ : ∃ vs, vs = (Vl.cells x).toArray := ⟨_, rfl⟩
 have HR : Hid (w.rangeAt b o vs.toList) := hdn (by rw [hvs]; exact hr)
 have HSI : Hid ((Tryz.prog.info? 49).map (·.size) = some vs.size) := hdn (by rw [hvs]; exact size49c)
 have HZ : Hid (12 = vs.size) := hdn (by rw [hvs]; rfl)
 have HON : Hid (vs.all (·.oneCell') = true) := hdn (by rw [hvs]; simp [Value.oneCell'])
 obtain ⟨vF, hvF⟩ : ∃ vF, vF = (Vl.cells { x with kind := 0, path := Pr.noPth }).toArray := ⟨_, rfl⟩
 have HSF : Hid ((Tryz.prog.info? 49).map (·.size) = some vF.size) := hdn (by rw [hvF]; exact size49c)
 have HVF := hdn hvF
 obtain ⟨cF, hcF⟩ : ∃ cF, cF = (valIt { x with kind := 0, path := Pr.noPth }).cells.toArray := ⟨_, rfl⟩
 have HBL : Hid (Tryz.prog.built 54 [(3, .agg vF)] = some cF) := hdn (by rw [hvF, hcF]; exact valIt_built _)
 have HNT : Hid (∀ w, Calls Tryz.prog 116 #[.agg cF] w fun e w' => e = .returned (.bool true) ∧ Below w.heap.size w w') := hdn (fun w => by
  have := isNothing_any (valIt { x with kind := 0, path := Pr.noPth }) cF hcF w (valIt_lies _ w (noVal_hops hv))
  rwa [valIt_same _ hv] at this)
 clear hv hvF hcF
 obtain ⟨wA, hwA⟩ : ∃ wA : World, wA = w.alloc (.cells vs 49) := ⟨_, rfl⟩
 have HBA : Hid (Below w.heap.size w wA) := hdn (by rw [hwA]; exact (Below.refl _ _).alloc (Nat.le_refl _) _)
 have HK : Hid (Bk wA w.heap.size 49 vs) := hdn (by rw [hwA]; exact heap_alloc_new _ _)
 have HW := hdn hwA
 have HV := hdn hvs
 have HR0 := hdn hr; have HG0 := hdn hg; have HL0 := hdn hl
 have c0 := cell_at hr 0 _ rfl
 rw [k] at c0
 have HP := hdn hp
 clear hp
 clear hwA hr hvs hg hl k
 go_enter Tryz.func152, Tryz.ntmps152
 go_upto_region 2 with (first | ((with_reducible show wpList _ _ _ (Oper.mk (some 7) _ _ _ _ _ :: _) _ _); refine wpList_load_arr rfl 49 (.tmp 6) rfl b o rfl vs _ HR.out Tryz.underlying49 rfl HSI.out ?_) | ((with_reducible show wpList _ _ _ (Oper.mk none (Op.store 49 _ _) _ _ _ _ :: _) _ _); refine wpList_store_new rfl 49 (.tmp 3) (.tmp 7) rfl _ vs rfl rfl HSI.out HZ.out HON.out ?_))
 rw [← HW.out]
 obtain ⟨A, hA⟩ : ∃ A, A = w.heap.size := ⟨_, rfl⟩
 rw [← hA] at HK HBA ⊢
 have HA := hdn hA
 clear hA
 have d0 : wA.cell? ⟨A, 0, none⟩ = some (.int .i64 x.kind) := by have := HK.out; rw [HV.out] at this; exact this.cell 0
 have f0 := HK.out.frozen 0
 have gS := grownBy_setC wA ⟨A, 0, none⟩ (.int .i64 0)
 have HK2 : Hid (Bk (wA.setCell ⟨A, 0, none⟩ (.int .i64 0)) A 49 (Vl.cells { x with kind := 0 }).toArray) := hdn (by
  have := HK.out
  rw [HV.out] at this
  exact this.setArr 0 (.int .i64 0))
 have HB2 : Hid (Below w.heap.size w (wA.setCell ⟨A, 0, none⟩ (.int .i64 0))) := hdn (below_by (by rw [← HA.out]; exact HBA.out) gS (by rw [HA.out]; exact Nat.le_refl _))
 have e0 : (wA.setCell ⟨A, 0, none⟩ (.int .i64 0)).cell? ⟨b, o, none⟩ = some (.int .i64 1) := by
  have hlt := World.block_lt_of_cell? w _ c0
  have h1 : Below w.heap.size w (wA.setCell ⟨A, 0, none⟩ (.int .i64 0)) := HB2.out
  exact (h1.cell (p := ⟨b, o, none⟩) hlt).trans c0
 clear gS c0
 go_upto_region 3 with fail
 clear d0 f0
 generalize wA.setCell ⟨A, 0, none⟩ (.int .i64 0) = w2 at HK2 HB2 e0 ⊢
 go_upto_region 9 with (first | ((with_reducible show wpList _ _ _ (Oper.mk (some 18) _ _ _ _ _ :: _) _ _); refine wpList_zero rfl 45 rfl (some 18) rfl _ zPth_built ?_) | ((with_reducible show wpList _ _ _ (Oper.mk none (Op.store 45 _ _) _ _ _ _ :: _) _ _); refine wpList_store_part rfl 45 (.tmp 19) (.tmp 18) rfl A 2 49 (Vl.cells { x with kind := 0 }) (Pth.cells Pr.noPth) rfl rfl HK2.out size45p (by show 2 + 3 ≤ 12; decide) zPth_one ?_; intro w3 hk3 hg3; have HK3 : Hid (Bk w3 A 49 (Vl.cells { x with kind := 0, path := Pr.noPth }).toArray) := hdn hk3; have HG3 := hdn hg3; clear hk3 hg3 e0))
 have HB3 : Hid (Below w.heap.size w w3) := hdn (below_by HB2.out HG3.out (by rw [HA.out]; exact Nat.le_refl _))
 have HC := hdn (isPath_any x.path b (o + 2) w3 (HG0.out.below HB3.out HG0.out.two) HP.out (rangeAt_sub (rangeAt_below HR0.out HB3.out) 2 3 rfl) (pthLies_below (pthLies_of HL0.out) HB3.out))
 have HKX : Hid (Bk w3 A 49 vF) := hdn (by rw [HVF.out]; exact HK3.out)
 go_wp2_with (first | (go_at_call 151; refine HC.out.mono ?_; rintro e w4 ⟨rfl, rfl⟩) | ((with_reducible show wpList _ _ _ (Oper.mk (some 61) _ _ _ _ _ :: _) _ _); refine wpList_load_arr_g 49 (.tmp 3) rfl rfl A 0 rfl vF _ HKX.out.range Tryz.underlying49 rfl HSF.out ?_) | ((with_reducible show wpList _ _ _ (Oper.mk (some 62) _ _ _ _ _ :: _) _ _); refine wpList_build1_g 54 3 (.tmp 61) (.agg vF) rfl rfl rfl _ HBL.out ?_) | (go_at_call 116; refine (HNT.out _).mono ?_; rintro e w9 ⟨rfl, hb⟩; have HB9 := hdn (HB3.out.trans (hb.mono HB3.out.size)); clear hb))
 go_ret
 exact ⟨rfl, HB9.out⟩
theorem isVal2 (x : Vl) (b o : Nat) (w : World) (hg : Gl w) (hr : w.rangeAt b o x.cells) (hl : vlLies w x) (k : x.kind = 2) (ht : Pn.okN x.type = true) (hv : Pn.noVal { x with kind := 0, type := ByteArray.empty } = true) :
  Calls Tryz.prog 152 #[.pointer (some ⟨b, o, none⟩)] w fun e w' => e = .returned (.bool true) ∧ Below w.heap.size w w' := by
 obtain ⟨vs, hvs⟩ : ∃ vs, vs = (Vl.cells x).toArray := ⟨_, rfl⟩
 have HR : Hid (w.rangeAt b o vs.toList) := hdn (by rw [hvs]; exact hr)
 have HSI : Hid ((Tryz.prog.info? 49).map (·.size) = some vs.size) := hdn (by rw [hvs]; exact size49c)
 have HZ : Hid (12 = vs.size) := hdn (by rw [hvs]; rfl)
 have HON : Hid (vs.all (·.oneCell') = true) := hdn (by rw [hvs]; simp [Value.oneCell'])
 obtain ⟨vF, hvF⟩ : ∃ vF, vF = (Vl.cells { x with kind := 0, type := ByteArray.empty }).toArray := ⟨_, rfl⟩
 have HSF : Hid ((Tryz.prog.info? 49).map (·.size) = some vF.size) := hdn (by rw [hvF]; exact size49c)
 have HVF := hdn hvF
 obtain ⟨cF, hcF⟩ : ∃ cF, cF = (valIt { x with kind := 0, type := ByteArray.empty }).cells.toArray := ⟨_, rfl⟩
 have HBL : Hid (Tryz.prog.built 54 [(3, .agg vF)] = some cF) := hdn (by rw [hvF, hcF]; exact valIt_built _)
 have HNT : Hid (∀ w, Calls Tryz.prog 116 #[.agg cF] w fun e w' => e = .returned (.bool true) ∧ Below w.heap.size w w') := hdn (fun w => by
  have := isNothing_any (valIt { x with kind := 0, type := ByteArray.empty }) cF hcF w (valIt_lies _ w (noVal_hops hv))
  rwa [valIt_same _ hv] at this)
 clear hv hvF hcF
 obtain ⟨wA, hwA⟩ : ∃ wA : World, wA = w.alloc (.cells vs 49) := ⟨_, rfl⟩
 have HBA : Hid (Below w.heap.size w wA) := hdn (by rw [hwA]; exact (Below.refl _ _).alloc (Nat.le_refl _) _)
 have HK : Hid (Bk wA w.heap.size 49 vs) := hdn (by rw [hwA]; exact heap_alloc_new _ _)
 have HW := hdn hwA
 have HV := hdn hvs
 have HR0 := hdn hr; have HG0 := hdn hg; have HL0 := hdn hl
 have c0 := cell_at hr 0 _ rfl
 rw [k] at c0
 have HT := hdn ht
 clear ht
 clear hwA hr hvs hg hl k
 go_enter Tryz.func152, Tryz.ntmps152
 go_upto_region 2 with (first | ((with_reducible show wpList _ _ _ (Oper.mk (some 7) _ _ _ _ _ :: _) _ _); refine wpList_load_arr rfl 49 (.tmp 6) rfl b o rfl vs _ HR.out Tryz.underlying49 rfl HSI.out ?_) | ((with_reducible show wpList _ _ _ (Oper.mk none (Op.store 49 _ _) _ _ _ _ :: _) _ _); refine wpList_store_new rfl 49 (.tmp 3) (.tmp 7) rfl _ vs rfl rfl HSI.out HZ.out HON.out ?_))
 rw [← HW.out]
 obtain ⟨A, hA⟩ : ∃ A, A = w.heap.size := ⟨_, rfl⟩
 rw [← hA] at HK HBA ⊢
 have HA := hdn hA
 clear hA
 have d0 : wA.cell? ⟨A, 0, none⟩ = some (.int .i64 x.kind) := by have := HK.out; rw [HV.out] at this; exact this.cell 0
 have f0 := HK.out.frozen 0
 have gS := grownBy_setC wA ⟨A, 0, none⟩ (.int .i64 0)
 have HK2 : Hid (Bk (wA.setCell ⟨A, 0, none⟩ (.int .i64 0)) A 49 (Vl.cells { x with kind := 0 }).toArray) := hdn (by
  have := HK.out
  rw [HV.out] at this
  exact this.setArr 0 (.int .i64 0))
 have HB2 : Hid (Below w.heap.size w (wA.setCell ⟨A, 0, none⟩ (.int .i64 0))) := hdn (below_by (by rw [← HA.out]; exact HBA.out) gS (by rw [HA.out]; exact Nat.le_refl _))
 have e0 : (wA.setCell ⟨A, 0, none⟩ (.int .i64 0)).cell? ⟨b, o, none⟩ = some (.int .i64 2) := by
  have hlt := World.block_lt_of_cell? w _ c0
  have h1 : Below w.heap.size w (wA.setCell ⟨A, 0, none⟩ (.int .i64 0)) := HB2.out
  exact (h1.cell (p := ⟨b, o, none⟩) hlt).trans c0
 clear gS c0
 go_upto_region 3 with fail
 clear d0 f0
 generalize wA.setCell ⟨A, 0, none⟩ (.int .i64 0) = w2 at HK2 HB2 e0 ⊢
 have d5 : w2.cell? ⟨A, 5, none⟩ = some (.string x.type) := HK2.out.cell 5
 have f5 := HK2.out.frozen 5
 have gS := grownBy_setC w2 ⟨A, 5, none⟩ (.string ByteArray.empty)
 have HK3 : Hid (Bk (w2.setCell ⟨A, 5, none⟩ (.string ByteArray.empty)) A 49 (Vl.cells { x with kind := 0, type := ByteArray.empty }).toArray) := hdn (HK2.out.setArr 5 (.string ByteArray.empty))
 have HB3 : Hid (Below w.heap.size w (w2.setCell ⟨A, 5, none⟩ (.string ByteArray.empty))) := hdn (below_by HB2.out gS (by rw [HA.out]; exact Nat.le_refl _))
 clear gS
 go_upto_region 12 with fail
 change Code.wp _ _ _ _ (w2.setCell ⟨A, 5, none⟩ (.string ByteArray.empty))
 clear d5 f5 e0
 generalize w2.setCell ⟨A, 5, none⟩ (.string ByteArray.empty) = w3 at HK3 HB3 ⊢
 have q5 : w3.cell? ⟨b, o + 5, none⟩ = some (.string x.type) := cell_at (rangeAt_below HR0.out HB3.out) 5 _ rfl
 have HC := hdn (isName_ok x.type w3 (HG0.out.below HB3.out HG0.out.two) HT.out)
 have HKX : Hid (Bk w3 A 49 vF) := hdn (by rw [HVF.out]; exact HK3.out)
 go_wp2_with (first | (go_at_call 79; refine HC.out.mono ?_; rintro e w4 ⟨rfl, rfl⟩) | ((with_reducible show wpList _ _ _ (Oper.mk (some 61) _ _ _ _ _ :: _) _ _); refine wpList_load_arr_g 49 (.tmp 3) rfl rfl A 0 rfl vF _ HKX.out.range Tryz.underlying49 rfl HSF.out ?_) | ((with_reducible show wpList _ _ _ (Oper.mk (some 62) _ _ _ _ _ :: _) _ _); refine wpList_build1_g 54 3 (.tmp 61) (.agg vF) rfl rfl rfl _ HBL.out ?_) | (go_at_call 116; refine (HNT.out _).mono ?_; rintro e w9 ⟨rfl, hb⟩; have HB9 := hdn (HB3.out.trans (hb.mono HB3.out.size)); clear hb))
 go_ret
 exact ⟨rfl, HB9.out⟩
theorem isVal4 (x : Vl) (b o : Nat) (w : World) (hg : Gl w) (hr : w.rangeAt b o x.cells) (hl : vlLies w x) (k : x.kind = 4) (hn : Pn.okNum x.left.n = true) (hv : Pn.noVal { x with kind := 0, left := { x.left with n := 0 } } = true) :
  Calls Tryz.prog 152 #[.pointer (some ⟨b, o, none⟩)] w fun e w' => e = .returned (.bool true) ∧ Below w.heap.size w w' := by
 obtain ⟨vs, hvs⟩ : ∃ vs, vs = (Vl.cells x).toArray := ⟨_, rfl⟩
 have HR : Hid (w.rangeAt b o vs.toList) := hdn (by rw [hvs]; exact hr)
 have HSI : Hid ((Tryz.prog.info? 49).map (·.size) = some vs.size) := hdn (by rw [hvs]; exact size49c)
 have HZ : Hid (12 = vs.size) := hdn (by rw [hvs]; rfl)
 have HON : Hid (vs.all (·.oneCell') = true) := hdn (by rw [hvs]; simp [Value.oneCell'])
 obtain ⟨vF, hvF⟩ : ∃ vF, vF = (Vl.cells { x with kind := 0, left := { x.left with n := 0 } }).toArray := ⟨_, rfl⟩
 have HSF : Hid ((Tryz.prog.info? 49).map (·.size) = some vF.size) := hdn (by rw [hvF]; exact size49c)
 have HVF := hdn hvF
 obtain ⟨cF, hcF⟩ : ∃ cF, cF = (valIt { x with kind := 0, left := { x.left with n := 0 } }).cells.toArray := ⟨_, rfl⟩
 have HBL : Hid (Tryz.prog.built 54 [(3, .agg vF)] = some cF) := hdn (by rw [hvF, hcF]; exact valIt_built _)
 have HNT : Hid (∀ w, Calls Tryz.prog 116 #[.agg cF] w fun e w' => e = .returned (.bool true) ∧ Below w.heap.size w w') := hdn (fun w => by
  have := isNothing_any (valIt { x with kind := 0, left := { x.left with n := 0 } }) cF hcF w (valIt_lies _ w (noVal_hops hv))
  rwa [valIt_same _ hv] at this)
 clear hv hvF hcF
 obtain ⟨wA, hwA⟩ : ∃ wA : World, wA = w.alloc (.cells vs 49) := ⟨_, rfl⟩
 have HBA : Hid (Below w.heap.size w wA) := hdn (by rw [hwA]; exact (Below.refl _ _).alloc (Nat.le_refl _) _)
 have HK : Hid (Bk wA w.heap.size 49 vs) := hdn (by rw [hwA]; exact heap_alloc_new _ _)
 have HW := hdn hwA
 have HV := hdn hvs
 have HR0 := hdn hr; have HG0 := hdn hg; have HL0 := hdn hl
 have c0 := cell_at hr 0 _ rfl
 rw [k] at c0
 have HN := hdn hn
 clear hn
 clear hwA hr hvs hg hl k
 go_enter Tryz.func152, Tryz.ntmps152
 go_upto_region 2 with (first | ((with_reducible show wpList _ _ _ (Oper.mk (some 7) _ _ _ _ _ :: _) _ _); refine wpList_load_arr rfl 49 (.tmp 6) rfl b o rfl vs _ HR.out Tryz.underlying49 rfl HSI.out ?_) | ((with_reducible show wpList _ _ _ (Oper.mk none (Op.store 49 _ _) _ _ _ _ :: _) _ _); refine wpList_store_new rfl 49 (.tmp 3) (.tmp 7) rfl _ vs rfl rfl HSI.out HZ.out HON.out ?_))
 rw [← HW.out]
 obtain ⟨A, hA⟩ : ∃ A, A = w.heap.size := ⟨_, rfl⟩
 rw [← hA] at HK HBA ⊢
 have HA := hdn hA
 clear hA
 have d0 : wA.cell? ⟨A, 0, none⟩ = some (.int .i64 x.kind) := by have := HK.out; rw [HV.out] at this; exact this.cell 0
 have f0 := HK.out.frozen 0
 have gS := grownBy_setC wA ⟨A, 0, none⟩ (.int .i64 0)
 have HK2 : Hid (Bk (wA.setCell ⟨A, 0, none⟩ (.int .i64 0)) A 49 (Vl.cells { x with kind := 0 }).toArray) := hdn (by
  have := HK.out
  rw [HV.out] at this
  exact this.setArr 0 (.int .i64 0))
 have HB2 : Hid (Below w.heap.size w (wA.setCell ⟨A, 0, none⟩ (.int .i64 0))) := hdn (below_by (by rw [← HA.out]; exact HBA.out) gS (by rw [HA.out]; exact Nat.le_refl _))
 have e0 : (wA.setCell ⟨A, 0, none⟩ (.int .i64 0)).cell? ⟨b, o, none⟩ = some (.int .i64 4) := by
  have hlt := World.block_lt_of_cell? w _ c0
  have h1 : Below w.heap.size w (wA.setCell ⟨A, 0, none⟩ (.int .i64 0)) := HB2.out
  exact (h1.cell (p := ⟨b, o, none⟩) hlt).trans c0
 clear gS c0
 go_upto_region 3 with fail
 clear d0 f0
 generalize wA.setCell ⟨A, 0, none⟩ (.int .i64 0) = w2 at HK2 HB2 e0 ⊢
 have d7 : w2.cell? ⟨A, 7, none⟩ = some (.int .i64 x.left.n) := HK2.out.cell 7
 have f7 := HK2.out.frozen 7
 have gS := grownBy_setC w2 ⟨A, 7, none⟩ (.int .i64 0)
 have HK3 : Hid (Bk (w2.setCell ⟨A, 7, none⟩ (.int .i64 0)) A 49 (Vl.cells { x with kind := 0, left := { x.left with n := 0 } }).toArray) := hdn (HK2.out.setArr 7 (.int .i64 0))
 have HB3 : Hid (Below w.heap.size w (w2.setCell ⟨A, 7, none⟩ (.int .i64 0))) := hdn (below_by HB2.out gS (by rw [HA.out]; exact Nat.le_refl _))
 clear gS
 go_upto_region 15 with fail
 clear d7 f7 e0
 generalize w2.setCell ⟨A, 7, none⟩ (.int .i64 0) = w3 at HK3 HB3 ⊢
 have q7 : w3.cell? ⟨b, o + 7, none⟩ = some (.int .i64 x.left.n) := cell_at (rangeAt_below HR0.out HB3.out) 7 _ rfl
 have HC := hdn (isNumber_any x.left.n w3 HN.out)
 have HKX : Hid (Bk w3 A 49 vF) := hdn (by rw [HVF.out]; exact HK3.out)
 go_wp2_with (first | (go_at_call 175; refine HC.out.mono ?_; rintro e w4 ⟨rfl, rfl⟩) | ((with_reducible show wpList _ _ _ (Oper.mk (some 61) _ _ _ _ _ :: _) _ _); refine wpList_load_arr_g 49 (.tmp 3) rfl rfl A 0 rfl vF _ HKX.out.range Tryz.underlying49 rfl HSF.out ?_) | ((with_reducible show wpList _ _ _ (Oper.mk (some 62) _ _ _ _ _ :: _) _ _); refine wpList_build1_g 54 3 (.tmp 61) (.agg vF) rfl rfl rfl _ HBL.out ?_) | (go_at_call 116; refine (HNT.out _).mono ?_; rintro e w9 ⟨rfl, hb⟩; have HB9 := hdn (HB3.out.trans (hb.mono HB3.out.size)); clear hb))
 go_ret
 exact ⟨rfl, HB9.out⟩
theorem isVal5 (x : Vl) (b o : Nat) (w : World) (hg : Gl w) (hr : w.rangeAt b o x.cells) (hl : vlLies w x) (k : x.kind = 5) (hs : Pn.okTerm x.left = true) (ht : Pn.okTerm x.right = true) (hv : Pn.noVal { x with kind := 0, left := Pr.noTm, right := Pr.noTm } = true) :
  Calls Tryz.prog 152 #[.pointer (some ⟨b, o, none⟩)] w fun e w' => e = .returned (.bool true) ∧ Below w.heap.size w w' := by
 obtain ⟨vs, hvs⟩ : ∃ vs, vs = (Vl.cells x).toArray := ⟨_, rfl⟩
 have HR : Hid (w.rangeAt b o vs.toList) := hdn (by rw [hvs]; exact hr)
 have HSI : Hid ((Tryz.prog.info? 49).map (·.size) = some vs.size) := hdn (by rw [hvs]; exact size49c)
 have HZ : Hid (12 = vs.size) := hdn (by rw [hvs]; rfl)
 have HON : Hid (vs.all (·.oneCell') = true) := hdn (by rw [hvs]; simp [Value.oneCell'])
 obtain ⟨vF, hvF⟩ : ∃ vF, vF = (Vl.cells { x with kind := 0, left := Pr.noTm, right := Pr.noTm }).toArray := ⟨_, rfl⟩
 have HSF : Hid ((Tryz.prog.info? 49).map (·.size) = some vF.size) := hdn (by rw [hvF]; exact size49c)
 have HVF := hdn hvF
 obtain ⟨cF, hcF⟩ : ∃ cF, cF = (valIt { x with kind := 0, left := Pr.noTm, right := Pr.noTm }).cells.toArray := ⟨_, rfl⟩
 have HBL : Hid (Tryz.prog.built 54 [(3, .agg vF)] = some cF) := hdn (by rw [hvF, hcF]; exact valIt_built _)
 have HNT : Hid (∀ w, Calls Tryz.prog 116 #[.agg cF] w fun e w' => e = .returned (.bool true) ∧ Below w.heap.size w w') := hdn (fun w => by
  have := isNothing_any (valIt { x with kind := 0, left := Pr.noTm, right := Pr.noTm }) cF hcF w (valIt_lies _ w (noVal_hops hv))
  rwa [valIt_same _ hv] at this)
 clear hv hvF hcF
 obtain ⟨wA, hwA⟩ : ∃ wA : World, wA = w.alloc (.cells vs 49) := ⟨_, rfl⟩
 have HBA : Hid (Below w.heap.size w wA) := hdn (by rw [hwA]; exact (Below.refl _ _).alloc (Nat.le_refl _) _)
 have HK : Hid (Bk wA w.heap.size 49 vs) := hdn (by rw [hwA]; exact heap_alloc_new _ _)
 have HW := hdn hwA
 have HV := hdn hvs
 have HR0 := hdn hr; have HG0 := hdn hg; have HL0 := hdn hl
 have c0 := cell_at hr 0 _ rfl
 rw [k] at c0
 have HS := hdn hs; have HT := hdn ht
 clear hs ht
 clear hwA hr hvs hg hl k
 go_enter Tryz.func152, Tryz.ntmps152
 go_upto_region 2 with (first | ((with_reducible show wpList _ _ _ (Oper.mk (some 7) _ _ _ _ _ :: _) _ _); refine wpList_load_arr rfl 49 (.tmp 6) rfl b o rfl vs _ HR.out Tryz.underlying49 rfl HSI.out ?_) | ((with_reducible show wpList _ _ _ (Oper.mk none (Op.store 49 _ _) _ _ _ _ :: _) _ _); refine wpList_store_new rfl 49 (.tmp 3) (.tmp 7) rfl _ vs rfl rfl HSI.out HZ.out HON.out ?_))
 rw [← HW.out]
 obtain ⟨A, hA⟩ : ∃ A, A = w.heap.size := ⟨_, rfl⟩
 rw [← hA] at HK HBA ⊢
 have HA := hdn hA
 clear hA
 have d0 : wA.cell? ⟨A, 0, none⟩ = some (.int .i64 x.kind) := by have := HK.out; rw [HV.out] at this; exact this.cell 0
 have f0 := HK.out.frozen 0
 have gS := grownBy_setC wA ⟨A, 0, none⟩ (.int .i64 0)
 have HK2 : Hid (Bk (wA.setCell ⟨A, 0, none⟩ (.int .i64 0)) A 49 (Vl.cells { x with kind := 0 }).toArray) := hdn (by
  have := HK.out
  rw [HV.out] at this
  exact this.setArr 0 (.int .i64 0))
 have HB2 : Hid (Below w.heap.size w (wA.setCell ⟨A, 0, none⟩ (.int .i64 0))) := hdn (below_by (by rw [← HA.out]; exact HBA.out) gS (by rw [HA.out]; exact Nat.le_refl _))
 have e0 : (wA.setCell ⟨A, 0, none⟩ (.int .i64 0)).cell? ⟨b, o, none⟩ = some (.int .i64 5) := by
  have hlt := World.block_lt_of_cell? w _ c0
  have h1 : Below w.heap.size w (wA.setCell ⟨A, 0, none⟩ (.int .i64 0)) := HB2.out
  exact (h1.cell (p := ⟨b, o, none⟩) hlt).trans c0
 clear gS c0
 go_upto_region 3 with fail
 clear d0 f0
 generalize wA.setCell ⟨A, 0, none⟩ (.int .i64 0) = w2 at HK2 HB2 e0 ⊢
 go_upto_region 19 with (first | ((with_reducible show wpList _ _ _ (Oper.mk (some 45) _ _ _ _ _ :: _) _ _); refine wpList_zero rfl 47 rfl (some 45) rfl _ zTm_built ?_) | ((with_reducible show wpList _ _ _ (Oper.mk (some 46) _ _ _ _ _ :: _) _ _); refine wpList_zero rfl 47 rfl (some 46) rfl _ zTm_built ?_) | ((with_reducible show wpList _ _ _ (Oper.mk none (Op.store 47 _ _) _ _ _ _ :: _) _ _); refine wpList_store_part rfl 47 (.tmp 47) (.tmp 45) rfl A 6 49 (Vl.cells { x with kind := 0 }) (Tm.cells Pr.noTm) rfl rfl HK2.out size47v (by show 6 + 3 ≤ 12; decide) zTm_one ?_; intro w3 hk3 hg3; have HK3 : Hid (Bk w3 A 49 (Vl.cells { x with kind := 0, left := Pr.noTm }).toArray) := hdn hk3; have HG3 := hdn hg3; clear hk3 hg3 e0) | ((with_reducible show wpList _ _ _ (Oper.mk none (Op.store 47 _ _) _ _ _ _ :: _) _ _); refine wpList_store_part rfl 47 (.tmp 48) (.tmp 46) rfl A 9 49 (Vl.cells { x with kind := 0, left := Pr.noTm }) (Tm.cells Pr.noTm) rfl rfl HK3.out size47v (by show 9 + 3 ≤ 12; decide) zTm_one ?_; intro w4 hk4 hg4; have HK4 : Hid (Bk w4 A 49 (Vl.cells { x with kind := 0, left := Pr.noTm, right := Pr.noTm }).toArray) := hdn hk4; have HG4 := hdn hg4; clear hk4 hg4))
 have HB3 : Hid (Below w.heap.size w w3) := hdn (below_by HB2.out HG3.out (by rw [HA.out]; exact Nat.le_refl _))
 have HB4 : Hid (Below w.heap.size w w4) := hdn (below_by HB3.out HG4.out (by rw [HA.out]; exact Nat.le_refl _))
 have HC1 := hdn (isTerm_any x.left b (o + 6) w4 (HG0.out.below HB4.out HG0.out.two) HS.out (rangeAt_sub (rangeAt_below HR0.out HB4.out) 6 3 rfl))
 have HC2 := hdn (isTerm_any x.right b (o + 9) w4 (HG0.out.below HB4.out HG0.out.two) HT.out (rangeAt_sub (rangeAt_below HR0.out HB4.out) 9 3 rfl))
 have HKX : Hid (Bk w4 A 49 vF) := hdn (by rw [HVF.out]; exact HK4.out)
 go_wp2_with (first | (go_at_call 176; (with_reducible refine HC1.out.mono ?_); rintro e w5 ⟨rfl, rfl⟩) | (go_at_call 176; (with_reducible refine HC2.out.mono ?_); rintro e w5 ⟨rfl, rfl⟩) | ((with_reducible show wpList _ _ _ (Oper.mk (some 61) _ _ _ _ _ :: _) _ _); refine wpList_load_arr_g 49 (.tmp 3) rfl rfl A 0 rfl vF _ HKX.out.range Tryz.underlying49 rfl HSF.out ?_) | ((with_reducible show wpList _ _ _ (Oper.mk (some 62) _ _ _ _ _ :: _) _ _); refine wpList_build1_g 54 3 (.tmp 61) (.agg vF) rfl rfl rfl _ HBL.out ?_) | (go_at_call 116; refine (HNT.out _).mono ?_; rintro e w9 ⟨rfl, hb⟩; have HB9 := hdn (HB4.out.trans (hb.mono HB4.out.size)); clear hb))
 go_ret
 exact ⟨rfl, HB9.out⟩
theorem isVal6 (x : Vl) (b o : Nat) (w : World) (hg : Gl w) (hr : w.rangeAt b o x.cells) (hl : vlLies w x) (k : x.kind = 6) (hs : Pn.okTerm x.left = true) (ht : Pn.okTerm x.right = true) (hv : Pn.noVal { x with kind := 0, left := Pr.noTm, right := Pr.noTm } = true) :
  Calls Tryz.prog 152 #[.pointer (some ⟨b, o, none⟩)] w fun e w' => e = .returned (.bool true) ∧ Below w.heap.size w w' := by
 obtain ⟨vs, hvs⟩ : ∃ vs, vs = (Vl.cells x).toArray := ⟨_, rfl⟩
 have HR : Hid (w.rangeAt b o vs.toList) := hdn (by rw [hvs]; exact hr)
 have HSI : Hid ((Tryz.prog.info? 49).map (·.size) = some vs.size) := hdn (by rw [hvs]; exact size49c)
 have HZ : Hid (12 = vs.size) := hdn (by rw [hvs]; rfl)
 have HON : Hid (vs.all (·.oneCell') = true) := hdn (by rw [hvs]; simp [Value.oneCell'])
 obtain ⟨vF, hvF⟩ : ∃ vF, vF = (Vl.cells { x with kind := 0, left := Pr.noTm, right := Pr.noTm }).toArray := ⟨_, rfl⟩
 have HSF : Hid ((Tryz.prog.info? 49).map (·.size) = some vF.size) := hdn (by rw [hvF]; exact size49c)
 have HVF := hdn hvF
 obtain ⟨cF, hcF⟩ : ∃ cF, cF = (valIt { x with kind := 0, left := Pr.noTm, right := Pr.noTm }).cells.toArray := ⟨_, rfl⟩
 have HBL : Hid (Tryz.prog.built 54 [(3, .agg vF)] = some cF) := hdn (by rw [hvF, hcF]; exact valIt_built _)
 have HNT : Hid (∀ w, Calls Tryz.prog 116 #[.agg cF] w fun e w' => e = .returned (.bool true) ∧ Below w.heap.size w w') := hdn (fun w => by
  have := isNothing_any (valIt { x with kind := 0, left := Pr.noTm, right := Pr.noTm }) cF hcF w (valIt_lies _ w (noVal_hops hv))
  rwa [valIt_same _ hv] at this)
 clear hv hvF hcF
 obtain ⟨wA, hwA⟩ : ∃ wA : World, wA = w.alloc (.cells vs 49) := ⟨_, rfl⟩
 have HBA : Hid (Below w.heap.size w wA) := hdn (by rw [hwA]; exact (Below.refl _ _).alloc (Nat.le_refl _) _)
 have HK : Hid (Bk wA w.heap.size 49 vs) := hdn (by rw [hwA]; exact heap_alloc_new _ _)
 have HW := hdn hwA
 have HV := hdn hvs
 have HR0 := hdn hr; have HG0 := hdn hg; have HL0 := hdn hl
 have c0 := cell_at hr 0 _ rfl
 rw [k] at c0
 have HS := hdn hs; have HT := hdn ht
 clear hs ht
 clear hwA hr hvs hg hl k
 go_enter Tryz.func152, Tryz.ntmps152
 go_upto_region 2 with (first | ((with_reducible show wpList _ _ _ (Oper.mk (some 7) _ _ _ _ _ :: _) _ _); refine wpList_load_arr rfl 49 (.tmp 6) rfl b o rfl vs _ HR.out Tryz.underlying49 rfl HSI.out ?_) | ((with_reducible show wpList _ _ _ (Oper.mk none (Op.store 49 _ _) _ _ _ _ :: _) _ _); refine wpList_store_new rfl 49 (.tmp 3) (.tmp 7) rfl _ vs rfl rfl HSI.out HZ.out HON.out ?_))
 rw [← HW.out]
 obtain ⟨A, hA⟩ : ∃ A, A = w.heap.size := ⟨_, rfl⟩
 rw [← hA] at HK HBA ⊢
 have HA := hdn hA
 clear hA
 have d0 : wA.cell? ⟨A, 0, none⟩ = some (.int .i64 x.kind) := by have := HK.out; rw [HV.out] at this; exact this.cell 0
 have f0 := HK.out.frozen 0
 have gS := grownBy_setC wA ⟨A, 0, none⟩ (.int .i64 0)
 have HK2 : Hid (Bk (wA.setCell ⟨A, 0, none⟩ (.int .i64 0)) A 49 (Vl.cells { x with kind := 0 }).toArray) := hdn (by
  have := HK.out
  rw [HV.out] at this
  exact this.setArr 0 (.int .i64 0))
 have HB2 : Hid (Below w.heap.size w (wA.setCell ⟨A, 0, none⟩ (.int .i64 0))) := hdn (below_by (by rw [← HA.out]; exact HBA.out) gS (by rw [HA.out]; exact Nat.le_refl _))
 have e0 : (wA.setCell ⟨A, 0, none⟩ (.int .i64 0)).cell? ⟨b, o, none⟩ = some (.int .i64 6) := by
  have hlt := World.block_lt_of_cell? w _ c0
  have h1 : Below w.heap.size w (wA.setCell ⟨A, 0, none⟩ (.int .i64 0)) := HB2.out
  exact (h1.cell (p := ⟨b, o, none⟩) hlt).trans c0
 clear gS c0
 go_upto_region 3 with fail
 clear d0 f0
 generalize wA.setCell ⟨A, 0, none⟩ (.int .i64 0) = w2 at HK2 HB2 e0 ⊢
 go_upto_region 19 with (first | ((with_reducible show wpList _ _ _ (Oper.mk (some 45) _ _ _ _ _ :: _) _ _); refine wpList_zero rfl 47 rfl (some 45) rfl _ zTm_built ?_) | ((with_reducible show wpList _ _ _ (Oper.mk (some 46) _ _ _ _ _ :: _) _ _); refine wpList_zero rfl 47 rfl (some 46) rfl _ zTm_built ?_) | ((with_reducible show wpList _ _ _ (Oper.mk none (Op.store 47 _ _) _ _ _ _ :: _) _ _); refine wpList_store_part rfl 47 (.tmp 47) (.tmp 45) rfl A 6 49 (Vl.cells { x with kind := 0 }) (Tm.cells Pr.noTm) rfl rfl HK2.out size47v (by show 6 + 3 ≤ 12; decide) zTm_one ?_; intro w3 hk3 hg3; have HK3 : Hid (Bk w3 A 49 (Vl.cells { x with kind := 0, left := Pr.noTm }).toArray) := hdn hk3; have HG3 := hdn hg3; clear hk3 hg3 e0) | ((with_reducible show wpList _ _ _ (Oper.mk none (Op.store 47 _ _) _ _ _ _ :: _) _ _); refine wpList_store_part rfl 47 (.tmp 48) (.tmp 46) rfl A 9 49 (Vl.cells { x with kind := 0, left := Pr.noTm }) (Tm.cells Pr.noTm) rfl rfl HK3.out size47v (by show 9 + 3 ≤ 12; decide) zTm_one ?_; intro w4 hk4 hg4; have HK4 : Hid (Bk w4 A 49 (Vl.cells { x with kind := 0, left := Pr.noTm, right := Pr.noTm }).toArray) := hdn hk4; have HG4 := hdn hg4; clear hk4 hg4))
 have HB3 : Hid (Below w.heap.size w w3) := hdn (below_by HB2.out HG3.out (by rw [HA.out]; exact Nat.le_refl _))
 have HB4 : Hid (Below w.heap.size w w4) := hdn (below_by HB3.out HG4.out (by rw [HA.out]; exact Nat.le_refl _))
 have HC1 := hdn (isTerm_any x.left b (o + 6) w4 (HG0.out.below HB4.out HG0.out.two) HS.out (rangeAt_sub (rangeAt_below HR0.out HB4.out) 6 3 rfl))
 have HC2 := hdn (isTerm_any x.right b (o + 9) w4 (HG0.out.below HB4.out HG0.out.two) HT.out (rangeAt_sub (rangeAt_below HR0.out HB4.out) 9 3 rfl))
 have HKX : Hid (Bk w4 A 49 vF) := hdn (by rw [HVF.out]; exact HK4.out)
 go_wp2_with (first | (go_at_call 176; (with_reducible refine HC1.out.mono ?_); rintro e w5 ⟨rfl, rfl⟩) | (go_at_call 176; (with_reducible refine HC2.out.mono ?_); rintro e w5 ⟨rfl, rfl⟩) | ((with_reducible show wpList _ _ _ (Oper.mk (some 61) _ _ _ _ _ :: _) _ _); refine wpList_load_arr_g 49 (.tmp 3) rfl rfl A 0 rfl vF _ HKX.out.range Tryz.underlying49 rfl HSF.out ?_) | ((with_reducible show wpList _ _ _ (Oper.mk (some 62) _ _ _ _ _ :: _) _ _); refine wpList_build1_g 54 3 (.tmp 61) (.agg vF) rfl rfl rfl _ HBL.out ?_) | (go_at_call 116; refine (HNT.out _).mono ?_; rintro e w9 ⟨rfl, hb⟩; have HB9 := hdn (HB4.out.trans (hb.mono HB4.out.size)); clear hb))
 go_ret
 exact ⟨rfl, HB9.out⟩
/-- A value that may be. -/
theorem isValue_any (x : Vl) (b o : Nat) (w : World) (hg : Gl w) (ho : Pn.okVal x = true) (hr : w.rangeAt b o x.cells) (hl : vlLies w x) :
  Calls Tryz.prog 152 #[.pointer (some ⟨b, o, none⟩)] w fun e w' => e = .returned (.bool true) ∧ Below w.heap.size w w' := by
 unfold Pn.okVal at ho
 have nv : ∀ v : Vl, v.kind = 0 → (Pn.noP v.path && Pn.noT v.left && Pn.noT v.right && decide (Pn.txt v.type = [])) = true → Pn.noVal v = true := fun v h0 h => by
  unfold Pn.noVal Pn.okVal
  rw [if_pos (.inl h0), h, decide_eq_true h0]; rfl
 by_cases k03 : x.kind = 0 ∨ x.kind = 3
 ·rw [if_pos k03] at ho
  have hv := nv { x with kind := 0 } rfl ho
  rcases k03 with k | k
  ·exact isVal0 x b o w hg hr hl k hv
  ·exact isVal3 x b o w hg hr hl k hv
 rw [if_neg k03] at ho
 by_cases k1 : x.kind = 1
 ·rw [if_pos k1] at ho
  simp only [Bool.and_eq_true] at ho
  exact isVal1 x b o w hg hr hl k1 ho.2 (nv { x with kind := 0, path := Pr.noPth } rfl (by rw [show Pn.noT x.left = true from ho.1.1.1, show Pn.noT x.right = true from ho.1.1.2, ho.1.2]; rfl))
 rw [if_neg k1] at ho
 by_cases k2 : x.kind = 2
 ·rw [if_pos k2] at ho
  simp only [Bool.and_eq_true] at ho
  exact isVal2 x b o w hg hr hl k2 ho.2 (nv { x with kind := 0, type := ByteArray.empty } rfl (by rw [show Pn.noP x.path = true from ho.1.1.1, show Pn.noT x.left = true from ho.1.1.2, show Pn.noT x.right = true from ho.1.2]; rfl))
 rw [if_neg k2] at ho
 by_cases k4 : x.kind = 4
 ·rw [if_pos k4] at ho
  simp only [Bool.and_eq_true] at ho
  exact isVal4 x b o w hg hr hl k4 ho.2 (nv { x with kind := 0, left := { x.left with n := 0 } } rfl (by
   rw [show Pn.noP x.path = true from ho.1.1.1.1, show Pn.noT x.right = true from ho.1.1.1.2, ho.1.1.2]
   show (true && Pn.noT { x.left with n := 0 } && true && true) = true
   unfold Pn.noT
   rw [ho.1.2]; rfl))
 rw [if_neg k4] at ho
 by_cases k56 : x.kind = 5 ∨ x.kind = 6
 ·rw [if_pos k56] at ho
  simp only [Bool.and_eq_true] at ho
  have hv := nv { x with kind := 0, left := Pr.noTm, right := Pr.noTm } rfl (by rw [show Pn.noP x.path = true from ho.1.1.1, ho.1.1.2]; rfl)
  rcases k56 with k | k
  ·exact isVal5 x b o w hg hr hl k ho.1.2 ho.2 hv
  ·exact isVal6 x b o w hg hr hl k ho.1.2 ho.2 hv
 ·rw [if_neg k56] at ho; cases ho
theorem isSide_any (x : Vl) (b o : Nat) (w : World) (hg : Gl w) (ho : Pn.okSide x = true) (hr : w.rangeAt b o x.cells) (hl : vlLies w x) :
  Calls Tryz.prog 154 #[.pointer (some ⟨b, o, none⟩)] w fun e w' => e = .returned (.bool true) ∧ Below w.heap.size w w' := by
 unfold Pn.okSide at ho
 simp only [Bool.and_eq_true, Bool.or_eq_true, decide_eq_true_eq] at ho
 obtain ⟨hv, hk⟩ := ho
 have CV := hdn (isValue_any x b o w hg hv hr hl)
 have c0 := cell_at hr 0 _ rfl
 rw [Nat.add_zero] at c0
 clear hg hv hr hl
 rcases hk with (k | k) | k
 ·rw [k] at c0
  clear k
  go_enter Tryz.func154, Tryz.ntmps154
  go_wp2_with (go_at_call 152; refine CV.out.mono ?_; rintro e w1 ⟨rfl, hb⟩; have HB1 := hdn hb; clear hb)
  go_ret
  exact ⟨rfl, HB1.out⟩
 ·rw [k] at c0
  clear k
  go_enter Tryz.func154, Tryz.ntmps154
  go_wp2_with (go_at_call 152; refine CV.out.mono ?_; rintro e w1 ⟨rfl, hb⟩; have HB1 := hdn hb; clear hb)
  go_ret
  exact ⟨rfl, HB1.out⟩
 ·rw [k] at c0
  clear k
  go_enter Tryz.func154, Tryz.ntmps154
  go_wp2_with (go_at_call 152; refine CV.out.mono ?_; rintro e w1 ⟨rfl, hb⟩; have HB1 := hdn hb; clear hb)
  go_ret
  exact ⟨rfl, HB1.out⟩
/-- A statement of this condition alone. -/
def condIt (c : Cd) : It := { zIt with h := { Pr.noHd with cond := c } }
theorem condIt_built (c : Cd) : Tryz.prog.built 54 [(4, .agg (Cd.cells c).toArray)] = some (condIt c).cells.toArray := by kernel_rfl
theorem condIt_lies (c : Cd) (w : World) (h : Pn.noCond c = true) : itLies w (condIt c) := by
 unfold Pn.noCond at h
 simp only [Bool.and_eq_true] at h
 exact ⟨⟨no_lies .., no_lies .., nil_lies _ _ _ _ _ (noVal_hops h.1.2), nil_lies _ _ _ _ _ (noVal_hops h.2), no_lies .., noName⟩, ⟨noLen, .inl rfl⟩, ⟨noLen, .inl rfl⟩⟩
theorem condIt_same (c : Cd) (h : Pn.noCond c = true) : sameSL zIt.one (condIt c).one = true := by
 have e : (condIt c).one.er = zIt.one.er := by
  show SL.cons { Pr.noHd.er with cond := c.er } none 0 SL.nil none 0 SL.nil SL.nil = _
  rw [Pn.noCond_er h]; rfl
 rw [sameSL_er, e]; exact sameSL_refl _
theorem size51c : (Tryz.prog.info? 51).map (·.size) = some 26 := by kernel_rfl
theorem isCond0 (c : Cd) (b o : Nat) (w : World) (hc : Pn.noCond c = true) (hr : w.rangeAt b o c.cells) :
  Calls Tryz.prog 155 #[.pointer (some ⟨b, o, none⟩)] w fun e w' => e = .returned (.bool true) ∧ Below w.heap.size w w' := by
 obtain ⟨vs, hvs⟩ : ∃ vs, vs = (Cd.cells c).toArray := ⟨_, rfl⟩
 have HR : Hid (w.rangeAt b o vs.toList) := hdn (by rw [hvs]; exact hr)
 have HSI : Hid ((Tryz.prog.info? 51).map (·.size) = some vs.size) := hdn (by rw [hvs]; exact size51c)
 obtain ⟨cF, hcF⟩ : ∃ cF, cF = (condIt c).cells.toArray := ⟨_, rfl⟩
 have HBL : Hid (Tryz.prog.built 54 [(4, .agg vs)] = some cF) := hdn (by rw [hvs, hcF]; exact condIt_built _)
 have HNT : Hid (Calls Tryz.prog 116 #[.agg cF] w fun e w' => e = .returned (.bool true) ∧ Below w.heap.size w w') := hdn (by
  have := isNothing_any (condIt c) cF hcF w (condIt_lies _ w hc)
  rwa [condIt_same _ hc] at this)
 have c0 := cell_at hr 0 _ rfl
 have k : c.kind = 0 := by
  unfold Pn.noCond at hc
  simp only [Bool.and_eq_true, decide_eq_true_eq] at hc
  exact hc.1.1
 rw [k, Nat.add_zero] at c0
 clear hc hr hvs hcF k
 go_enter Tryz.func155, Tryz.ntmps155
 go_wp2_with (first | ((with_reducible show wpList _ _ _ (Oper.mk (some 11) _ _ _ _ _ :: _) _ _); refine wpList_load_arr rfl 51 (.tmp 10) rfl b o rfl vs _ HR.out Tryz.underlying51 rfl HSI.out ?_) | ((with_reducible show wpList _ _ _ (Oper.mk (some 12) _ _ _ _ _ :: _) _ _); refine wpList_build1_g 54 4 (.tmp 11) (.agg vs) rfl rfl rfl _ HBL.out ?_) | (go_at_call 116; refine HNT.out.mono ?_; rintro e w9 ⟨rfl, hb⟩; have HB9 := hdn hb; clear hb))
 go_ret
 exact ⟨rfl, HB9.out⟩
theorem isCond_any (c : Cd) (b o : Nat) (w : World) (hg : Gl w) (ho : Pn.okCond c = true) (hr : w.rangeAt b o c.cells) (hl : vlLies w c.left) (hrr : vlLies w c.right) :
  Calls Tryz.prog 155 #[.pointer (some ⟨b, o, none⟩)] w fun e w' => e = .returned (.bool true) ∧ Below w.heap.size w w' := by
 unfold Pn.okCond at ho
 by_cases k0 : c.kind = 0
 ·rw [if_pos k0] at ho
  exact isCond0 c b o w ho hr
 rw [if_neg k0] at ho
 simp only [Bool.and_eq_true, decide_eq_true_eq] at ho
 have CL := hdn (isSide_any c.left b (o + 2) w hg ho.1.2 (rangeAt_sub hr 2 12 rfl) hl)
 have CR : Hid (∀ w', Below w.heap.size w w' → Calls Tryz.prog 154 #[.pointer (some ⟨b, o + 14, none⟩)] w' fun e w'' => e = .returned (.bool true) ∧ Below w'.heap.size w' w'') :=
  hdn (fun w' hb => isSide_any c.right b (o + 14) w' (hg.below hb hg.two) ho.2 (rangeAt_sub (rangeAt_below hr hb) 14 12 rfl) (vlLies_below hrr hb))
 have c0 := cell_at hr 0 _ rfl
 rw [Nat.add_zero] at c0
 have hk : c.kind = 1 ∨ c.kind = 2 ∨ c.kind = 3 ∨ c.kind = 4 := by omega
 clear hg hr hl hrr k0 ho
 rcases hk with k | k | k | k
 ·rw [k] at c0
  clear k
  go_enter Tryz.func155, Tryz.ntmps155
  go_wp2_with (first | (go_at_call 154; (with_reducible refine CL.out.mono ?_); rintro e w1 ⟨rfl, hb⟩; have HB1 := hdn hb; clear hb) | (go_at_call 154; (with_reducible refine (CR.out _ HB1.out).mono ?_); rintro e w2 ⟨rfl, hb⟩; have HB2 := hdn (HB1.out.trans (hb.mono HB1.out.size)); clear hb))
  go_ret
  exact ⟨rfl, HB2.out⟩
 ·rw [k] at c0
  clear k
  go_enter Tryz.func155, Tryz.ntmps155
  go_wp2_with (first | (go_at_call 154; (with_reducible refine CL.out.mono ?_); rintro e w1 ⟨rfl, hb⟩; have HB1 := hdn hb; clear hb) | (go_at_call 154; (with_reducible refine (CR.out _ HB1.out).mono ?_); rintro e w2 ⟨rfl, hb⟩; have HB2 := hdn (HB1.out.trans (hb.mono HB1.out.size)); clear hb))
  go_ret
  exact ⟨rfl, HB2.out⟩
 ·rw [k] at c0
  clear k
  go_enter Tryz.func155, Tryz.ntmps155
  go_wp2_with (first | (go_at_call 154; (with_reducible refine CL.out.mono ?_); rintro e w1 ⟨rfl, hb⟩; have HB1 := hdn hb; clear hb) | (go_at_call 154; (with_reducible refine (CR.out _ HB1.out).mono ?_); rintro e w2 ⟨rfl, hb⟩; have HB2 := hdn (HB1.out.trans (hb.mono HB1.out.size)); clear hb))
  go_ret
  exact ⟨rfl, HB2.out⟩
 ·rw [k] at c0
  clear k
  go_enter Tryz.func155, Tryz.ntmps155
  go_wp2_with (first | (go_at_call 154; (with_reducible refine CL.out.mono ?_); rintro e w1 ⟨rfl, hb⟩; have HB1 := hdn hb; clear hb) | (go_at_call 154; (with_reducible refine (CR.out _ HB1.out).mono ?_); rintro e w2 ⟨rfl, hb⟩; have HB2 := hdn (HB1.out.trans (hb.mono HB1.out.size)); clear hb))
  go_ret
  exact ⟨rfl, HB2.out⟩
end Go.Proofs.YtdlchhimkelinaaGreatDoor
namespace Go.Proofs.YtdlchhimkelinaaGreatDoor
open Go.RowKit Go.Sort
theorem besides0g (x : It) (cs : Array Value) (hcs : cs = x.cells.toArray) (w : World) (k : x.h.kind = 0) :
  Calls Tryz.prog 117 #[.agg cs] w fun e w' => e = .returned (.agg (It.cells { x with h := { x.h with kind := 0 } }).toArray) ∧ Below w.heap.size w w' := by
 obtain ⟨wA, hwA⟩ : ∃ wA : World, wA = (w.alloc (.cells cs 54)).alloc (.cells zIt.cells.toArray 54) := ⟨_, rfl⟩
 have HBA : Hid (Below w.heap.size w wA) := hdn (by rw [hwA]; exact ((Below.refl _ _).alloc (Nat.le_refl _) _).alloc (by simp) _)
 have HK : Hid (Bk wA w.heap.size 54 x.cells.toArray) := hdn (by rw [hwA, ← hcs]; exact heap_alloc2_old _ _ _)
 have HR : Hid (Bk wA (w.heap.size + 1) 54 zIt.cells.toArray) := hdn (by rw [hwA]; exact heap_alloc2_new _ _ _)
 have Z_k := hdn k
 clear k hcs
 go_enter Tryz.func117, Tryz.ntmps117
 go_upto_region 1 with fail
 change Code.wp _ _ _ _ ((w.alloc (.cells cs 54)).alloc (.cells zIt.cells.toArray 54))
 rw [← hwA]
 clear hwA
 obtain ⟨A, hA⟩ : ∃ A, A = w.heap.size := ⟨_, rfl⟩
 rw [← hA] at HK HR HBA ⊢
 have HA := hdn hA
 clear hA
 have HBw : Hid (Below w.heap.size w wA) := hdn (by rw [← HA.out]; exact HBA.out)
 have HKw : Hid (Bk wA A 54 (It.cells x).toArray) := HK
 have c0 : wA.cell? ⟨A, 0, none⟩ = some (.int .i64 x.h.kind) := HK.out.cell 0
 rw [Z_k.out] at c0
 clear HK HBA
 have q0 : wA.cell? ⟨A, 0, none⟩ = some (.int .i64 x.h.kind) := HKw.out.cell 0
 clear c0
 rw [Z_k.out] at q0
 have f0 := HKw.out.frozen 0
 have gS := grownBy_setC wA ⟨A, 0, none⟩ (.int .i64 0)
 have HK3 : Hid (Bk (wA.setCell ⟨A, 0, none⟩ (.int .i64 0)) A 54 (It.cells { x with h := { x.h with kind := 0 } }).toArray) := hdn (HKw.out.setArr 0 (.int .i64 0))
 have HR3 := hdn (HR.out.kept gS (by show A + 1 ≠ A; omega))
 have HB3 : Hid (Below w.heap.size w (wA.setCell ⟨A, 0, none⟩ (.int .i64 0))) := hdn (below_by HBw.out gS (by rw [HA.out]; exact Nat.le_refl _))
 clear gS
 go_wp2_with (first | ((with_reducible show wpList _ _ _ (Oper.mk (some 37) _ _ _ _ _ :: _) _ _); refine wpList_load_bk rfl 54 (.tmp 1) rfl A 54 (It.cells { x with h := { x.h with kind := 0 } }).toArray rfl _ HK3.out Tryz.underlying54 rfl size57 ?_) | ((with_reducible show wpList _ _ _ (Oper.mk none (Op.store 54 _ _) _ _ _ _ :: _) _ _); refine wpList_store_bk rfl 54 (.tmp 2) (.tmp 37) rfl (A + 1) 54 _ (It.cells { x with h := { x.h with kind := 0 } }).toArray rfl rfl HR3.out size57 rfl (scells_one _ _ _ _ _ _ _) ?_; intro wZ hZ hF))
 exact bodyPost_ret (results_cell_row Tryz.results117 _ wZ (A + 1) 54 (It.cells { x with h := { x.h with kind := 0 } }).toArray (0, 0) _ rfl hZ Tryz.underlying54 rfl size57) rfl ⟨rfl, below_by HB3.out hF (by rw [HA.out]; exact Nat.le_succ _)⟩
theorem besides2g (x : It) (cs : Array Value) (hcs : cs = x.cells.toArray) (w : World) (k : x.h.kind = 2) :
  Calls Tryz.prog 117 #[.agg cs] w fun e w' => e = .returned (.agg (It.cells { x with h := { x.h with kind := 0, place := Pr.noPth } }).toArray) ∧ Below w.heap.size w w' := by
 obtain ⟨wA, hwA⟩ : ∃ wA : World, wA = (w.alloc (.cells cs 54)).alloc (.cells zIt.cells.toArray 54) := ⟨_, rfl⟩
 have HBA : Hid (Below w.heap.size w wA) := hdn (by rw [hwA]; exact ((Below.refl _ _).alloc (Nat.le_refl _) _).alloc (by simp) _)
 have HK : Hid (Bk wA w.heap.size 54 x.cells.toArray) := hdn (by rw [hwA, ← hcs]; exact heap_alloc2_old _ _ _)
 have HR : Hid (Bk wA (w.heap.size + 1) 54 zIt.cells.toArray) := hdn (by rw [hwA]; exact heap_alloc2_new _ _ _)
 have Z_k := hdn k
 clear k hcs
 go_enter Tryz.func117, Tryz.ntmps117
 go_upto_region 1 with fail
 change Code.wp _ _ _ _ ((w.alloc (.cells cs 54)).alloc (.cells zIt.cells.toArray 54))
 rw [← hwA]
 clear hwA
 obtain ⟨A, hA⟩ : ∃ A, A = w.heap.size := ⟨_, rfl⟩
 rw [← hA] at HK HR HBA ⊢
 have HA := hdn hA
 clear hA
 have HBw : Hid (Below w.heap.size w wA) := hdn (by rw [← HA.out]; exact HBA.out)
 have HKw : Hid (Bk wA A 54 (It.cells x).toArray) := HK
 have c0 : wA.cell? ⟨A, 0, none⟩ = some (.int .i64 x.h.kind) := HK.out.cell 0
 rw [Z_k.out] at c0
 clear HK HBA
 go_upto_region 16 with (first | ((with_reducible show wpList _ _ _ (Oper.mk (some 13) _ _ _ _ _ :: _) _ _); refine wpList_zero rfl 45 rfl (some 13) rfl _ zPth_built ?_) | ((with_reducible show wpList _ _ _ (Oper.mk none (Op.store 45 _ _) _ _ _ _ :: _) _ _); refine wpList_store_part rfl 45 (.tmp 14) (.tmp 13) rfl A 2 54 (It.cells x) (Pth.cells Pr.noPth) rfl rfl HKw.out size45p (by show 2 + 3 ≤ 48; decide) zPth_one ?_; intro v1 hk hg; have HKn : Hid (Bk v1 A 54 (It.cells { x with h := { x.h with place := Pr.noPth } }).toArray) := hdn hk; have HG := hdn hg; clear hk hg c0))
 have HBn : Hid (Below w.heap.size w v1) := hdn (below_by HBw.out HG.out (by rw [HA.out]; exact Nat.le_refl _))
 have HRn := hdn (HR.out.kept HG.out (by omega))
 clear HKw HBw HR
 have HKw := HKn; have HBw := HBn; have HR := HRn
 clear HKn HBn HRn
 have q0 : v1.cell? ⟨A, 0, none⟩ = some (.int .i64 x.h.kind) := HKw.out.cell 0
 have f0 := HKw.out.frozen 0
 have gS := grownBy_setC v1 ⟨A, 0, none⟩ (.int .i64 0)
 have HK3 : Hid (Bk (v1.setCell ⟨A, 0, none⟩ (.int .i64 0)) A 54 (It.cells { x with h := { x.h with kind := 0, place := Pr.noPth } }).toArray) := hdn (HKw.out.setArr 0 (.int .i64 0))
 have HR3 := hdn (HR.out.kept gS (by show A + 1 ≠ A; omega))
 have HB3 : Hid (Below w.heap.size w (v1.setCell ⟨A, 0, none⟩ (.int .i64 0))) := hdn (below_by HBw.out gS (by rw [HA.out]; exact Nat.le_refl _))
 clear gS
 go_wp2_with (first | ((with_reducible show wpList _ _ _ (Oper.mk (some 37) _ _ _ _ _ :: _) _ _); refine wpList_load_bk rfl 54 (.tmp 1) rfl A 54 (It.cells { x with h := { x.h with kind := 0, place := Pr.noPth } }).toArray rfl _ HK3.out Tryz.underlying54 rfl size57 ?_) | ((with_reducible show wpList _ _ _ (Oper.mk none (Op.store 54 _ _) _ _ _ _ :: _) _ _); refine wpList_store_bk rfl 54 (.tmp 2) (.tmp 37) rfl (A + 1) 54 _ (It.cells { x with h := { x.h with kind := 0, place := Pr.noPth } }).toArray rfl rfl HR3.out size57 rfl (scells_one _ _ _ _ _ _ _) ?_; intro wZ hZ hF))
 exact bodyPost_ret (results_cell_row Tryz.results117 _ wZ (A + 1) 54 (It.cells { x with h := { x.h with kind := 0, place := Pr.noPth } }).toArray (0, 0) _ rfl hZ Tryz.underlying54 rfl size57) rfl ⟨rfl, below_by HB3.out hF (by rw [HA.out]; exact Nat.le_succ _)⟩
theorem besides3g (x : It) (cs : Array Value) (hcs : cs = x.cells.toArray) (w : World) (k : x.h.kind = 3) :
  Calls Tryz.prog 117 #[.agg cs] w fun e w' => e = .returned (.agg (It.cells { x with h := { x.h with kind := 0, name := ByteArray.empty, args := ⟨none, 0, []⟩ } }).toArray) ∧ Below w.heap.size w w' := by
 obtain ⟨wA, hwA⟩ : ∃ wA : World, wA = (w.alloc (.cells cs 54)).alloc (.cells zIt.cells.toArray 54) := ⟨_, rfl⟩
 have HBA : Hid (Below w.heap.size w wA) := hdn (by rw [hwA]; exact ((Below.refl _ _).alloc (Nat.le_refl _) _).alloc (by simp) _)
 have HK : Hid (Bk wA w.heap.size 54 x.cells.toArray) := hdn (by rw [hwA, ← hcs]; exact heap_alloc2_old _ _ _)
 have HR : Hid (Bk wA (w.heap.size + 1) 54 zIt.cells.toArray) := hdn (by rw [hwA]; exact heap_alloc2_new _ _ _)
 have Z_k := hdn k
 clear k hcs
 go_enter Tryz.func117, Tryz.ntmps117
 go_upto_region 1 with fail
 change Code.wp _ _ _ _ ((w.alloc (.cells cs 54)).alloc (.cells zIt.cells.toArray 54))
 rw [← hwA]
 clear hwA
 obtain ⟨A, hA⟩ : ∃ A, A = w.heap.size := ⟨_, rfl⟩
 rw [← hA] at HK HR HBA ⊢
 have HA := hdn hA
 clear hA
 have HBw : Hid (Below w.heap.size w wA) := hdn (by rw [← HA.out]; exact HBA.out)
 have HKw : Hid (Bk wA A 54 (It.cells x).toArray) := HK
 have c0 : wA.cell? ⟨A, 0, none⟩ = some (.int .i64 x.h.kind) := HK.out.cell 0
 rw [Z_k.out] at c0
 clear HK HBA
 have d43 : (wA).cell? ⟨A, 43, none⟩ = some (.string x.h.name) := HKw.out.cell 43
 have f43 := HKw.out.frozen 43
 have g43 := grownBy_setC (wA) ⟨A, 43, none⟩ (.string ⟨#[]⟩)
 have HK43 : Hid (Bk ((wA).setCell ⟨A, 43, none⟩ (.string ⟨#[]⟩)) A 54 (It.cells { x with h := { x.h with name := ByteArray.empty } }).toArray) := hdn (HKw.out.setArr 43 (.string ⟨#[]⟩))
 have HR43 := hdn (HR.out.kept g43 (by show A + 1 ≠ A; omega))
 have HB43 : Hid (Below w.heap.size w ((wA).setCell ⟨A, 43, none⟩ (.string ⟨#[]⟩))) := hdn (below_by HBw.out g43 (by rw [HA.out]; exact Nat.le_refl _))
 clear g43
 have d44 : ((wA).setCell ⟨A, 43, none⟩ (.string ⟨#[]⟩)).cell? ⟨A, 44, none⟩ = some (.slice x.h.args.p x.h.args.l.length x.h.args.cap) := HK43.out.cell 44
 have f44 := HK43.out.frozen 44
 have g44 := grownBy_setC ((wA).setCell ⟨A, 43, none⟩ (.string ⟨#[]⟩)) ⟨A, 44, none⟩ (.slice none 0 0)
 have HK44 : Hid (Bk (((wA).setCell ⟨A, 43, none⟩ (.string ⟨#[]⟩)).setCell ⟨A, 44, none⟩ (.slice none 0 0)) A 54 (It.cells { x with h := { x.h with name := ByteArray.empty, args := ⟨none, 0, []⟩ } }).toArray) := hdn (HK43.out.setArr 44 (.slice none 0 0))
 have HR44 := hdn (HR43.out.kept g44 (by show A + 1 ≠ A; omega))
 have HB44 : Hid (Below w.heap.size w (((wA).setCell ⟨A, 43, none⟩ (.string ⟨#[]⟩)).setCell ⟨A, 44, none⟩ (.slice none 0 0))) := hdn (below_by HB43.out g44 (by rw [HA.out]; exact Nat.le_refl _))
 clear g44
 go_upto_region 16 with fail
 clear d43 f43 d44 f44 c0 HKw HBw HR
 clear HK43 HR43 HB43
 change Code.wp _ _ _ _ (((wA).setCell ⟨A, 43, none⟩ (.string ⟨#[]⟩)).setCell ⟨A, 44, none⟩ (.slice none 0 0))
 generalize hq1 : ((wA).setCell ⟨A, 43, none⟩ (.string ⟨#[]⟩)).setCell ⟨A, 44, none⟩ (.slice none 0 0) = v1 at HK44 HB44 HR44 ⊢
 clear hq1
 have HKw := HK44; have HBw := HB44; have HR := HR44
 clear HK44 HB44 HR44
 have q0 : v1.cell? ⟨A, 0, none⟩ = some (.int .i64 x.h.kind) := HKw.out.cell 0
 have f0 := HKw.out.frozen 0
 have gS := grownBy_setC v1 ⟨A, 0, none⟩ (.int .i64 0)
 have HK3 : Hid (Bk (v1.setCell ⟨A, 0, none⟩ (.int .i64 0)) A 54 (It.cells { x with h := { x.h with kind := 0, name := ByteArray.empty, args := ⟨none, 0, []⟩ } }).toArray) := hdn (HKw.out.setArr 0 (.int .i64 0))
 have HR3 := hdn (HR.out.kept gS (by show A + 1 ≠ A; omega))
 have HB3 : Hid (Below w.heap.size w (v1.setCell ⟨A, 0, none⟩ (.int .i64 0))) := hdn (below_by HBw.out gS (by rw [HA.out]; exact Nat.le_refl _))
 clear gS
 go_wp2_with (first | ((with_reducible show wpList _ _ _ (Oper.mk (some 37) _ _ _ _ _ :: _) _ _); refine wpList_load_bk rfl 54 (.tmp 1) rfl A 54 (It.cells { x with h := { x.h with kind := 0, name := ByteArray.empty, args := ⟨none, 0, []⟩ } }).toArray rfl _ HK3.out Tryz.underlying54 rfl size57 ?_) | ((with_reducible show wpList _ _ _ (Oper.mk none (Op.store 54 _ _) _ _ _ _ :: _) _ _); refine wpList_store_bk rfl 54 (.tmp 2) (.tmp 37) rfl (A + 1) 54 _ (It.cells { x with h := { x.h with kind := 0, name := ByteArray.empty, args := ⟨none, 0, []⟩ } }).toArray rfl rfl HR3.out size57 rfl (scells_one _ _ _ _ _ _ _) ?_; intro wZ hZ hF))
 exact bodyPost_ret (results_cell_row Tryz.results117 _ wZ (A + 1) 54 (It.cells { x with h := { x.h with kind := 0, name := ByteArray.empty, args := ⟨none, 0, []⟩ } }).toArray (0, 0) _ rfl hZ Tryz.underlying54 rfl size57) rfl ⟨rfl, below_by HB3.out hF (by rw [HA.out]; exact Nat.le_succ _)⟩
theorem besides6g (x : It) (cs : Array Value) (hcs : cs = x.cells.toArray) (w : World) (k : x.h.kind = 6) :
  Calls Tryz.prog 117 #[.agg cs] w fun e w' => e = .returned (.agg (It.cells { x with h := { x.h with kind := 0 }, tp := none, tc := 0, t := .nil }).toArray) ∧ Below w.heap.size w w' := by
 obtain ⟨wA, hwA⟩ : ∃ wA : World, wA = (w.alloc (.cells cs 54)).alloc (.cells zIt.cells.toArray 54) := ⟨_, rfl⟩
 have HBA : Hid (Below w.heap.size w wA) := hdn (by rw [hwA]; exact ((Below.refl _ _).alloc (Nat.le_refl _) _).alloc (by simp) _)
 have HK : Hid (Bk wA w.heap.size 54 x.cells.toArray) := hdn (by rw [hwA, ← hcs]; exact heap_alloc2_old _ _ _)
 have HR : Hid (Bk wA (w.heap.size + 1) 54 zIt.cells.toArray) := hdn (by rw [hwA]; exact heap_alloc2_new _ _ _)
 have Z_k := hdn k
 clear k hcs
 go_enter Tryz.func117, Tryz.ntmps117
 go_upto_region 1 with fail
 change Code.wp _ _ _ _ ((w.alloc (.cells cs 54)).alloc (.cells zIt.cells.toArray 54))
 rw [← hwA]
 clear hwA
 obtain ⟨A, hA⟩ : ∃ A, A = w.heap.size := ⟨_, rfl⟩
 rw [← hA] at HK HR HBA ⊢
 have HA := hdn hA
 clear hA
 have HBw : Hid (Below w.heap.size w wA) := hdn (by rw [← HA.out]; exact HBA.out)
 have HKw : Hid (Bk wA A 54 (It.cells x).toArray) := HK
 have c0 : wA.cell? ⟨A, 0, none⟩ = some (.int .i64 x.h.kind) := HK.out.cell 0
 rw [Z_k.out] at c0
 clear HK HBA
 have d45 : (wA).cell? ⟨A, 45, none⟩ = some (.slice x.tp x.t.len x.tc) := HKw.out.cell 45
 have f45 := HKw.out.frozen 45
 have g45 := grownBy_setC (wA) ⟨A, 45, none⟩ (.slice none 0 0)
 have HK45 : Hid (Bk ((wA).setCell ⟨A, 45, none⟩ (.slice none 0 0)) A 54 (It.cells { x with tp := none, tc := 0, t := .nil }).toArray) := hdn (HKw.out.setArr 45 (.slice none 0 0))
 have HR45 := hdn (HR.out.kept g45 (by show A + 1 ≠ A; omega))
 have HB45 : Hid (Below w.heap.size w ((wA).setCell ⟨A, 45, none⟩ (.slice none 0 0))) := hdn (below_by HBw.out g45 (by rw [HA.out]; exact Nat.le_refl _))
 clear g45
 go_upto_region 16 with fail
 clear d45 f45 c0 HKw HBw HR
 change Code.wp _ _ _ _ ((wA).setCell ⟨A, 45, none⟩ (.slice none 0 0))
 generalize hq1 : (wA).setCell ⟨A, 45, none⟩ (.slice none 0 0) = v1 at HK45 HB45 HR45 ⊢
 clear hq1
 have HKw := HK45; have HBw := HB45; have HR := HR45
 clear HK45 HB45 HR45
 have q0 : v1.cell? ⟨A, 0, none⟩ = some (.int .i64 x.h.kind) := HKw.out.cell 0
 have f0 := HKw.out.frozen 0
 have gS := grownBy_setC v1 ⟨A, 0, none⟩ (.int .i64 0)
 have HK3 : Hid (Bk (v1.setCell ⟨A, 0, none⟩ (.int .i64 0)) A 54 (It.cells { x with h := { x.h with kind := 0 }, tp := none, tc := 0, t := .nil }).toArray) := hdn (HKw.out.setArr 0 (.int .i64 0))
 have HR3 := hdn (HR.out.kept gS (by show A + 1 ≠ A; omega))
 have HB3 : Hid (Below w.heap.size w (v1.setCell ⟨A, 0, none⟩ (.int .i64 0))) := hdn (below_by HBw.out gS (by rw [HA.out]; exact Nat.le_refl _))
 clear gS
 go_wp2_with (first | ((with_reducible show wpList _ _ _ (Oper.mk (some 37) _ _ _ _ _ :: _) _ _); refine wpList_load_bk rfl 54 (.tmp 1) rfl A 54 (It.cells { x with h := { x.h with kind := 0 }, tp := none, tc := 0, t := .nil }).toArray rfl _ HK3.out Tryz.underlying54 rfl size57 ?_) | ((with_reducible show wpList _ _ _ (Oper.mk none (Op.store 54 _ _) _ _ _ _ :: _) _ _); refine wpList_store_bk rfl 54 (.tmp 2) (.tmp 37) rfl (A + 1) 54 _ (It.cells { x with h := { x.h with kind := 0 }, tp := none, tc := 0, t := .nil }).toArray rfl rfl HR3.out size57 rfl (scells_one _ _ _ _ _ _ _) ?_; intro wZ hZ hF))
 exact bodyPost_ret (results_cell_row Tryz.results117 _ wZ (A + 1) 54 (It.cells { x with h := { x.h with kind := 0 }, tp := none, tc := 0, t := .nil }).toArray (0, 0) _ rfl hZ Tryz.underlying54 rfl size57) rfl ⟨rfl, below_by HB3.out hF (by rw [HA.out]; exact Nat.le_succ _)⟩
end Go.Proofs.YtdlchhimkelinaaGreatDoor
namespace Go.Proofs.YtdlchhimkelinaaGreatDoor
open Go.RowKit Go.Sort
theorem putC_cond4 (x : It) (c : Cd) : putC (It.cells x) 17 (Cd.cells c) = It.cells { x with h := { x.h with cond := c } } := by kernel_rfl
theorem zCd_built4 : Tryz.prog.built 51 [] = some (Cd.cells Pr.noCd).toArray := by kernel_rfl
theorem besides4h (zc : Cd) (hz : Hid (Tryz.prog.built 51 [] = some (Cd.cells zc).toArray)) (x : It) (cs : Array Value) (hcs : cs = x.cells.toArray) (w : World) (k : x.h.kind = 4) (hb0 : x.h.both = false) :
  Calls Tryz.prog 117 #[.agg cs] w fun e w' => e = .returned (.agg (It.cells { x with h := { x.h with kind := 0, cond := zc }, tp := none, tc := 0, t := .nil }).toArray) ∧ Below w.heap.size w w' := by
 obtain ⟨wA, hwA⟩ : ∃ wA : World, wA = (w.alloc (.cells cs 54)).alloc (.cells zIt.cells.toArray 54) := ⟨_, rfl⟩
 have HBA : Hid (Below w.heap.size w wA) := hdn (by rw [hwA]; exact ((Below.refl _ _).alloc (Nat.le_refl _) _).alloc (by simp) _)
 have HK : Hid (Bk wA w.heap.size 54 x.cells.toArray) := hdn (by rw [hwA, ← hcs]; exact heap_alloc2_old _ _ _)
 have HR : Hid (Bk wA (w.heap.size + 1) 54 zIt.cells.toArray) := hdn (by rw [hwA]; exact heap_alloc2_new _ _ _)
 have Z_k := hdn k
 have Z_b := hdn hb0
 clear k hcs hb0
 go_enter Tryz.func117, Tryz.ntmps117
 go_upto_region 1 with fail
 change Code.wp _ _ _ _ ((w.alloc (.cells cs 54)).alloc (.cells zIt.cells.toArray 54))
 rw [← hwA]
 clear hwA
 obtain ⟨A, hA⟩ : ∃ A, A = w.heap.size := ⟨_, rfl⟩
 rw [← hA] at HK HR HBA ⊢
 have HA := hdn hA
 clear hA
 have HBw : Hid (Below w.heap.size w wA) := hdn (by rw [← HA.out]; exact HBA.out)
 have HKw : Hid (Bk wA A 54 (It.cells x).toArray) := HK
 have c0 : wA.cell? ⟨A, 0, none⟩ = some (.int .i64 x.h.kind) := HK.out.cell 0
 rw [Z_k.out] at c0
 clear HK HBA
 go_upto_region 10 with (first | ((with_reducible show wpList _ _ _ (Oper.mk (some 21) _ _ _ _ _ :: _) _ _); refine wpList_zero rfl 51 rfl (some 21) rfl _ hz.out ?_) | ((with_reducible show wpList _ _ _ (Oper.mk none (Op.store 51 _ _) _ _ _ _ :: _) _ _); refine wpList_store_part rfl 51 (.tmp 22) (.tmp 21) rfl A 17 54 (It.cells x) (Cd.cells zc) rfl rfl HKw.out size51c (by show 17 + 26 ≤ 48; decide) (kCd.one zc) ?_; intro v1 hk hg; rw [putC_cond4] at hk; have HKn : Hid (Bk v1 A 54 (It.cells { x with h := { x.h with cond := zc } }).toArray) := hdn hk; have HG := hdn hg; clear hk hg c0; have d45 : v1.cell? ⟨A, 45, none⟩ = some (.slice x.tp x.t.len x.tc) := HKn.out.cell 45; have f45 := HKn.out.frozen 45))
 clear d45 f45
 have HBn : Hid (Below w.heap.size w v1) := hdn (below_by HBw.out HG.out (by rw [HA.out]; exact Nat.le_refl _))
 have HRn := hdn (HR.out.kept HG.out (by omega))
 clear HKw HBw HR
 have g2 := grownBy_setC v1 ⟨A, 45, none⟩ (.slice none 0 0)
 have HKw : Hid (Bk (v1.setCell ⟨A, 45, none⟩ (.slice none 0 0)) A 54 (It.cells { x with h := { x.h with cond := zc }, tp := none, tc := 0, t := .nil }).toArray) := hdn (HKn.out.setArr 45 (.slice none 0 0))
 have HR := hdn (HRn.out.kept g2 (by show A + 1 ≠ A; omega))
 have HBw : Hid (Below w.heap.size w (v1.setCell ⟨A, 45, none⟩ (.slice none 0 0))) := hdn (below_by HBn.out g2 (by rw [HA.out]; exact Nat.le_refl _))
 clear g2 HKn HBn HRn
 change Code.wp _ _ _ _ (v1.setCell ⟨A, 45, none⟩ (.slice none 0 0))
 generalize hq : v1.setCell ⟨A, 45, none⟩ (.slice none 0 0) = u1 at HKw HBw HR ⊢
 clear hq
 have d47 : u1.cell? ⟨A, 47, none⟩ = some (.bool x.h.both) := HKw.out.cell 47
 rw [Z_b.out] at d47
 have q0 : u1.cell? ⟨A, 0, none⟩ = some (.int .i64 x.h.kind) := HKw.out.cell 0
 have f0 := HKw.out.frozen 0
 have gS := grownBy_setC u1 ⟨A, 0, none⟩ (.int .i64 0)
 have HK3 : Hid (Bk (u1.setCell ⟨A, 0, none⟩ (.int .i64 0)) A 54 (It.cells { x with h := { x.h with kind := 0, cond := zc }, tp := none, tc := 0, t := .nil }).toArray) := hdn (HKw.out.setArr 0 (.int .i64 0))
 have HR3 := hdn (HR.out.kept gS (by show A + 1 ≠ A; omega))
 have HB3 : Hid (Below w.heap.size w (u1.setCell ⟨A, 0, none⟩ (.int .i64 0))) := hdn (below_by HBw.out gS (by rw [HA.out]; exact Nat.le_refl _))
 clear gS
 go_wp2_with (first | ((with_reducible show wpList _ _ _ (Oper.mk (some 37) _ _ _ _ _ :: _) _ _); refine wpList_load_bk rfl 54 (.tmp 1) rfl A 54 (It.cells { x with h := { x.h with kind := 0, cond := zc }, tp := none, tc := 0, t := .nil }).toArray rfl _ HK3.out Tryz.underlying54 rfl size57 ?_) | ((with_reducible show wpList _ _ _ (Oper.mk none (Op.store 54 _ _) _ _ _ _ :: _) _ _); refine wpList_store_bk rfl 54 (.tmp 2) (.tmp 37) rfl (A + 1) 54 _ (It.cells { x with h := { x.h with kind := 0, cond := zc }, tp := none, tc := 0, t := .nil }).toArray rfl rfl HR3.out size57 rfl (scells_one _ _ _ _ _ _ _) ?_; intro wZ hZ hF))
 exact bodyPost_ret (results_cell_row Tryz.results117 _ wZ (A + 1) 54 (It.cells { x with h := { x.h with kind := 0, cond := zc }, tp := none, tc := 0, t := .nil }).toArray (0, 0) _ rfl hZ Tryz.underlying54 rfl size57) rfl ⟨rfl, below_by HB3.out hF (by rw [HA.out]; exact Nat.le_succ _)⟩
theorem besides4g (x : It) (cs : Array Value) (hcs : cs = x.cells.toArray) (w : World) (k : x.h.kind = 4) (hb0 : x.h.both = false) :
  Calls Tryz.prog 117 #[.agg cs] w fun e w' => e = .returned (.agg (It.cells { x with h := { x.h with kind := 0, cond := Pr.noCd }, tp := none, tc := 0, t := .nil }).toArray) ∧ Below w.heap.size w w' := besides4h Pr.noCd (hdn zCd_built4) x cs hcs w k hb0
end Go.Proofs.YtdlchhimkelinaaGreatDoor
namespace Go.Proofs.YtdlchhimkelinaaGreatDoor
open Go.RowKit Go.Sort
theorem putC_cond4b (x : It) (c : Cd) : putC (It.cells x) 17 (Cd.cells c) = It.cells { x with h := { x.h with cond := c } } := by kernel_rfl
theorem zCd_built4b : Tryz.prog.built 51 [] = some (Cd.cells Pr.noCd).toArray := by kernel_rfl
theorem besides4bh (zc : Cd) (hz : Hid (Tryz.prog.built 51 [] = some (Cd.cells zc).toArray)) (x : It) (cs : Array Value) (hcs : cs = x.cells.toArray) (w : World) (k : x.h.kind = 4) (hb0 : x.h.both = true) :
  Calls Tryz.prog 117 #[.agg cs] w fun e w' => e = .returned (.agg (It.cells { x with h := { x.h with kind := 0, cond := zc, both := false }, tp := none, tc := 0, t := .nil, ep := none, ec := 0, e := .nil }).toArray) ∧ Below w.heap.size w w' := by
 obtain ⟨wA, hwA⟩ : ∃ wA : World, wA = (w.alloc (.cells cs 54)).alloc (.cells zIt.cells.toArray 54) := ⟨_, rfl⟩
 have HBA : Hid (Below w.heap.size w wA) := hdn (by rw [hwA]; exact ((Below.refl _ _).alloc (Nat.le_refl _) _).alloc (by simp) _)
 have HK : Hid (Bk wA w.heap.size 54 x.cells.toArray) := hdn (by rw [hwA, ← hcs]; exact heap_alloc2_old _ _ _)
 have HR : Hid (Bk wA (w.heap.size + 1) 54 zIt.cells.toArray) := hdn (by rw [hwA]; exact heap_alloc2_new _ _ _)
 have Z_k := hdn k
 have Z_b := hdn hb0
 clear k hcs hb0
 go_enter Tryz.func117, Tryz.ntmps117
 go_upto_region 1 with fail
 change Code.wp _ _ _ _ ((w.alloc (.cells cs 54)).alloc (.cells zIt.cells.toArray 54))
 rw [← hwA]
 clear hwA
 obtain ⟨A, hA⟩ : ∃ A, A = w.heap.size := ⟨_, rfl⟩
 rw [← hA] at HK HR HBA ⊢
 have HA := hdn hA
 clear hA
 have HBw : Hid (Below w.heap.size w wA) := hdn (by rw [← HA.out]; exact HBA.out)
 have HKw : Hid (Bk wA A 54 (It.cells x).toArray) := HK
 have c0 : wA.cell? ⟨A, 0, none⟩ = some (.int .i64 x.h.kind) := HK.out.cell 0
 rw [Z_k.out] at c0
 clear HK HBA
 go_upto_region 10 with (first | ((with_reducible show wpList _ _ _ (Oper.mk (some 21) _ _ _ _ _ :: _) _ _); refine wpList_zero rfl 51 rfl (some 21) rfl _ hz.out ?_) | ((with_reducible show wpList _ _ _ (Oper.mk none (Op.store 51 _ _) _ _ _ _ :: _) _ _); refine wpList_store_part rfl 51 (.tmp 22) (.tmp 21) rfl A 17 54 (It.cells x) (Cd.cells zc) rfl rfl HKw.out size51c (by show 17 + 26 ≤ 48; decide) (kCd.one zc) ?_; intro v1 hk hg; rw [putC_cond4b] at hk; have HKn : Hid (Bk v1 A 54 (It.cells { x with h := { x.h with cond := zc } }).toArray) := hdn hk; have HG := hdn hg; clear hk hg c0; have d45 : v1.cell? ⟨A, 45, none⟩ = some (.slice x.tp x.t.len x.tc) := HKn.out.cell 45; have f45 := HKn.out.frozen 45))
 clear d45 f45
 have HBn : Hid (Below w.heap.size w v1) := hdn (below_by HBw.out HG.out (by rw [HA.out]; exact Nat.le_refl _))
 have HRn := hdn (HR.out.kept HG.out (by omega))
 clear HKw HBw HR
 have g2 := grownBy_setC v1 ⟨A, 45, none⟩ (.slice none 0 0)
 have HKw : Hid (Bk (v1.setCell ⟨A, 45, none⟩ (.slice none 0 0)) A 54 (It.cells { x with h := { x.h with cond := zc }, tp := none, tc := 0, t := .nil }).toArray) := hdn (HKn.out.setArr 45 (.slice none 0 0))
 have HR := hdn (HRn.out.kept g2 (by show A + 1 ≠ A; omega))
 have HBw : Hid (Below w.heap.size w (v1.setCell ⟨A, 45, none⟩ (.slice none 0 0))) := hdn (below_by HBn.out g2 (by rw [HA.out]; exact Nat.le_refl _))
 clear g2 HKn HBn HRn
 change Code.wp _ _ _ _ (v1.setCell ⟨A, 45, none⟩ (.slice none 0 0))
 generalize hq : v1.setCell ⟨A, 45, none⟩ (.slice none 0 0) = u1 at HKw HBw HR ⊢
 clear hq
 have d47 : u1.cell? ⟨A, 47, none⟩ = some (.bool x.h.both) := HKw.out.cell 47
 rw [Z_b.out] at d47
 go_upto_region 11 with fail
 clear d47
 have d46 : (u1).cell? ⟨A, 46, none⟩ = some (.slice x.ep x.e.len x.ec) := HKw.out.cell 46
 have f46 := HKw.out.frozen 46
 have g46 := grownBy_setC (u1) ⟨A, 46, none⟩ (.slice none 0 0)
 have HK46 : Hid (Bk ((u1).setCell ⟨A, 46, none⟩ (.slice none 0 0)) A 54 (It.cells { x with h := { x.h with cond := zc }, tp := none, tc := 0, t := .nil, ep := none, ec := 0, e := .nil }).toArray) := hdn (HKw.out.setArr 46 (.slice none 0 0))
 have HR46 := hdn (HR.out.kept g46 (by show A + 1 ≠ A; omega))
 have HB46 : Hid (Below w.heap.size w ((u1).setCell ⟨A, 46, none⟩ (.slice none 0 0))) := hdn (below_by HBw.out g46 (by rw [HA.out]; exact Nat.le_refl _))
 clear g46
 have d47 : ((u1).setCell ⟨A, 46, none⟩ (.slice none 0 0)).cell? ⟨A, 47, none⟩ = some (.bool true) := by rw [HK46.out.cell 47]; show some (Value.bool x.h.both) = _; rw [Z_b.out]
 have f47 := HK46.out.frozen 47
 have g47 := grownBy_setC ((u1).setCell ⟨A, 46, none⟩ (.slice none 0 0)) ⟨A, 47, none⟩ (.bool false)
 have HK47 : Hid (Bk (((u1).setCell ⟨A, 46, none⟩ (.slice none 0 0)).setCell ⟨A, 47, none⟩ (.bool false)) A 54 (It.cells { x with h := { x.h with cond := zc, both := false }, tp := none, tc := 0, t := .nil, ep := none, ec := 0, e := .nil }).toArray) := hdn (HK46.out.setArr 47 (.bool false))
 have HR47 := hdn (HR46.out.kept g47 (by show A + 1 ≠ A; omega))
 have HB47 : Hid (Below w.heap.size w (((u1).setCell ⟨A, 46, none⟩ (.slice none 0 0)).setCell ⟨A, 47, none⟩ (.bool false))) := hdn (below_by HB46.out g47 (by rw [HA.out]; exact Nat.le_refl _))
 clear g47
 go_upto_region 16 with fail
 clear d46 f46 d47 f47 HKw HBw HR
 clear HK46 HR46 HB46
 change Code.wp _ _ _ _ (((u1).setCell ⟨A, 46, none⟩ (.slice none 0 0)).setCell ⟨A, 47, none⟩ (.bool false))
 generalize hq2 : ((u1).setCell ⟨A, 46, none⟩ (.slice none 0 0)).setCell ⟨A, 47, none⟩ (.bool false) = v2 at HK47 HB47 HR47 ⊢
 clear hq2
 have HKw := HK47; have HBw := HB47; have HR := HR47
 clear HK47 HB47 HR47
 have q0 : v2.cell? ⟨A, 0, none⟩ = some (.int .i64 x.h.kind) := HKw.out.cell 0
 have f0 := HKw.out.frozen 0
 have gS := grownBy_setC v2 ⟨A, 0, none⟩ (.int .i64 0)
 have HK3 : Hid (Bk (v2.setCell ⟨A, 0, none⟩ (.int .i64 0)) A 54 (It.cells { x with h := { x.h with kind := 0, cond := zc, both := false }, tp := none, tc := 0, t := .nil, ep := none, ec := 0, e := .nil }).toArray) := hdn (HKw.out.setArr 0 (.int .i64 0))
 have HR3 := hdn (HR.out.kept gS (by show A + 1 ≠ A; omega))
 have HB3 : Hid (Below w.heap.size w (v2.setCell ⟨A, 0, none⟩ (.int .i64 0))) := hdn (below_by HBw.out gS (by rw [HA.out]; exact Nat.le_refl _))
 clear gS
 go_wp2_with (first | ((with_reducible show wpList _ _ _ (Oper.mk (some 37) _ _ _ _ _ :: _) _ _); refine wpList_load_bk rfl 54 (.tmp 1) rfl A 54 (It.cells { x with h := { x.h with kind := 0, cond := zc, both := false }, tp := none, tc := 0, t := .nil, ep := none, ec := 0, e := .nil }).toArray rfl _ HK3.out Tryz.underlying54 rfl size57 ?_) | ((with_reducible show wpList _ _ _ (Oper.mk none (Op.store 54 _ _) _ _ _ _ :: _) _ _); refine wpList_store_bk rfl 54 (.tmp 2) (.tmp 37) rfl (A + 1) 54 _ (It.cells { x with h := { x.h with kind := 0, cond := zc, both := false }, tp := none, tc := 0, t := .nil, ep := none, ec := 0, e := .nil }).toArray rfl rfl HR3.out size57 rfl (scells_one _ _ _ _ _ _ _) ?_; intro wZ hZ hF))
 exact bodyPost_ret (results_cell_row Tryz.results117 _ wZ (A + 1) 54 (It.cells { x with h := { x.h with kind := 0, cond := zc, both := false }, tp := none, tc := 0, t := .nil, ep := none, ec := 0, e := .nil }).toArray (0, 0) _ rfl hZ Tryz.underlying54 rfl size57) rfl ⟨rfl, below_by HB3.out hF (by rw [HA.out]; exact Nat.le_succ _)⟩
theorem besides4bg (x : It) (cs : Array Value) (hcs : cs = x.cells.toArray) (w : World) (k : x.h.kind = 4) (hb0 : x.h.both = true) :
  Calls Tryz.prog 117 #[.agg cs] w fun e w' => e = .returned (.agg (It.cells { x with h := { x.h with kind := 0, cond := Pr.noCd, both := false }, tp := none, tc := 0, t := .nil, ep := none, ec := 0, e := .nil }).toArray) ∧ Below w.heap.size w w' := besides4bh Pr.noCd (hdn zCd_built4b) x cs hcs w k hb0
end Go.Proofs.YtdlchhimkelinaaGreatDoor
namespace Go.Proofs.YtdlchhimkelinaaGreatDoor
open Go.RowKit Go.Sort
theorem putC_cond5 (x : It) (c : Cd) : putC (It.cells x) 17 (Cd.cells c) = It.cells { x with h := { x.h with cond := c } } := by kernel_rfl
theorem zCd_built5 : Tryz.prog.built 51 [] = some (Cd.cells Pr.noCd).toArray := by kernel_rfl
theorem besides5h (zc : Cd) (hz : Hid (Tryz.prog.built 51 [] = some (Cd.cells zc).toArray)) (x : It) (cs : Array Value) (hcs : cs = x.cells.toArray) (w : World) (k : x.h.kind = 5) :
  Calls Tryz.prog 117 #[.agg cs] w fun e w' => e = .returned (.agg (It.cells { x with h := { x.h with kind := 0, cond := zc }, tp := none, tc := 0, t := .nil }).toArray) ∧ Below w.heap.size w w' := by
 obtain ⟨wA, hwA⟩ : ∃ wA : World, wA = (w.alloc (.cells cs 54)).alloc (.cells zIt.cells.toArray 54) := ⟨_, rfl⟩
 have HBA : Hid (Below w.heap.size w wA) := hdn (by rw [hwA]; exact ((Below.refl _ _).alloc (Nat.le_refl _) _).alloc (by simp) _)
 have HK : Hid (Bk wA w.heap.size 54 x.cells.toArray) := hdn (by rw [hwA, ← hcs]; exact heap_alloc2_old _ _ _)
 have HR : Hid (Bk wA (w.heap.size + 1) 54 zIt.cells.toArray) := hdn (by rw [hwA]; exact heap_alloc2_new _ _ _)
 have Z_k := hdn k
 clear k hcs
 go_enter Tryz.func117, Tryz.ntmps117
 go_upto_region 1 with fail
 change Code.wp _ _ _ _ ((w.alloc (.cells cs 54)).alloc (.cells zIt.cells.toArray 54))
 rw [← hwA]
 clear hwA
 obtain ⟨A, hA⟩ : ∃ A, A = w.heap.size := ⟨_, rfl⟩
 rw [← hA] at HK HR HBA ⊢
 have HA := hdn hA
 clear hA
 have HBw : Hid (Below w.heap.size w wA) := hdn (by rw [← HA.out]; exact HBA.out)
 have HKw : Hid (Bk wA A 54 (It.cells x).toArray) := HK
 have c0 : wA.cell? ⟨A, 0, none⟩ = some (.int .i64 x.h.kind) := HK.out.cell 0
 rw [Z_k.out] at c0
 clear HK HBA
 go_upto_region 16 with (first | ((with_reducible show wpList _ _ _ (Oper.mk (some 30) _ _ _ _ _ :: _) _ _); refine wpList_zero rfl 51 rfl (some 30) rfl _ hz.out ?_) | ((with_reducible show wpList _ _ _ (Oper.mk none (Op.store 51 _ _) _ _ _ _ :: _) _ _); refine wpList_store_part rfl 51 (.tmp 31) (.tmp 30) rfl A 17 54 (It.cells x) (Cd.cells zc) rfl rfl HKw.out size51c (by show 17 + 26 ≤ 48; decide) (kCd.one zc) ?_; intro v1 hk hg; rw [putC_cond5] at hk; have HKn : Hid (Bk v1 A 54 (It.cells { x with h := { x.h with cond := zc } }).toArray) := hdn hk; have HG := hdn hg; clear hk hg c0; have d45 : v1.cell? ⟨A, 45, none⟩ = some (.slice x.tp x.t.len x.tc) := HKn.out.cell 45; have f45 := HKn.out.frozen 45))
 clear d45 f45
 have HBn : Hid (Below w.heap.size w v1) := hdn (below_by HBw.out HG.out (by rw [HA.out]; exact Nat.le_refl _))
 have HRn := hdn (HR.out.kept HG.out (by omega))
 clear HKw HBw HR
 have g2 := grownBy_setC v1 ⟨A, 45, none⟩ (.slice none 0 0)
 have HKw : Hid (Bk (v1.setCell ⟨A, 45, none⟩ (.slice none 0 0)) A 54 (It.cells { x with h := { x.h with cond := zc }, tp := none, tc := 0, t := .nil }).toArray) := hdn (HKn.out.setArr 45 (.slice none 0 0))
 have HR := hdn (HRn.out.kept g2 (by show A + 1 ≠ A; omega))
 have HBw : Hid (Below w.heap.size w (v1.setCell ⟨A, 45, none⟩ (.slice none 0 0))) := hdn (below_by HBn.out g2 (by rw [HA.out]; exact Nat.le_refl _))
 clear g2 HKn HBn HRn
 change Code.wp _ _ _ _ (v1.setCell ⟨A, 45, none⟩ (.slice none 0 0))
 generalize hq : v1.setCell ⟨A, 45, none⟩ (.slice none 0 0) = u1 at HKw HBw HR ⊢
 clear hq
 have q0 : u1.cell? ⟨A, 0, none⟩ = some (.int .i64 x.h.kind) := HKw.out.cell 0
 have f0 := HKw.out.frozen 0
 have gS := grownBy_setC u1 ⟨A, 0, none⟩ (.int .i64 0)
 have HK3 : Hid (Bk (u1.setCell ⟨A, 0, none⟩ (.int .i64 0)) A 54 (It.cells { x with h := { x.h with kind := 0, cond := zc }, tp := none, tc := 0, t := .nil }).toArray) := hdn (HKw.out.setArr 0 (.int .i64 0))
 have HR3 := hdn (HR.out.kept gS (by show A + 1 ≠ A; omega))
 have HB3 : Hid (Below w.heap.size w (u1.setCell ⟨A, 0, none⟩ (.int .i64 0))) := hdn (below_by HBw.out gS (by rw [HA.out]; exact Nat.le_refl _))
 clear gS
 go_wp2_with (first | ((with_reducible show wpList _ _ _ (Oper.mk (some 37) _ _ _ _ _ :: _) _ _); refine wpList_load_bk rfl 54 (.tmp 1) rfl A 54 (It.cells { x with h := { x.h with kind := 0, cond := zc }, tp := none, tc := 0, t := .nil }).toArray rfl _ HK3.out Tryz.underlying54 rfl size57 ?_) | ((with_reducible show wpList _ _ _ (Oper.mk none (Op.store 54 _ _) _ _ _ _ :: _) _ _); refine wpList_store_bk rfl 54 (.tmp 2) (.tmp 37) rfl (A + 1) 54 _ (It.cells { x with h := { x.h with kind := 0, cond := zc }, tp := none, tc := 0, t := .nil }).toArray rfl rfl HR3.out size57 rfl (scells_one _ _ _ _ _ _ _) ?_; intro wZ hZ hF))
 exact bodyPost_ret (results_cell_row Tryz.results117 _ wZ (A + 1) 54 (It.cells { x with h := { x.h with kind := 0, cond := zc }, tp := none, tc := 0, t := .nil }).toArray (0, 0) _ rfl hZ Tryz.underlying54 rfl size57) rfl ⟨rfl, below_by HB3.out hF (by rw [HA.out]; exact Nat.le_succ _)⟩
theorem besides5g (x : It) (cs : Array Value) (hcs : cs = x.cells.toArray) (w : World) (k : x.h.kind = 5) :
  Calls Tryz.prog 117 #[.agg cs] w fun e w' => e = .returned (.agg (It.cells { x with h := { x.h with kind := 0, cond := Pr.noCd }, tp := none, tc := 0, t := .nil }).toArray) ∧ Below w.heap.size w w' := besides5h Pr.noCd (hdn zCd_built5) x cs hcs w k
end Go.Proofs.YtdlchhimkelinaaGreatDoor
namespace Go.Proofs.YtdlchhimkelinaaGreatDoor
open Go.RowKit Go.Sort
/-- How many statements. -/
def SL.count : SL → Nat
 | .nil => 0
 | .cons _ _ _ t _ _ e r => 1 + t.count + e.count + r.count
/-- Does a statement count as one that has a list? -/
def hold (kind : Int) (tn en : Nat) : Bool := kind == 4 || kind == 5 || kind == 6 || decide (0 < tn) || decide (0 < en)
def blk (kind : Int) : Bool := kind == 4 || kind == 5 || kind == 6
def dg (kind : Int) (tn en : Nat) (dt de a : Int) : Int := if hold kind tn en = true then max (max a (1 + dt)) (1 + de) else a
/-- The first of what is left of a list that lies in memory. -/
theorem lies_head {w : World} {p : Option Addr} {k : Nat} {h : Hd} {tp : Option Addr} {tc : Nat} {t : SL} {ep : Option Addr} {ec : Nat} {e r : SL}
  (hr : SL.cons h tp tc t ep ec e r = .nil ∨ ∃ b o, p = some ⟨b, o, none⟩ ∧ lies w (.cons h tp tc t ep ec e r) b (o + k * 48)) :
  ∃ b o, p = some ⟨b, o, none⟩ ∧ w.rangeAt b (o + k * 48) (scells h tp t.len tc ep e.len ec) ∧ hdLies w h ∧ sLies w tp t ∧ sLies w ep e ∧ (r = .nil ∨ ∃ b' o', (some ⟨b, o, none⟩ : Option Addr) = some ⟨b', o', none⟩ ∧ lies w r b' (o' + (k + 1) * 48)) := by
 rcases hr with hr | ⟨b, o, hp, h1, h2, h3, h4, h5⟩
 ·cases hr
 ·exact ⟨b, o, hp, h1, h2, h3, h4, .inr ⟨b, o, rfl, by rw [show o + (k + 1) * 48 = o + k * 48 + 48 by omega]; exact h5⟩⟩
end Go.Proofs.YtdlchhimkelinaaGreatDoor
namespace Go.Proofs.YtdlchhimkelinaaGreatDoor
open Go.RowKit Go.Sort
theorem hd_lies {w : World} {p : Option Addr} {k : Nat} {h : Hd} {tp : Option Addr} {tc : Nat} {t : SL} {ep : Option Addr} {ec : Nat} {e r : SL}
  (hr : SL.cons h tp tc t ep ec e r = .nil ∨ ∃ b o, p = some ⟨b, o, none⟩ ∧ lies w (.cons h tp tc t ep ec e r) b (o + k * 48)) : hdLies w h ∧ sLies w tp t ∧ sLies w ep e := by
 obtain ⟨b, o, _, _, h1, h2, h3, _⟩ := lies_head hr
 exact ⟨h1, h2, h3⟩
end Go.Proofs.YtdlchhimkelinaaGreatDoor
namespace Go.Proofs.YtdlchhimkelinaaGreatDoor
open Go.RowKit Go.Sort
/-- A statement without anything. -/
theorem bare_same (y : It) (k : y.h.kind = 0) (h1 : Pn.noP y.h.place = true) (h2 : Pn.noVal y.h.value = true) (h3 : Pn.noCond y.h.cond = true) (h4 : Pn.noCall y.h = true) (h5 : y.h.both = false) (ht : y.t = .nil) (he : y.e = .nil) : sameSL zIt.one y.one = true := by
 obtain ⟨n1, n2⟩ := Pn.noCall_er h4
 have e : y.one.er = zIt.one.er := by
  show SL.cons ⟨y.h.kind, 0, y.h.place.er, y.h.value.er, y.h.cond.er, y.h.name, y.h.args.er Vl.er, y.h.both⟩ none 0 y.t.er none 0 y.e.er SL.nil = _
  rw [k, Pn.noP_er h1, Pn.noVal_er h2, Pn.noCond_er h3, n1, n2, h5, ht, he]; rfl
 rw [sameSL_er, e]; exact sameSL_refl _
theorem bare_lies (y : It) (w : World) (h1 : Pn.noP y.h.place = true) (h2 : Pn.noVal y.h.value = true) (h3 : Pn.noCond y.h.cond = true) (h4 : Pn.noCall y.h = true) (ht : y.t = .nil) (he : y.e = .nil) : itLies w y := by
 have hc := h4
 unfold Pn.noCall at hc
 unfold Pn.noP at h1
 unfold Pn.noCond at h3
 simp only [Bool.and_eq_true, decide_eq_true_eq] at hc h1 h3
 refine ⟨⟨nil_lies _ _ _ _ _ h1.2, nil_lies _ _ _ _ _ (noVal_hops h2), nil_lies _ _ _ _ _ (noVal_hops h3.1.2), nil_lies _ _ _ _ _ (noVal_hops h3.2), nil_lies _ _ _ _ _ hc.2, ?_⟩, ⟨?_, .inl ht⟩, ⟨?_, .inl he⟩⟩
 ·rw [(Pn.noCall_er h4).1]; exact noName
 ·rw [ht]; exact noLen
 ·rw [he]; exact noLen
/-- The judge in block J, behind a world w0 in which the tree lies. -/
def JS (w0 : World) (J : Nat) (s o : Int) (w : World) : Prop := Below w0.heap.size w0 w ∧ w0.heap.size ≤ J ∧ Bk w J 92 #[.int .i64 s, .int .i64 o]
theorem JS.below {w0 w w' : World} {J : Nat} {s o : Int} (h : JS w0 J s o w) (hb : Below w.heap.size w w') : JS w0 J s o w' :=
 ⟨h.1.trans (hb.mono h.1.size), h.2.1, h.2.2.below hb h.2.2.lt⟩
theorem JS.seen {w0 w : World} {J : Nat} {s o : Int} (h : JS w0 J s o w) (n : Int) : JS w0 J n o (w.setCell ⟨J, 0, none⟩ (.int .i64 n)) :=
 ⟨below_by h.1 (grownBy_setC w ⟨J, 0, none⟩ (.int .i64 n)) h.2.1, h.2.1, Bk.setArr (l := [.int .i64 s, .int .i64 o]) h.2.2 0 (.int .i64 n)⟩
theorem JS.open_ {w0 w : World} {J : Nat} {s o : Int} (h : JS w0 J s o w) (n : Int) : JS w0 J s n (w.setCell ⟨J, 1, none⟩ (.int .i64 n)) :=
 ⟨below_by h.1 (grownBy_setC w ⟨J, 1, none⟩ (.int .i64 n)) h.2.1, h.2.1, Bk.setArr (l := [.int .i64 s, .int .i64 o]) h.2.2 1 (.int .i64 n)⟩
theorem JS.gl {w0 w : World} {J : Nat} {s o : Int} (h : JS w0 J s o w) (hg : Gl w0) : Gl w := hg.below h.1 hg.two
/-- What the judge says of lists within lists. -/
def okJ (l : SL) : Prop := ∀ (p : Option Addr) (c : Nat) (w0 : World) (J : Nat) (s o : Int) (w : World), Gl w0 → sLies w0 p l → JS w0 J s o w → Pn.okList l = true → 0 ≤ s → s + Pn.cnt l ≤ 400 → 0 ≤ o → o + Pn.dp l ≤ 20 →
 Calls Tryz.prog 81 #[.slice p l.len c, .func (.func 82) #[.pointer (some ⟨J, 0, none⟩)] #[]] w fun e w' => e = .returned (.bool true) ∧ JS w0 J (s + Pn.cnt l) o w'
theorem block_J (l : SL) (hJ : okJ l) (p : Option Addr) (c : Nat) (w0 : World) (J : Nat) (s o : Int) (w : World) (hg : Gl w0) (hl : sLies w0 p l) (h : JS w0 J s o w) (ho : Pn.okList l = true) (hs : 0 ≤ s) (hs4 : s + Pn.cnt l ≤ 400) (h0 : 0 ≤ o) (h20 : o + 1 + Pn.dp l ≤ 20) :
  Calls Tryz.prog 156 #[.pointer (some ⟨J, 0, none⟩), .slice p l.len c] w fun e w' => e = .returned (.bool true) ∧ JS w0 J (s + Pn.cnt l) o w' := by
 have hd := Pn.dp_nn l
 have h1 := h.open_ (o + 1)
 have HC := hdn (hJ p c w0 J s (o + 1) _ hg hl h1 ho hs hs4 (by omega) (by omega))
 have c1 : w.cell? ⟨J, 1, none⟩ = some (.int .i64 o) := h.2.2.cell 1
 have f1 := h.2.2.frozen 1
 have hne : ¬ o = 20 := by omega
 have hlt : o < 20 := by omega
 clear hg hl h ho hs hs4 h1 hd h20 hJ
 generalize s + Pn.cnt l = s' at *
 go_enter Tryz.func156, Tryz.ntmps156
 go_upto_region 5 with (go_at_call 81; refine HC.out.mono ?_; rintro e w1 ⟨rfl, h1⟩; have HJ1 := hdn h1; clear h1)
 clear c1 f1
 have d1 : w1.cell? ⟨J, 1, none⟩ = some (.int .i64 (o + 1)) := HJ1.out.2.2.cell 1
 have g1 := HJ1.out.2.2.frozen 1
 have e1 : o + 1 - 1 = o := by omega
 have HF := hdn (HJ1.out.open_ o)
 go_wp2_with fail
 go_ret
 first | exact ⟨rfl, HF.out⟩ | exact ⟨rfl, by rw [e1]; exact HF.out⟩
theorem enters154 : ∀ args w, (callFunc 154 args).run Tryz.prog w = .ok (.enter 154 args) w := enters Tryz.func154 (by kernel_rfl) rfl
theorem allVl_any (l : List Vl) (p : Option Addr) (c : Nat) (w : World) (hg : Gl w) (h1 : Lay 12 Vl.cells vlLies w p l) (ho : ∀ x ∈ l, Pn.okSide x = true) :
  Calls Tryz.prog 153 #[.slice p l.length c, .func (.func 154) #[] #[]] w fun e w' => e = .returned (.bool true) ∧ Below w.heap.size w w' := by
 obtain ⟨hl, h1⟩ := h1
 have H1 := hdn h1; have HO := hdn ho; have HG := hdn hg
 clear h1 ho hg
 have hcl := enters154
 go_enter Tryz.func153, Tryz.ntmps153
 go_wp2_with fail
 go_loopw [8] (fun i wr => ∃ n : Nat, n ≤ l.length ∧ i = .int .i64 n ∧ Hid (Below w.heap.size w wr)) (fun i _ => l.length - (intOf i).toNat)
 case atStart => exact ⟨0, Nat.zero_le _, rfl, hdn (Below.refl _ _)⟩
 case round =>
  obtain ⟨n, hn, rfl, HB⟩ := hrel
  by_cases hnl : n < l.length
  ·obtain ⟨b1, o1, rfl, hx⟩ : ∃ b o, p = some ⟨b, o, none⟩ ∧ ∀ k x, l[k]? = some x → w.rangeAt b (o + k * 12) (Vl.cells x) ∧ vlLies w x := by
    rcases H1.out with h | h
    ·rw [h] at hnl; simp at hnl
    ·exact h
   have hxn := hx n l[n] (List.getElem?_eq_getElem hnl)
   have hok := HO.out l[n] (List.getElem_mem hnl)
   generalize l[n] = x at hxn hok
   have HC := hdn (isSide_any x b1 (o1 + n * 12) wr (HG.out.below HB.out HG.out.two) hok (rangeAt_below hxn.1 HB.out) (vlLies_below hxn.2 HB.out))
   have hn0 : (0 : Int) ≤ (n : Int) := Int.natCast_nonneg _
   have hn1 : (n : Int) < (l.length : Int) := by omega
   clear hx hxn hok
   go_wp2_with fail
   refine HC.out.mono ?_; rintro e w1 ⟨rfl, hb⟩
   have HB1 := hdn (HB.out.trans (hb.mono HB.out.size))
   clear hb
   go_wp2_with fail
   go_roundw
   case rel => exact ⟨n + 1, by omega, by go_num, HB1⟩
   case measure => simp [intOf]; omega
  ·obtain rfl : n = l.length := by omega
   go_wp2_with fail
   go_ret
   exact ⟨rfl, HB.out⟩
theorem partsJ0 (x : It) (b q : Nat) (w0 : World) (J : Nat) (s o : Int) (w : World) (hg : Gl w0) (hr : w0.rangeAt b q x.cells) (hl : itLies w0 x) (h : JS w0 J s o w) (k : x.h.kind = 0) :
  Calls Tryz.prog 118 #[.pointer (some ⟨J, 0, none⟩), .pointer (some ⟨b, q, none⟩)] w fun e w' => e = .returned (.bool true) ∧ JS w0 J s o w' := by
 have HG := hdn hg; have HR := hdn hr; have HL := hdn hl; have HJ := hdn h
 have HRW : Hid (∀ w' s' o', JS w0 J s' o' w' → w'.rangeAt b q x.cells) := hdn (fun w' s' o' h' => rangeAt_below hr h'.1)
 have c0 := cell_at (rangeAt_below hr h.1) 0 _ rfl
 rw [Nat.add_zero] at c0
 rw [k] at c0
 clear hg hr hl h k
 go_enter Tryz.func118, Tryz.ntmps118
 go_wp2_with fail
 go_ret
 exact ⟨rfl, HJ.out⟩
theorem partsJ1 (x : It) (b q : Nat) (w0 : World) (J : Nat) (s o : Int) (w : World) (hg : Gl w0) (hr : w0.rangeAt b q x.cells) (hl : itLies w0 x) (h : JS w0 J s o w) (k : x.h.kind = 1) (hp : Pn.okPath x.h.place = true) (hv : Pn.okVal x.h.value = true) :
  Calls Tryz.prog 118 #[.pointer (some ⟨J, 0, none⟩), .pointer (some ⟨b, q, none⟩)] w fun e w' => e = .returned (.bool true) ∧ JS w0 J s o w' := by
 have HG := hdn hg; have HR := hdn hr; have HL := hdn hl; have HJ := hdn h
 have HRW : Hid (∀ w' s' o', JS w0 J s' o' w' → w'.rangeAt b q x.cells) := hdn (fun w' s' o' h' => rangeAt_below hr h'.1)
 have c0 := cell_at (rangeAt_below hr h.1) 0 _ rfl
 rw [Nat.add_zero] at c0
 rw [k] at c0
 have CP := hdn (isPath_any x.h.place b (q + 2) w (h.gl hg) hp (rangeAt_sub (rangeAt_below hr h.1) 2 3 rfl) (pthLies_below (pthLies_of hl.1.1) h.1))
 have CV := hdn (isValue_any x.h.value b (q + 5) w (h.gl hg) hv (rangeAt_sub (rangeAt_below hr h.1) 5 12 rfl) (vlLies_below hl.1.2.1 h.1))
 clear hg hr hl h k hp hv
 go_enter Tryz.func118, Tryz.ntmps118
 go_wp2_with (first | (go_at_call 151; refine CP.out.mono ?_; rintro e w1 ⟨rfl, rfl⟩) | (go_at_call 152; refine CV.out.mono ?_; rintro e w2 ⟨rfl, hb⟩; have HJ2 := hdn (HJ.out.below hb); clear hb))
 go_ret
 exact ⟨rfl, HJ2.out⟩
theorem partsJ2 (x : It) (b q : Nat) (w0 : World) (J : Nat) (s o : Int) (w : World) (hg : Gl w0) (hr : w0.rangeAt b q x.cells) (hl : itLies w0 x) (h : JS w0 J s o w) (k : x.h.kind = 2) (hp : Pn.okPath x.h.place = true) :
  Calls Tryz.prog 118 #[.pointer (some ⟨J, 0, none⟩), .pointer (some ⟨b, q, none⟩)] w fun e w' => e = .returned (.bool true) ∧ JS w0 J s o w' := by
 have HG := hdn hg; have HR := hdn hr; have HL := hdn hl; have HJ := hdn h
 have HRW : Hid (∀ w' s' o', JS w0 J s' o' w' → w'.rangeAt b q x.cells) := hdn (fun w' s' o' h' => rangeAt_below hr h'.1)
 have c0 := cell_at (rangeAt_below hr h.1) 0 _ rfl
 rw [Nat.add_zero] at c0
 rw [k] at c0
 have CP := hdn (isPath_any x.h.place b (q + 2) w (h.gl hg) hp (rangeAt_sub (rangeAt_below hr h.1) 2 3 rfl) (pthLies_below (pthLies_of hl.1.1) h.1))
 clear hg hr hl h k hp
 go_enter Tryz.func118, Tryz.ntmps118
 go_wp2_with (go_at_call 151; refine CP.out.mono ?_; rintro e w1 ⟨rfl, rfl⟩)
 go_ret
 exact ⟨rfl, HJ.out⟩
theorem partsJ3 (x : It) (b q : Nat) (w0 : World) (J : Nat) (s o : Int) (w : World) (hg : Gl w0) (hr : w0.rangeAt b q x.cells) (hl : itLies w0 x) (h : JS w0 J s o w) (k : x.h.kind = 3) (hn : Pn.okN x.h.name = true) (ha : x.h.args.l.all Pn.okSide = true) :
  Calls Tryz.prog 118 #[.pointer (some ⟨J, 0, none⟩), .pointer (some ⟨b, q, none⟩)] w fun e w' => e = .returned (.bool true) ∧ JS w0 J s o w' := by
 have HG := hdn hg; have HR := hdn hr; have HL := hdn hl; have HJ := hdn h
 have HRW : Hid (∀ w' s' o', JS w0 J s' o' w' → w'.rangeAt b q x.cells) := hdn (fun w' s' o' h' => rangeAt_below hr h'.1)
 have c0 := cell_at (rangeAt_below hr h.1) 0 _ rfl
 rw [Nat.add_zero] at c0
 rw [k] at c0
 have CN := hdn (isName_ok x.h.name w (h.gl hg) hn)
 have CA := hdn (allVl_any x.h.args.l x.h.args.p x.h.args.cap w (h.gl hg) (Lay.of_sl (R := vlLies) (argsLie_below hl.1.2.2.2.2.1 h.1) (by decide)) (List.all_eq_true.1 ha))
 have c43 := cell_at (rangeAt_below hr h.1) 43 _ rfl
 have c44 := cell_at (rangeAt_below hr h.1) 44 _ rfl
 clear hg hr hl h k hn ha
 go_enter Tryz.func118, Tryz.ntmps118
 go_wp2_with (first | (go_at_call 79; refine CN.out.mono ?_; rintro e w1 ⟨rfl, rfl⟩) | (go_at_call 153; refine CA.out.mono ?_; rintro e w2 ⟨rfl, hb⟩; have HJ2 := hdn (HJ.out.below hb); clear hb))
 go_ret
 exact ⟨rfl, HJ2.out⟩
theorem partsJ5 (x : It) (b q : Nat) (w0 : World) (J : Nat) (s o : Int) (w : World) (hg : Gl w0) (hr : w0.rangeAt b q x.cells) (hl : itLies w0 x) (h : JS w0 J s o w) (k : x.h.kind = 5) (hc : Pn.okCond x.h.cond = true) (hT : okJ x.t) (oT : Pn.okList x.t = true) (hs : 0 ≤ s) (s4 : s + Pn.cnt x.t ≤ 400) (h0 : 0 ≤ o) (d20 : o + 1 + Pn.dp x.t ≤ 20) :
  Calls Tryz.prog 118 #[.pointer (some ⟨J, 0, none⟩), .pointer (some ⟨b, q, none⟩)] w fun e w' => e = .returned (.bool true) ∧ JS w0 J (s + Pn.cnt x.t) o w' := by
 have HG := hdn hg; have HR := hdn hr; have HL := hdn hl; have HJ := hdn h
 have HRW : Hid (∀ w' s' o', JS w0 J s' o' w' → w'.rangeAt b q x.cells) := hdn (fun w' s' o' h' => rangeAt_below hr h'.1)
 have c0 := cell_at (rangeAt_below hr h.1) 0 _ rfl
 rw [Nat.add_zero] at c0
 rw [k] at c0
 have CC := hdn (isCond_any x.h.cond b (q + 17) w (h.gl hg) hc (rangeAt_sub (rangeAt_below hr h.1) 17 26 rfl) (vlLies_below hl.1.2.2.1 h.1) (vlLies_below hl.1.2.2.2.1 h.1))
 have CT : Hid (∀ w', JS w0 J s o w' → Calls Tryz.prog 156 #[.pointer (some ⟨J, 0, none⟩), .slice x.tp x.t.len x.tc] w' fun e w'' => e = .returned (.bool true) ∧ JS w0 J (s + Pn.cnt x.t) o w'') := hdn (fun w' h' => block_J x.t hT x.tp x.tc w0 J s o w' hg hl.2.1 h' oT hs s4 h0 d20)
 clear hg hr hl h k hc hT oT s4 d20
 go_enter Tryz.func118, Tryz.ntmps118
 go_wp2_with (first | (go_at_call 155; refine CC.out.mono ?_; rintro e w1 ⟨rfl, hb⟩; have HJ1 := hdn (HJ.out.below hb); clear hb; have c45 := cell_at (HRW.out _ _ _ HJ1.out) 45 _ rfl; have c47 := cell_at (HRW.out _ _ _ HJ1.out) 47 _ rfl) | (go_at_call 156; refine (CT.out _ HJ1.out).mono ?_; rintro e w2 ⟨rfl, h2⟩; have HJ2 := hdn h2; clear h2))
 go_ret
 exact ⟨rfl, HJ2.out⟩
theorem partsJ6 (x : It) (b q : Nat) (w0 : World) (J : Nat) (s o : Int) (w : World) (hg : Gl w0) (hr : w0.rangeAt b q x.cells) (hl : itLies w0 x) (h : JS w0 J s o w) (k : x.h.kind = 6) (hT : okJ x.t) (oT : Pn.okList x.t = true) (hs : 0 ≤ s) (s4 : s + Pn.cnt x.t ≤ 400) (h0 : 0 ≤ o) (d20 : o + 1 + Pn.dp x.t ≤ 20) :
  Calls Tryz.prog 118 #[.pointer (some ⟨J, 0, none⟩), .pointer (some ⟨b, q, none⟩)] w fun e w' => e = .returned (.bool true) ∧ JS w0 J (s + Pn.cnt x.t) o w' := by
 have HG := hdn hg; have HR := hdn hr; have HL := hdn hl; have HJ := hdn h
 have HRW : Hid (∀ w' s' o', JS w0 J s' o' w' → w'.rangeAt b q x.cells) := hdn (fun w' s' o' h' => rangeAt_below hr h'.1)
 have c0 := cell_at (rangeAt_below hr h.1) 0 _ rfl
 rw [Nat.add_zero] at c0
 rw [k] at c0
 have CT := hdn (block_J x.t hT x.tp x.tc w0 J s o w hg hl.2.1 h oT hs s4 h0 d20)
 have c45 := cell_at (rangeAt_below hr h.1) 45 _ rfl
 clear hg hr hl h k hT oT s4 d20
 go_enter Tryz.func118, Tryz.ntmps118
 go_wp2_with (go_at_call 156; refine CT.out.mono ?_; rintro e w2 ⟨rfl, h2⟩; have HJ2 := hdn h2; clear h2)
 go_ret
 exact ⟨rfl, HJ2.out⟩
theorem partsJ4a (x : It) (b q : Nat) (w0 : World) (J : Nat) (s o : Int) (w : World) (hg : Gl w0) (hr : w0.rangeAt b q x.cells) (hl : itLies w0 x) (h : JS w0 J s o w) (k : x.h.kind = 4) (hbo : x.h.both = false) (hc : Pn.okCond x.h.cond = true) (hT : okJ x.t) (oT : Pn.okList x.t = true) (hs : 0 ≤ s) (s4 : s + Pn.cnt x.t ≤ 400) (h0 : 0 ≤ o) (d20 : o + 1 + Pn.dp x.t ≤ 20) :
  Calls Tryz.prog 118 #[.pointer (some ⟨J, 0, none⟩), .pointer (some ⟨b, q, none⟩)] w fun e w' => e = .returned (.bool true) ∧ JS w0 J (s + Pn.cnt x.t) o w' := by
 have HG := hdn hg; have HR := hdn hr; have HL := hdn hl; have HJ := hdn h
 have HRW : Hid (∀ w' s' o', JS w0 J s' o' w' → w'.rangeAt b q x.cells) := hdn (fun w' s' o' h' => rangeAt_below hr h'.1)
 have c0 := cell_at (rangeAt_below hr h.1) 0 _ rfl
 rw [Nat.add_zero] at c0
 rw [k] at c0
 have CC := hdn (isCond_any x.h.cond b (q + 17) w (h.gl hg) hc (rangeAt_sub (rangeAt_below hr h.1) 17 26 rfl) (vlLies_below hl.1.2.2.1 h.1) (vlLies_below hl.1.2.2.2.1 h.1))
 have CT : Hid (∀ w', JS w0 J s o w' → Calls Tryz.prog 156 #[.pointer (some ⟨J, 0, none⟩), .slice x.tp x.t.len x.tc] w' fun e w'' => e = .returned (.bool true) ∧ JS w0 J (s + Pn.cnt x.t) o w'') := hdn (fun w' h' => block_J x.t hT x.tp x.tc w0 J s o w' hg hl.2.1 h' oT hs s4 h0 d20)
 have HBO := hdn hbo
 clear hg hr hl h k hc hT oT s4 d20 hbo
 go_enter Tryz.func118, Tryz.ntmps118
 go_wp2_with (first | (go_at_call 155; refine CC.out.mono ?_; rintro e w1 ⟨rfl, hb⟩; have HJ1 := hdn (HJ.out.below hb); clear hb; have c45 := cell_at (HRW.out _ _ _ HJ1.out) 45 _ rfl; have c47 := cell_at (HRW.out _ _ _ HJ1.out) 47 _ rfl) | (go_at_call 156; refine (CT.out _ HJ1.out).mono ?_; rintro e w2 ⟨rfl, h2⟩; have HJ2 := hdn h2; clear h2; have c47 := cell_at (HRW.out _ _ _ HJ2.out) 47 _ rfl; rw [HBO.out] at c47))
 go_ret
 exact ⟨rfl, HJ2.out⟩
theorem partsJ4b (x : It) (b q : Nat) (w0 : World) (J : Nat) (s o : Int) (w : World) (hg : Gl w0) (hr : w0.rangeAt b q x.cells) (hl : itLies w0 x) (h : JS w0 J s o w) (k : x.h.kind = 4) (hbo : x.h.both = true) (hc : Pn.okCond x.h.cond = true) (hT : okJ x.t) (oT : Pn.okList x.t = true) (hE : okJ x.e) (oE : Pn.okList x.e = true) (hs : 0 ≤ s) (s4 : s + Pn.cnt x.t ≤ 400) (se4 : s + Pn.cnt x.t + Pn.cnt x.e ≤ 400) (h0 : 0 ≤ o) (d20 : o + 1 + Pn.dp x.t ≤ 20) (de20 : o + 1 + Pn.dp x.e ≤ 20) :
  Calls Tryz.prog 118 #[.pointer (some ⟨J, 0, none⟩), .pointer (some ⟨b, q, none⟩)] w fun e w' => e = .returned (.bool true) ∧ JS w0 J (s + Pn.cnt x.t + Pn.cnt x.e) o w' := by
 have HG := hdn hg; have HR := hdn hr; have HL := hdn hl; have HJ := hdn h
 have HRW : Hid (∀ w' s' o', JS w0 J s' o' w' → w'.rangeAt b q x.cells) := hdn (fun w' s' o' h' => rangeAt_below hr h'.1)
 have c0 := cell_at (rangeAt_below hr h.1) 0 _ rfl
 rw [Nat.add_zero] at c0
 rw [k] at c0
 have CC := hdn (isCond_any x.h.cond b (q + 17) w (h.gl hg) hc (rangeAt_sub (rangeAt_below hr h.1) 17 26 rfl) (vlLies_below hl.1.2.2.1 h.1) (vlLies_below hl.1.2.2.2.1 h.1))
 have CT : Hid (∀ w', JS w0 J s o w' → Calls Tryz.prog 156 #[.pointer (some ⟨J, 0, none⟩), .slice x.tp x.t.len x.tc] w' fun e w'' => e = .returned (.bool true) ∧ JS w0 J (s + Pn.cnt x.t) o w'') := hdn (fun w' h' => block_J x.t hT x.tp x.tc w0 J s o w' hg hl.2.1 h' oT hs s4 h0 d20)
 have CE : Hid (∀ w', JS w0 J (s + Pn.cnt x.t) o w' → Calls Tryz.prog 156 #[.pointer (some ⟨J, 0, none⟩), .slice x.ep x.e.len x.ec] w' fun e w'' => e = .returned (.bool true) ∧ JS w0 J (s + Pn.cnt x.t + Pn.cnt x.e) o w'') := hdn (fun w' h' => block_J x.e hE x.ep x.ec w0 J _ o w' hg hl.2.2 h' oE (by have := Pn.cnt_nn x.t; omega) se4 h0 de20)
 have HBO := hdn hbo
 clear hg hr hl h k hc hT oT s4 d20 hbo hE oE se4 de20
 go_enter Tryz.func118, Tryz.ntmps118
 go_wp2_with (first | (go_at_call 155; refine CC.out.mono ?_; rintro e w1 ⟨rfl, hb⟩; have HJ1 := hdn (HJ.out.below hb); clear hb; have c45 := cell_at (HRW.out _ _ _ HJ1.out) 45 _ rfl; have c47 := cell_at (HRW.out _ _ _ HJ1.out) 47 _ rfl) | (go_at_call 156; (with_reducible refine (CT.out _ HJ1.out).mono ?_); rintro e w2 ⟨rfl, h2⟩; have HJ2 := hdn h2; clear h2; have c47 := cell_at (HRW.out _ _ _ HJ2.out) 47 _ rfl; rw [HBO.out] at c47; have c46 := cell_at (HRW.out _ _ _ HJ2.out) 46 _ rfl) | (go_at_call 156; (with_reducible refine (CE.out _ HJ2.out).mono ?_); rintro e w3 ⟨rfl, h3⟩; have HJ3 := hdn h3; clear h3))
 go_ret
 exact ⟨rfl, HJ3.out⟩
end Go.Proofs.YtdlchhimkelinaaGreatDoor
