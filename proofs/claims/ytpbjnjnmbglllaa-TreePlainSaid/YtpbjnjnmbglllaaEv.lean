/-
  DERIVED. The walk of the document's Every: all calls' names, in order.
-/
import Derived.Test.YtpbjnjnmbglllaaRefI
import Derived.Laws.AppendOwnNone
import Derived.OwnWalk
namespace Go.Proofs.Ytpbjnjnmbglllaa
open Go.RowKit Go.Sort

/-- The names that are called, in order. -/
def SL.every : SL → List ByteArray
  | .nil => []
  | .cons h _ _ t _ _ e r => (if h.kind = 3 then [h.name] else []) ++ t.every ++ e.every ++ r.every
theorem SL.every_le : ∀ (l : SL), l.every.length ≤ l.count
  | .nil => Nat.le_refl _
  | .cons h _ _ t _ _ e r => by
    have ht := SL.every_le t; have he := SL.every_le e; have hr := SL.every_le r
    simp only [SL.every, SL.count, List.length_append]
    split <;> simp <;> omega
def sv (l : List ByteArray) : List Value := l.map Value.string
theorem sv_append (a b : List ByteArray) : sv (a ++ b) = sv a ++ sv b := by simp [sv]
theorem sv_len (a : List ByteArray) : (sv a).length = a.length := by simp [sv]
theorem sv_one (a : List ByteArray) : ∀ u ∈ sv a, u.oneCell' = true := by
  intro u hu; simp only [sv, List.mem_map] at hu; obtain ⟨x, _, rfl⟩ := hu; rfl
theorem info9 : (Try.prog.info? 9).map (fun i => (i.zero, i.size, i.bytes)) = some (some (.string ByteArray.empty), 1, 16) := by kernel_rfl

theorem own_below {w w' : World} {B : Nat} {e : TypeId} {k : Nat} {v : Value} {n : Nat} {xs : List Value} (h : w.ownsRow B e k v n xs) (hb : Below w.heap.size w w') : w'.ownsRow B e k v n xs :=
  h.kept (w' := w') (row := none) ⟨hb.os, hb.tape, hb.output, hb.size, fun i hi _ => hb.block i hi⟩ (by cases v.ownBlock <;> simp)
theorem own_base {w : World} {B B' : Nat} {e : TypeId} {k : Nat} {v : Value} {n : Nat} {xs : List Value} (h : w.ownsRow B e k v n xs) (hB : B' ≤ B) : w.ownsRow B' e k v n xs := by
  refine ⟨h.1, ?_⟩
  rcases h.2 with h | ⟨g, cap, cur, h1, h2, h3⟩
  · exact .inl h
  · exact .inr ⟨g, cap, cur, h1, by omega, h3⟩
theorem own_shape {w : World} {base : Nat} {e : TypeId} {size : Nat} {v : Value} {n : Nat} {xs : List Value} (h : w.ownsRow base e size v n xs) : ∃ a c, v = .slice a n c := by
  rcases h.2 with ⟨rfl, rfl⟩ | ⟨g, cap, _, rfl, _⟩
  · exact ⟨_, _, rfl⟩
  · exact ⟨_, _, rfl⟩

/-- 'out = append(out, more...)', both of the call's own, of texts. -/
theorem wpList_append_sv {w : World} {ops : Array Oper} {rest : List Oper} {o : Oper} {a : Act} {Q : Exit → Act → World → Prop} (hgd : o.guard = none) (s x : Operand)
    (ho : o.op = .call { callee := .builtin .append, args := #[s, x], argTypes := #[27, 27] }) (base base2 : Nat) (v : Value) (ns : List ByteArray) (hs : a.eval s = v) (hown : w.ownsRow base 9 1 v ns.length (sv ns))
    (v2 : Value) (ms : List ByteArray) (hx : a.eval x = v2) (hown2 : w.ownsRow base2 9 1 v2 ms.length (sv ms)) (hn : ns.length + ms.length ≤ 1000000) (hbase : base ≤ w.heap.size)
    (h : ∀ v' w', w'.ownsRow base 9 1 v' (ns ++ ms).length (sv (ns ++ ms)) → Below base w w' → wpList Try.prog ops Q rest (a.put o.dst v') w') : wpList Try.prog ops Q (o :: rest) a w := by
  obtain ⟨i0, hi0, hz0, hz1, hz2⟩ := info_parts info9
  rcases hown2.2 with ⟨rfl, h0⟩ | ⟨g, cap, cur, rfl, hg, hhp, hc1, hc2, hc3, hc4⟩
  · have hms : ms = [] := List.length_eq_zero_iff.1 h0
    subst hms
    rw [List.append_nil] at h
    exact wpList_append_own_none hgd s x 27 ho base 9 i0 1 Try.underlying27 hi0 v ns.length (sv ns) hs hown hx (h v w hown (Below.refl _ _))
  · refine wpList_append_own _ hgd s x 27 ho base 9 i0 (.string ByteArray.empty) 1 16 Try.underlying27 hi0 hz0 hz1 hz2 rfl (by decide) v ns.length (sv ns) hs hown ⟨g, 0, none⟩ ms.length cap (sv ms) hx (by rw [sv_len]; omega) (fun j u hj => ?_) (sv_one ms) (by unfold maxLen; omega) (by omega) hbase (fun v' w' h1 h2 _ => ?_)
    · have hj' : j < ms.length := by have := (List.getElem?_eq_some_iff.1 hj).1; rw [sv_len] at this; exact this
      rw [show (⟨g, 0, none⟩ : Addr).add j = ⟨g, j, none⟩ by rw [Addr.add_mid]; simp, hown2.cellAt j (by omega), ← hj]
    · refine h v' w' (by rw [List.length_append, sv_append]; exact h1) ((Below.refl _ _).grown h2 hbase (fun k hk => (hown.lt k hk).1))

/-- A text laid in a new block of its own. -/
theorem own_new (w : World) (s : ByteArray) : (w.alloc (.cells #[.string s] 9)).ownsRow w.heap.size 9 1 (.slice (some ⟨w.heap.size, 0, none⟩) 1 1) ([s] : List ByteArray).length (sv [s]) :=
  ⟨rfl, .inr ⟨w.heap.size, 1, #[.string s], rfl, Nat.le_refl _, heap_alloc_new w _, Nat.le_refl _, by decide, rfl, rfl⟩⟩

def everyOk (l : SL) : Prop := ∀ (p : Option Addr) (c : Nat) (w : World), sLies w p l → l.count ≤ 10000 →
  Calls Try.prog 31 #[.slice p l.len c] w fun en w' => ∃ v, en = .returned v ∧ w'.ownsRow w.heap.size 9 1 v l.every.length (sv l.every) ∧ Below w.heap.size w w'

set_option maxHeartbeats 1600000 in
set_option maxRecDepth 100000 in
theorem every_one (l : SL) (hP : l.each everyOk) : everyOk l := by
  intro p c w hl hc
  obtain ⟨hlen, hl⟩ := hl
  have hlen' : l.len ≤ 300000000000 := by omega
  have HP := Lib.hid hP
  have HCN := Lib.hid (Nat.le_trans (SL.every_le l) hc)
  have HCC := Lib.hid hc
  clear hlen hP hc
  go_enter Try.func31, Try.ntmps31
  go_wp2_with fail
  go_loopw [3, 4] (fun v i wr => ∃ (k : Nat) (rest : SL) (ns : List ByteArray), i = .int .i64 k ∧ k ≤ l.len ∧ Hid (wr.ownsRow w.heap.size 9 1 v ns.length (sv ns)) ∧ Hid (rest.count ≤ 10000) ∧ Hid (k + rest.len = l.len) ∧ Hid (l.every = ns ++ rest.every) ∧
        Hid (rest = .nil ∨ ∃ b o, p = some ⟨b, o, none⟩ ∧ lies w rest b (o + k * 48)) ∧ Hid (rest.each everyOk) ∧ Hid (Below w.heap.size w wr)) (fun _ i _ => l.len - (intOf i).toNat)
  case atStart => exact ⟨0, l, [], rfl, Nat.zero_le _, Lib.hid (World.ownsRow_nil _ _ _ _), HCC, Lib.hid (Nat.zero_add _), Lib.hid rfl, Lib.hid (by simpa using hl), HP, Lib.hid (Below.refl _ _)⟩
  case round =>
    obtain ⟨k, rest, ns, rfl, hk, HO, HCR, HK, HG, HL, HQ, HB⟩ := hrel
    cases rest with
    | nil =>
      have hk' : l.len ≤ k := by have := HK.out; simp only [SL.len] at this; omega
      go_wp2_with fail
      have HF : Hid (l.every = ns) := Lib.hid (by rw [HG.out]; simp [SL.every])
      obtain ⟨a0, c0, rfl⟩ := own_shape HO.out
      go_ret
      exact ⟨_, rfl, by rw [HF.out]; exact HO.out, HB.out⟩
    | cons h tp tc t ep ec e r =>
      have hkl : k < l.len := by have := HK.out; simp only [SL.len] at this; omega
      obtain ⟨b, o, rfl, hrg, hhd, hts, hes, hrs⟩ := lies_head HL.out
      obtain ⟨hQt, hQe, hQr⟩ := HQ.out
      have hcr := HCR.out
      simp only [SL.count] at hcr
      have HQR := Lib.hid hQr
      have HRS := Lib.hid hrs
      have hlt := World.block_lt_of_cell? w _ (cell_at hrg 0 _ rfl)
      have D : ∀ w', Below w.heap.size w w' → w'.cell? ⟨b, o + k * 48 + 45, none⟩ = some (.slice tp t.len tc) ∧ w'.cell? ⟨b, o + k * 48 + 46, none⟩ = some (.slice ep e.len ec) := fun w' hb =>
        ⟨cell_at (rangeAt_below hrg hb) 45 _ rfl, cell_at (rangeAt_below hrg hb) 46 _ rfl⟩
      have HD := Lib.hid D
      have CT : ∀ w', Below w.heap.size w w' → Hid (Calls Try.prog 31 #[.slice tp t.len tc] w' fun en w'' => ∃ v, en = .returned v ∧ w''.ownsRow w'.heap.size 9 1 v t.every.length (sv t.every) ∧ Below w'.heap.size w' w'') := fun w' hb => Lib.hid (hQt _ _ _ (sLies_below hts hb) (by omega))
      have CE : ∀ w', Below w.heap.size w w' → Hid (Calls Try.prog 31 #[.slice ep e.len ec] w' fun en w'' => ∃ v, en = .returned v ∧ w''.ownsRow w'.heap.size 9 1 v e.every.length (sv e.every) ∧ Below w'.heap.size w' w'') := fun w' hb => Lib.hid (hQe _ _ _ (sLies_below hes hb) (by omega))
      have HCT := Lib.hid CT
      have HCE := Lib.hid CE
      have c0 := cell_at (rangeAt_below hrg HB.out) 0 _ rfl
      rw [Nat.add_zero] at c0
      have c43 := cell_at (rangeAt_below hrg HB.out) 43 _ rfl
      have HT3 : ∀ x, h.kind = x → Hid (l.every = (ns ++ (if x = 3 then [h.name] else []) ++ t.every ++ e.every) ++ r.every) := fun x hx => Lib.hid (by rw [HG.out, ← hx]; simp [SL.every])
      have HLE := HCN.out
      clear CT CE D hrg hhd hts hes hrs hQt hQe hQr hcr
      generalize h.name = nm at c43 HT3
      generalize h.kind = kind at c0 HT3
      have HTT := HT3 kind rfl
      clear HT3
      by_cases hk3 : kind = 3
      · rw [if_pos hk3] at HTT
        have HLL : Hid ((ns ++ [nm] ++ t.every ++ e.every).length ≤ 10000) := Lib.hid (by rw [HTT.out, List.length_append] at HLE; omega)
        subst hk3
        clear HLE
        go_wp2_with ((with_reducible show wpList _ _ _ (Oper.mk (some 24) _ _ _ _ _ :: _) _ _); refine wpList_append_sv rfl (.tmp 17) (.tmp 23) rfl w.heap.size wr.heap.size _ ns rfl (HO.out.alloc _) _ [nm] rfl (own_new _ _) (by have := HLL.out; simp only [List.length_append, List.length_cons, List.length_nil] at *; omega) (Nat.le_trans HB.out.size (by simp)) ?_; intro v1 w1 hown1 hb1; have HO1 := Lib.hid hown1; have HB1 : Hid (Below w.heap.size w w1) := Lib.hid ((HB.out.alloc HB.out.size _).trans hb1); have d45 := (HD.out w1 HB1.out).1; clear hown1 hb1)
        refine ((HCT.out _ HB1.out).out).mono ?_; rintro en w2 ⟨v2, rfl, ho2, hb2⟩
        have HO2 := Lib.hid ho2
        have HO1' := Lib.hid (own_below HO1.out hb2)
        have HB2 : Hid (Below w.heap.size w w2) := Lib.hid (HB1.out.trans (hb2.mono HB1.out.size))
        have HS2 : Hid (w.heap.size ≤ w2.heap.size) := Lib.hid HB2.out.size
        clear ho2 hb2
        go_wp2_with ((with_reducible show wpList _ _ _ (Oper.mk (some 32) _ _ _ _ _ :: _) _ _); refine wpList_append_sv rfl (.tmp 25) (.tmp 31) rfl w.heap.size _ _ (ns ++ [nm]) rfl HO1'.out _ t.every rfl HO2.out (by have := HLL.out; simp only [List.length_append] at *; omega) HS2.out ?_; intro v3 w3 hown3 hb3; have HO3 := Lib.hid hown3; have HB3 : Hid (Below w.heap.size w w3) := Lib.hid (HB2.out.trans hb3); have d46 := (HD.out w3 HB3.out).2; clear hown3 hb3)
        refine ((HCE.out _ HB3.out).out).mono ?_; rintro en w4 ⟨v4, rfl, ho4, hb4⟩
        have HO4 := Lib.hid ho4
        have HO3' := Lib.hid (own_below HO3.out hb4)
        have HB4 : Hid (Below w.heap.size w w4) := Lib.hid (HB3.out.trans (hb4.mono HB3.out.size))
        have HS4 : Hid (w.heap.size ≤ w4.heap.size) := Lib.hid HB4.out.size
        clear ho4 hb4
        go_wp2_with ((with_reducible show wpList _ _ _ (Oper.mk (some 40) _ _ _ _ _ :: _) _ _); refine wpList_append_sv rfl (.tmp 33) (.tmp 39) rfl w.heap.size _ _ (ns ++ [nm] ++ t.every) rfl HO3'.out _ e.every rfl HO4.out (by have := HLL.out; simp only [List.length_append] at *; omega) HS4.out ?_; intro v5 w5 hown5 hb5; have HO5 := Lib.hid hown5; have HB5 : Hid (Below w.heap.size w w5) := Lib.hid (HB4.out.trans hb5); clear hown5 hb5)
        go_roundw
        case rel =>
          exact ⟨k + 1, r, ns ++ [nm] ++ t.every ++ e.every, by go_num, by omega, HO5, Lib.hid (by have := HCR.out; simp only [SL.count] at this; omega), Lib.hid (by have := HK.out; simp only [SL.len] at this; omega), Lib.hid (by first | exact HTT.out | (rw [HTT.out]; simp)), HRS, HQR, HB5⟩
        case measure => simp [intOf]; omega
      · rw [if_neg hk3] at HTT
        have HLL : Hid ((ns ++ t.every ++ e.every).length ≤ 10000) := Lib.hid (by rw [HTT.out, List.length_append] at HLE; simp only [List.append_nil] at HLE; omega)
        have hk3' : (kind == 3) = false := by simpa using hk3
        have d45 := (HD.out wr HB.out).1
        clear HLE hk3
        go_wp2_with fail
        refine ((HCT.out _ HB.out).out).mono ?_; rintro en w2 ⟨v2, rfl, ho2, hb2⟩
        have HO2 := Lib.hid ho2
        have HO1' := Lib.hid (own_below HO.out hb2)
        have HB2 : Hid (Below w.heap.size w w2) := Lib.hid (HB.out.trans (hb2.mono HB.out.size))
        have HS2 : Hid (w.heap.size ≤ w2.heap.size) := Lib.hid HB2.out.size
        clear ho2 hb2
        go_wp2_with ((with_reducible show wpList _ _ _ (Oper.mk (some 32) _ _ _ _ _ :: _) _ _); refine wpList_append_sv rfl (.tmp 25) (.tmp 31) rfl w.heap.size _ _ (ns) rfl HO1'.out _ t.every rfl HO2.out (by have := HLL.out; simp only [List.length_append] at *; omega) HS2.out ?_; intro v3 w3 hown3 hb3; have HO3 := Lib.hid hown3; have HB3 : Hid (Below w.heap.size w w3) := Lib.hid (HB2.out.trans hb3); have d46 := (HD.out w3 HB3.out).2; clear hown3 hb3)
        refine ((HCE.out _ HB3.out).out).mono ?_; rintro en w4 ⟨v4, rfl, ho4, hb4⟩
        have HO4 := Lib.hid ho4
        have HO3' := Lib.hid (own_below HO3.out hb4)
        have HB4 : Hid (Below w.heap.size w w4) := Lib.hid (HB3.out.trans (hb4.mono HB3.out.size))
        have HS4 : Hid (w.heap.size ≤ w4.heap.size) := Lib.hid HB4.out.size
        clear ho4 hb4
        go_wp2_with ((with_reducible show wpList _ _ _ (Oper.mk (some 40) _ _ _ _ _ :: _) _ _); refine wpList_append_sv rfl (.tmp 33) (.tmp 39) rfl w.heap.size _ _ (ns ++ t.every) rfl HO3'.out _ e.every rfl HO4.out (by have := HLL.out; simp only [List.length_append] at *; omega) HS4.out ?_; intro v5 w5 hown5 hb5; have HO5 := Lib.hid hown5; have HB5 : Hid (Below w.heap.size w w5) := Lib.hid (HB4.out.trans hb5); clear hown5 hb5)
        go_roundw
        case rel =>
          exact ⟨k + 1, r, ns ++ t.every ++ e.every, by go_num, by omega, HO5, Lib.hid (by have := HCR.out; simp only [SL.count] at this; omega), Lib.hid (by have := HK.out; simp only [SL.len] at this; omega), Lib.hid (by first | exact HTT.out | (rw [HTT.out]; simp)), HRS, HQR, HB5⟩
        case measure => simp [intOf]; omega
theorem every_any (l : SL) : everyOk l := (SL.all every_one l).1

end Go.Proofs.Ytpbjnjnmbglllaa
