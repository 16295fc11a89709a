/-
  DERIVED. The walk of the law on counts.
-/
import Derived.Test.YtpbjnjnmbglllaaCf
import Derived.Test.YtpbjnjnmbglllaaRefD
namespace Go.Proofs.Ytpbjnjnmbglllaa
open Go.RowKit Go.Sort

def zp : Pth := ⟨ByteArray.empty, 0, ⟨none, 0, []⟩⟩
def zt : Tm := ⟨ByteArray.empty, 0, 0⟩
def zv : Vl := ⟨0, 0, zp, ByteArray.empty, zt, zt⟩
def zh (k : Int) : Hd := ⟨k, 0, zp, zv, ⟨0, 0, zv, zv⟩, ByteArray.empty, ⟨none, 0, []⟩, false⟩
/-- The page's example. -/
def exIn : SL := .cons (zh 1) none 0 .nil none 0 .nil .nil
def exL (n : Nat) : SL := .cons (zh 5) (some ⟨n, 0, none⟩) 1 exIn none 0 .nil .nil
theorem zp_lies (w : World) (s : Sl Hp) (h : s = ⟨none, 0, []⟩) : hopsLie w s := by subst h; exact ⟨by simp, .inl rfl⟩
theorem zh_lies (w : World) (k : Int) : hdLies w (zh k) :=
  ⟨zp_lies w _ rfl, zp_lies w _ rfl, zp_lies w _ rfl, zp_lies w _ rfl, ⟨by simp [zh], .inl rfl⟩, Nat.zero_le _⟩
def exW (w : World) : World := (w.alloc (.cells (sarr (zh 1) none 0 0 none 0 0) 57)).alloc (.cells (sarr (zh 5) (some ⟨w.heap.size, 0, none⟩) 1 1 none 0 0) 57)
theorem range_block {w : World} {b : Nat} {cs : List Value} {t : TypeId} {fr : Nat × Nat} (hb : w.heap[b]? = some (.cells cs.toArray t fr)) : w.rangeAt b 0 cs := fun j v hv => by
  rw [cell_of_row w b (0 + j) _ t fr hb]; simpa using hv
theorem ex_lies (w : World) : sLies (exW w) (some ⟨w.heap.size + 1, 0, none⟩) (exL w.heap.size) := by
  refine ⟨by simp [exL, SL.len], .inr ⟨w.heap.size + 1, 0, rfl, ?_⟩⟩
  refine ⟨range_block (heap_alloc2_new w _ _), zh_lies _ _, ⟨by simp [exIn, SL.len], .inr ⟨w.heap.size, 0, rfl, ?_⟩⟩, ⟨by simp [SL.len], .inl rfl⟩, trivial⟩
  exact ⟨range_block (heap_alloc2_old w _ _), zh_lies _ _, ⟨by simp [SL.len], .inl rfl⟩, ⟨by simp [SL.len], .inl rfl⟩, trivial⟩
theorem exW_below (w : World) : Below w.heap.size w (exW w) := ((Below.refl _ _).alloc (Nat.le_refl _) _).alloc (by simp) _

set_option maxHeartbeats 1600000 in
set_option maxRecDepth 100000 in
theorem lives_any (w : World) : Calls Try.prog 7 #[] w fun e w' => e = .returned (.bool true) ∧ Below w.heap.size w w' := by
  have HD := Lib.hid (deep_any (exL w.heap.size) (some ⟨w.heap.size + 1, 0, none⟩) 1 (exW w) (ex_lies w) (by simp [exL, exIn, SL.count]))
  have HL := Lib.hid (ex_lies w)
  have HB := Lib.hid (exW_below w)
  go_enter Try.func7, Try.ntmps7
  go_wp2_with fail
  refine (HD.out).mono ?_; rintro en w1 ⟨rfl, hb1⟩
  have HL1 := Lib.hid (sLies_below HL.out hb1)
  have HB1 : Hid (Below w.heap.size w w1) := Lib.hid (HB.out.trans (hb1.mono HB.out.size))
  have HC := Lib.hid (count_any (exL w.heap.size) (some ⟨w.heap.size + 1, 0, none⟩) 1 w1 HL1.out (by simp [exL, exIn, SL.count]))
  have e1 : (exL w.heap.size).deepFrom 0 = 1 := by simp [exL, exIn, SL.deepFrom, dg, hold, SL.len, zh]; rfl
  rw [e1]
  clear hb1 e1
  go_wp2_with fail
  refine (HC.out).mono ?_; rintro en w2 ⟨rfl, hb2⟩
  have HL2 := Lib.hid (sLies_below HL1.out hb2)
  have HB2 : Hid (Below w.heap.size w w2) := Lib.hid (HB1.out.trans (hb2.mono HB1.out.size))
  have HO := Lib.hid (loops_any (exL w.heap.size) (some ⟨w.heap.size + 1, 0, none⟩) 1 w2 HL2.out (by simp [exL, exIn, SL.count]))
  have e1 : (exL w.heap.size).cntFrom 0 = 2 := by simp [exL, exIn, SL.cntFrom]
  rw [e1]
  clear hb2 e1
  go_wp2_with fail
  refine (HO.out).mono ?_; rintro en w3 ⟨rfl, hb3⟩
  have HB3 : Hid (Below w.heap.size w w3) := Lib.hid (HB2.out.trans (hb3.mono HB2.out.size))
  have e1 : (exL w.heap.size).loopFrom 0 = 1 := by simp [exL, exIn, SL.loopFrom, zh]
  rw [e1]
  clear hb3 e1
  go_wp2_with fail
  go_ret
  exact ⟨rfl, HB3.out⟩

set_option maxHeartbeats 1600000 in
set_option maxRecDepth 100000 in
theorem texts_any (ns : List ByteArray) (v1 v2 : Value) (b1 b2 : Nat) (w : World) (h1 : w.ownsRow b1 9 1 v1 ns.length (sv ns)) (h2 : w.ownsRow b2 9 1 v2 ns.length (sv ns)) (hn : ns.length ≤ 1000000) :
    Calls Try.prog 14 #[v1, v2] w fun e w' => e = .returned (.bool true) ∧ Below w.heap.size w w' := by
  obtain ⟨A1, c1, rfl⟩ := own_shape h1
  obtain ⟨A2, c2, rfl⟩ := own_shape h2
  have H1 := Lib.hid h1
  have H2 := Lib.hid h2
  clear h1 h2
  go_enter Try.func14, Try.ntmps14
  go_wp2_with fail
  go_loopw [5] (fun i wr => ∃ k : Nat, k ≤ ns.length ∧ i = .int .i64 k ∧ Hid (Below w.heap.size w wr)) (fun i _ => ns.length - (intOf i).toNat)
  case atStart => exact ⟨0, Nat.zero_le _, rfl, Lib.hid (Below.refl _ _)⟩
  case round =>
    obtain ⟨k, hk, rfl, HB⟩ := hrel
    by_cases hkl : k < ns.length
    · have H1' := Lib.hid (own_below H1.out HB.out)
      have H2' := Lib.hid (own_below H2.out HB.out)
      obtain ⟨g1, d1, f1⟩ := Go.Joins.ownsRow_form H1.out (by omega)
      injection f1 with f1 f1a f1b
      clear f1a f1b
      subst f1
      obtain ⟨g2, d2, f2⟩ := Go.Joins.ownsRow_form H2.out (by omega)
      injection f2 with f2 f2a f2b
      clear f2a f2b
      subst f2
      have cx := cell_sv H1'.out k hkl
      have cy := cell_sv H2'.out k hkl
      generalize ns[k] = x at cx cy
      have hk0 : (0 : Int) ≤ (k : Int) := Int.natCast_nonneg _
      have hk1 : (k : Int) < (ns.length : Int) := by omega
      go_wp2_with fail
      go_quiet (fail)
      go_wp2_with fail
      go_roundw
      case rel => exact ⟨k + 1, by omega, by go_num, Lib.hid (below_drewN HB.out _)⟩
      case measure => simp [intOf]; omega
    · go_wp2_with fail
      go_ret
      exact ⟨rfl, HB.out⟩

end Go.Proofs.Ytpbjnjnmbglllaa
