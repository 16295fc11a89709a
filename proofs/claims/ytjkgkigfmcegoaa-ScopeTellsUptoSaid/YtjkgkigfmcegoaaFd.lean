/-
  DERIVED. The walks of Fields and Global.
-/
import Derived.Test.YtjkgkigfmcegoaaBd
import Derived.Lib.SliceRun
namespace Go.Proofs.Ytjkgkigfmcegoaa
open Go.RowKit Go.Sort Go.Maps

theorem pcells_len (l : List (Int × Int)) : (pcells l).length = l.length * 2 := by
  induction l with
  | nil => rfl
  | cons a r ih => simp [pcells] at ih ⊢; omega
theorem pcells_one (l : List (Int × Int)) : ∀ u ∈ pcells l, u.oneCell' = true := by
  intro u hu
  simp [pcells] at hu
  obtain ⟨a, b, _, h | h⟩ := hu <;> subst h <;> rfl
theorem Gr.cellq {a b : World} {S : Nat → Prop} (h : Gr a b S) {p : Addr} {u : Value} (k : a.cell? p = some u) (hS : ¬ S p.block := by exact fun h => h) : b.cell? p = some u :=
  (World.cell?_of_block (h.block p.block (World.block_lt_of_cell? a _ k) hS)).trans k
/-- What a copy of a list of fields leaves. -/
def ClPost (l : List (Int × Int)) (w : World) (en : Ending) (w' : World) : Prop :=
  ∃ v, en = .returned v ∧ w'.ownsRow w.heap.size 42 2 v l.length (pcells l) ∧ Below w.heap.size w w'

set_option maxHeartbeats 1600000 in
set_option maxRecDepth 100000 in
theorem clone_any (l : List (Int × Int)) (e : Value) (base : Nat) (w : World) (hl : l.length ≤ 1048576) (hO : w.ownsRow base 42 2 e l.length (pcells l)) : Calls Try.prog 30 #[e] w (ClPost l w) := by
  obtain ⟨i0, hi0, hz0, hz1, hz2⟩ := info_parts zinfo42
  have HI := Lib.hid hi0; have HZ0 := Lib.hid hz0; have HZ1 := Lib.hid hz1; have HZ2 := Lib.hid hz2
  clear hi0 hz0 hz1 hz2
  rcases hO.2 with ⟨rfl, h0⟩ | ⟨g, cap, cur, rfl, hg⟩
  · obtain rfl : l = [] := List.length_eq_zero_iff.1 h0
    have hn := fun (w : World) => Lib.run_eql_slice_nil (P := Try.prog) w 33 42 none 0 0 0 0 Try.underlying33
    clear hO hl h0
    go_enter Try.func30, Try.ntmps30
    go_wp2
    go_ret
    exact ⟨_, rfl, World.ownsRow_nil _ _ _ _, Below.refl _ _⟩
  · clear hg
    have HN : Hid (∀ j u, (pcells l)[j]? = some u → w.cell? ((⟨g, 0, none⟩ : Addr).add j) = some u) := Lib.hid (hO.cells rfl)
    have hn := fun (w : World) => Lib.run_eql_slice_nil (P := Try.prog) w 33 42 (some ⟨g, 0, none⟩) l.length cap 0 0 Try.underlying33
    have HE : Hid ((w.alloc (.cells #[] 42)).ownsRow w.heap.size 42 2 (.slice (some ⟨w.heap.size, 0, none⟩) 0 0) 0 []) := Lib.hid (World.ownsRow_made w #[] 0 (Nat.le_refl _) (Nat.zero_le _) rfl)
    clear hO
    go_enter Try.func30, Try.ntmps30
    go_wp2_with (at_builtin; go_must (refine wpList_append_own _ rfl (.tmp 5) (.tmp 6) 33 rfl w.heap.size 42 i0 (.agg #[.int .i64 0, .int .i64 0]) 2 16 Try.underlying33 HI.out HZ0.out HZ1.out HZ2.out rfl (by decide) _ 0 [] rfl HE.out ⟨g, 0, none⟩ l.length cap (pcells l) rfl (pcells_len l) (fun j u hu => ((Gr.refl w (fun _ => False)).alloc _).cellq (HN.out j u hu)) (pcells_one l) (by unfold maxLen; omega) (by omega) (by simp) ?_); intro v' w1 hown1 hgrow1 _; have HO1 := Lib.hid hown1; have HG1 := Lib.hid hgrow1; clear hown1 hgrow1)
    go_ret
    refine ⟨_, rfl, by simpa using HO1.out, ?_⟩
    exact ((Below.refl _ _).alloc (Nat.le_refl _) _).grown HG1.out (by simp) (fun k hk => by injection hk with hk; exact Nat.le_of_eq hk)

set_option maxHeartbeats 1600000 in
set_option maxRecDepth 100000 in
theorem fields_any (x : Pg) (M : Nat) (w : World) (h : TabIs x w M) : Calls Try.prog 12 #[tptr M] w (ClPost (endsP x) w) := by
  obtain ⟨e, v, b1, b2, h1, h2, _⟩ := h.tab
  have hs : (endsP x).length ≤ 1048576 := by have := h.fsmall; unfold endsP; rw [endsOf_len]; omega
  have HC := Lib.hid (clone_any (endsP x) e b1 w hs h2)
  have c2 : w.cell? ⟨M + 4, 2, none⟩ = some e := h1.cell 2
  clear h h1 h2 hs
  unfold tptr
  go_enter Try.func12, Try.ntmps12
  go_wp2_with (go_at_call 30; refine HC.out.mono ?_; rintro en w1 ⟨v1, rfl, ho1, hb1⟩; have HO1 := Lib.hid ho1; have HB1 := Lib.hid hb1; clear ho1 hb1)
  go_ret
  exact ⟨_, rfl, HO1.out, HB1.out⟩

theorem pcells_at : ∀ (l : List (Int × Int)) (k : Nat) (x : Int × Int), l[k]? = some x → (pcells l)[k * 2]? = some (.int .i64 x.1) ∧ (pcells l)[k * 2 + 1]? = some (.int .i64 x.2)
  | a :: r, 0, x, h => by simp at h; subst h; exact ⟨rfl, rfl⟩
  | a :: r, k + 1, x, h => by
    have := pcells_at r k x (by simpa using h)
    rw [show (k + 1) * 2 = k * 2 + 2 by omega, show k * 2 + 2 + 1 = k * 2 + 1 + 2 by omega]
    exact this
theorem own_cells {w : World} {B : Nat} {e : TypeId} {v : Value} {l : List (Int × Int)} (h : w.ownsRow B e 2 v l.length (pcells l)) {k : Nat} {x : Int × Int} (hk : l[k]? = some x) :
    ∃ g c, v = .slice (some ⟨g, 0, none⟩) l.length c ∧ w.cell? ⟨g, k * 2, none⟩ = some (.int .i64 x.1) ∧ w.cell? ⟨g, k * 2 + 1, none⟩ = some (.int .i64 x.2) := by
  have h0 := h
  rcases h.2 with ⟨_, h1⟩ | ⟨g, c, _, rfl, _⟩
  · rw [List.length_eq_zero_iff.1 h1] at hk; simp at hk
  · have hc := h0.cells (g := g) rfl
    obtain ⟨p1, p2⟩ := pcells_at l k x hk
    refine ⟨g, c, rfl, ?_, ?_⟩
    · have h3 := hc _ _ p1
      rw [Addr.add_mid] at h3
      rwa [Nat.zero_add] at h3
    · have h3 := hc _ _ p2
      rw [Addr.add_mid] at h3
      rwa [Nat.zero_add] at h3
/-- A name's place. -/
def placeOf {κ : Type} [DecidableEq κ] (l : List κ) (x : κ) : Nat := l.idxOf x
theorem placeOf_lt {κ : Type} [DecidableEq κ] {l : List κ} {x : κ} (h : isIn l x = true) : placeOf l x < l.length := List.idxOf_lt_length_of_mem (isIn_iff.1 h)
theorem numOf_in {κ : Type} [DecidableEq κ] {l : List κ} {x : κ} (h : isIn l x = true) : numOf l x = (placeOf l x : Int) := by unfold numOf placeOf; rw [h]; rfl
/-- What a global is, and its number. -/
def globOf (x : Pg) (n : ByteArray) : Int × Int := if isIn (dNames x.globals.l) n = true then ((varsP x)[placeOf (dNames x.globals.l) n]?).getD (0, 0) else (0, 0)

set_option maxHeartbeats 1600000 in
set_option maxRecDepth 100000 in
theorem global_any (x : Pg) (n : ByteArray) (M : Nat) (w : World) (h : TabIs x w M) (hn : n.size ≤ maxLen) : Calls Try.prog 16 #[tptr M, .string n] w fun en w' => en = .returned (.tuple #[.int .i64 (globOf x n).1, .int .i64 (globOf x n).2, .bool (isIn (dNames x.globals.l) n)]) ∧ Below w.heap.size w w' := by
  obtain ⟨e, v, b1, b2, h1, _, h2⟩ := h.tab
  have HF := Lib.hid (findN_any n (M + 2) _ w h.rg hn)
  have c3 : w.cell? ⟨M + 4, 3, none⟩ = some (.map (some (M + 2))) := h1.cell 3
  have c4 : w.cell? ⟨M + 4, 4, none⟩ = some v := h1.cell 4
  cases hin : isIn (dNames x.globals.l) n
  · have HG : Hid (globOf x n = (0, 0)) := Lib.hid (by unfold globOf; rw [hin]; rfl)
    rw [hin] at HF
    clear h h1 h2 hin
    unfold tptr
    go_enter Try.func16, Try.ntmps16
    go_wp2_with (go_at_call 31; refine HF.out.mono ?_; rintro en w1 ⟨rfl, rfl⟩)
    exact bodyPost_ret (results_tmp3 rfl _ _ _) rfl ⟨by rw [HG.out]; rfl, Below.refl _ _⟩
  · have hlt := placeOf_lt hin
    have hdl : (dNames x.globals.l).length = x.globals.l.length := by simp [dNames]
    have hnum := numOf_in hin
    have hgl : globOf x n = ((varsP x)[placeOf (dNames x.globals.l) n]?).getD (0, 0) := by unfold globOf; rw [hin]; rfl
    have hvl := h.vlen
    have hgs := h.gsmall
    generalize placeOf (dNames x.globals.l) n = k at hlt hnum hgl
    have hk : (varsP x)[k]? = some ((varsP x)[k]'(by omega)) := List.getElem?_eq_getElem (by omega)
    generalize (varsP x)[k]'(by omega) = y at hk
    obtain ⟨g, c, rfl, d0, d1⟩ := own_cells h2 hk
    have HG : Hid (globOf x n = y) := Lib.hid (by rw [hgl, hk]; rfl)
    rw [hin, hnum] at HF
    have n0 : (0 : Int) ≤ (k : Int) := Int.natCast_nonneg _
    have n1 : (k : Int) < ((varsP x).length : Int) := by omega
    generalize (varsP x).length = vl at c4 n1
    clear h h1 h2 hin hnum hgl hk hvl hgs hdl hlt
    unfold tptr
    go_enter Try.func16, Try.ntmps16
    go_wp2_with (go_at_call 31; refine HF.out.mono ?_; rintro en w1 ⟨rfl, rfl⟩)
    go_quiet (fail)
    go_wp2_with fail
    exact bodyPost_ret (results_tmp3 rfl _ _ _) rfl ⟨by rw [HG.out]; rfl, below_drewN_ (Below.refl _ _) _⟩
end Go.Proofs.Ytjkgkigfmcegoaa
