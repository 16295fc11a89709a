/-
  DERIVED. The walk of the search's meet.
-/
import Derived.Test.YtmhpaacjioeknaaGreatTe
namespace Go.Proofs.YtmhpaacjioeknaaGreat
open Go.RowKit Go.Maps Go.Sort Go.WideMaps
namespace Tj

theorem SS.c1 {w0 w : World} {c : Cn} {XS : List (List Int)} {pv ov : Value} {s : St} (h : SS w0 c XS w pv ov s) : w.cell? ⟨c.sb, 0, none⟩ = some (.slice (some ⟨c.wb, 0, none⟩) XS.length c.wc) ∧ w.cell? ⟨c.sb, 1, none⟩ = some (.int .i64 s.met) ∧ w.cell? ⟨c.sb, 2, none⟩ = some (.slice (some ⟨c.rg, 0, none⟩) XS.length c.rc) ∧ w.cell? ⟨c.sb, 3, none⟩ = some (.slice (some ⟨c.lg, 0, none⟩) XS.length c.lc) ∧ w.cell? ⟨c.sb, 4, none⟩ = some (.slice (some ⟨c.dg, 0, none⟩) XS.length c.dc) ∧ w.cell? ⟨c.sb, 5, none⟩ = some pv ∧ w.cell? ⟨c.sb, 6, none⟩ = some ov ∧ w.cell? ⟨c.sb, 7, none⟩ = some (.int .i64 s.first) :=
  ⟨h.blk.cell 0, h.blk.cell 1, h.blk.cell 2, h.blk.cell 3, h.blk.cell 4, h.blk.cell 5, h.blk.cell 6, h.blk.cell 7⟩
theorem or_cell {w : World} {B g n c : Nat} {xs : List Int} (h : OR w B (sl g n c) xs) (hn : xs.length = n) (j : Nat) (hj : j < n) : w.cell? ⟨g, j, none⟩ = some (.int .i64 (xs.getD j 0)) ∧ w.frozen? ⟨g, j, none⟩ = false := by
  subst hn
  have h1 := OR.cell h j hj
  rw [fn_get xs j hj] at h1
  rw [List.getD_eq_getElem?_getD, List.getElem?_eq_getElem hj]
  exact ⟨h1, OR.froz h j⟩
set_option maxHeartbeats 3200000 in
set_option maxRecDepth 100000 in
theorem meet_m {w0 w : World} {c : Cn} {XS : List (List Int)} {pv ov : Value} {s : St} (h : SS w0 c XS w pv ov s) (v : Nat) (hv : v < XS.length) (hx : XS.length ≤ 1000) (hm : s.met ≤ 1000000) (hp : s.path.length ≤ 1000000) (ho : s.opn.length ≤ 1000000) :
    Calls Tryz.prog 50 #[.pointer (some ⟨c.sb, 0, none⟩), .int .i64 v] w fun e w' => e = .returned (.tuple #[]) ∧ ∃ pv' ov', SS w0 c XS w' pv' ov' (meet s v) := by
  have HS := Lib.hid h
  have hA1 : SS w0 c XS (w.setCell ⟨c.sb, 1, none⟩ (.int .i64 ((s.met : Int) + 1))) pv ov { s with met := s.met + 1 } := h.setMet (s.met + 1)
  have hA2 := (hA1.setR v ((s.met : Int) + 1)).drew
  have hA3 := ((hA1.setR v ((s.met : Int) + 1)).setL v ((s.met : Int) + 1)).drew
  obtain ⟨-, a1, -⟩ := h.c1
  have f1 : w.frozen? ⟨c.sb, 1, none⟩ = false := h.blk.frozen 1
  obtain ⟨-, b1, b2, b3, -⟩ := hA1.drew.c1
  have r1 := or_cell hA1.drew.r hA1.lr v hv
  have r2 := or_cell hA2.l hA2.ll v hv
  obtain ⟨r1c, r1f⟩ := r1
  obtain ⟨r2c, r2f⟩ := r2
  obtain ⟨ap, cp, hpv⟩ := h.p.shape
  obtain ⟨ao, co, hov⟩ := h.o.shape
  rw [ints_len] at hpv hov
  subst hpv
  subst hov
  obtain ⟨-, -, -, -, -, d5, d6, -⟩ := hA3.c1
  have d5f := hA3.blk.frozen 5
  have HA3 := Lib.hid hA3
  have hv' : (v : Int) < (XS.length : Int) := by omega
  have hx' : (XS.length : Int) ≤ 1000 := by omega
  have hm' : (s.met : Int) ≤ 1000000 := by omega
  have HPL := Lib.hid hp
  have HOL := Lib.hid ho
  clear h hA1 hA2 hA3 hp ho
  go_enter Tryz.func50, Tryz.ntmps50
  go_wp2_with fail
  go_region
  all_goals
    generalize (((w.setCell ⟨c.sb, 1, none⟩ (.int .i64 ((s.met : Int) + 1))).setCell ⟨c.rg, v, none⟩ (.int .i64 ((s.met : Int) + 1))).setCell ⟨c.lg, v, none⟩ (.int .i64 ((s.met : Int) + 1))).drew = w3 at *
    have MK : True := trivial
    go_wp2_with (first | ((with_reducible show wpList _ _ _ (Oper.mk (some 38) _ _ _ _ _ :: _) _ _); refine wpList_app_int rfl 33 und33 (.tmp 35) (.tmp 37) rfl w0.heap.size (ints s.path) (.slice ap s.path.length cp) rfl HA3.out.p HA3.out.fr.size (v : Int) rfl (by rw [ints_len]; have := HPL.out; omega) ?_; intro v5 w5 hO hsh hg hto; rw [ints_len] at hsh; have HA4 := Lib.hid (HA3.out.rowP hO hg hto); have HBK : Hid (Bk w5 c.sb 82 (cells c XS.length (.slice ap s.path.length cp) (.slice ao s.opn.length co) _)) := Lib.hid (HA3.out.blk.grown hg (fun q hq e => HA3.out.np.1 (by rw [hq, e]))); have e5 : w5.cell? ⟨c.sb, 5, none⟩ = some (.slice ap s.path.length cp) := HBK.out.cell 5; have e5f := HBK.out.frozen 5; have HA5 := Lib.hid HA4.out.c1; obtain ⟨g5, q5, rfl⟩ := hsh; obtain ⟨-, -, -, -, -, -, g6, -⟩ := HA5.out; have g6f := HA4.out.blk.frozen 6; clear hO hg hto) | ((with_reducible show wpList _ _ _ (Oper.mk (some 47) _ _ _ _ _ :: _) _ _); clear MK; generalize w5.setCell ⟨c.sb, 5, none⟩ (.slice (some ⟨g5, 0, none⟩) (s.path.length + 1) q5) = w55 at *) | ((with_reducible show wpList _ _ _ (Oper.mk (some 48) _ _ _ _ _ :: _) _ _); refine wpList_app_int rfl 33 und33 (.tmp 45) (.tmp 47) rfl w0.heap.size (ints s.opn) (.slice ao s.opn.length co) rfl HA4.out.o HA4.out.fr.size (v : Int) rfl (by rw [ints_len]; have := HOL.out; omega) ?_; intro v6 w6 hO hsh hg hto; rw [ints_len] at hsh; have HA6 := Lib.hid (HA4.out.rowO hO hg hto); have HBL : Hid (Bk w6 c.sb 82 (cells c XS.length (.slice (some ⟨g5, 0, none⟩) (s.path.length + 1) q5) (.slice ao s.opn.length co) _)) := Lib.hid (HA4.out.blk.grown hg (fun q hq e => HA4.out.no.1 (by rw [hq, e]))); have k6 : w6.cell? ⟨c.sb, 6, none⟩ = some (.slice ao s.opn.length co) := HBL.out.cell 6; have k6f := HBL.out.frozen 6; obtain ⟨g7, q7, rfl⟩ := hsh; clear hO hg hto))
    go_end0
    exact ⟨rfl, _, _, HA6.out⟩
end Tj
end Go.Proofs.YtmhpaacjioeknaaGreat
