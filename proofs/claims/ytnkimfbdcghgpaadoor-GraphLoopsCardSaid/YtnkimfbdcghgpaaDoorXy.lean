/-
  DERIVED. Is there a circle: the walks of loops and of Loops.
-/
import Derived.Test.YtnkimfbdcghgpaaDoorXw
import Derived.Test.YtnkimfbdcghgpaaDoorXt
namespace Go.Proofs.YtnkimfbdcghgpaaDoor
open Go.RowKit Go.Sort

theorem info66 : (Tryd.prog.info? 66).map (fun i => (i.zero, i.size, i.bytes)) = some (some (.int .u8 0), 1, 1) := by kernel_rfl
theorem made_marks (w : World) (n : Nat) : Bk (w.alloc (.cells (madeCells #[.int .u8 0] n) 66)) w.heap.size 66 ((List.replicate n (0 : Int)).map mv).toArray := by
  have h1 : madeCells #[.int .u8 0] n = ((List.replicate n (0 : Int)).map mv).toArray := by
    apply Array.ext'
    rw [toList_madeCells_one, List.map_replicate]; rfl
  rw [← h1]; exact heap_alloc_new w _
def LpPost (XS : List (List Ed)) (wb : Nat) (w w' : World) (e : Ending) : Prop := ∃ r : Bool, e = .returned (.bool r) ∧ (r = true ↔ Circ XS) ∧ Gr w w' (fun k => k = wb)
set_option maxHeartbeats 1600000 in
set_option maxRecDepth 100000 in
theorem loops_any {XS : List (List Ed)} (w : World) (wb C n : Nat) (vs : List Value) (hw : Wv w wb (fun k => k < w.heap.size) vs XS) (hn : n = XS.length) (hn2 : n ≤ 2000) (hE : InE XS) (hlf : left XS ≤ 40000) :
    Calls Tryd.prog 15 #[.slice (some ⟨wb, 0, none⟩) n C] w fun e w' => LpPost XS wb w w' e := by
  obtain ⟨ir, hir, hz0, hz1, hz2⟩ := info_parts info66
  have HIR := Lib.hid (And.intro hir (And.intro hz0 (And.intro hz1 hz2)))
  have HN := Lib.hid hn
  have HN2 := Lib.hid hn2
  have HE := Lib.hid hE
  have HM := Lib.hid (made_marks w n)
  have HWV := Lib.hid (hw.alloc (.cells (madeCells #[.int .u8 0] n) 66))
  have HG : Hid (Gr w (w.alloc (.cells (madeCells #[.int .u8 0] n) 66)) (fun k => k = wb)) := Lib.hid ((Gr.refl w _).alloc _)
  have HWB : Hid (wb < w.heap.size) := Lib.hid hw.blk.lt
  have HD := Lib.hid (Df.start XS)
  rw [← hn] at HD
  clear hir hz0 hz1 hz2 hn hE hw
  go_enter Tryd.func15, Tryd.ntmps15
  go_wp2_with (at_make; refine wpList_make_row _ rfl _ _ 65 rfl 66 ir (.int .u8 0) Tryd.underlying65 HIR.out.1 HIR.out.2.1 HIR.out.2.2.1 rfl .i64 .i64 n rfl rfl (by rw [HIR.out.2.2.2]; have := HN2.out; omega) (by have := HN2.out; omega) ?_)
  obtain ⟨mb, hmb⟩ : ∃ mb, mb = w.heap.size := ⟨_, rfl⟩
  have HMB := Lib.hid hmb
  have HWV : Hid (Wv (w.alloc (.cells (madeCells #[.int .u8 0] n) 66)) wb (fun k => k < mb) vs XS) := Lib.hid (by rw [HMB.out]; exact HWV.out)
  rw [← hmb] at HM ⊢
  clear hmb
  generalize w.alloc (.cells (madeCells #[.int .u8 0] n) 66) = w1 at *
  go_loopw [10] (fun sk wr => ∃ (k : Nat) (m : List Int) (sh : List Nat) (RS : List (List Ed)) (ws : List Value), sk = .int .i64 k ∧ k ≤ n ∧ Hid (Bk wr mb 66 (m.map mv).toArray) ∧ Hid (Wv wr wb (fun k => k < mb) ws RS) ∧ Hid (Df XS RS m sh []) ∧ Hid (∀ p, p < k → m[p]? ≠ some (0 : Int)) ∧ Hid (Gr w wr (fun k => k = wb)) ∧ Hid (left RS ≤ 40000)) (fun sk _ => n - (Lib.intOf sk).toNat)
  case atStart => exact ⟨0, _, _, _, _, rfl, Nat.zero_le _, HM, HWV, HD, Lib.hid (fun p hp => absurd hp (by omega)), HG, Lib.hid hlf⟩
  case round =>
    clear HM HWV HD HG
    obtain ⟨k, m, sh, RS, ws, rfl, hk, HM, HWV, HD, HQ, HG, HLF⟩ := hrel
    have hml : m.length = n := by rw [HD.out.len, HN.out]
    by_cases hlt : k < n
    · obtain ⟨z, hz⟩ : ∃ z, m[k]? = some z := ⟨_, List.getElem?_eq_getElem (by omega)⟩
      have HZ := Lib.hid hz
      have hzv := HD.out.val k z hz
      have hlt' : (k : Int) < (n : Int) := by omega
      have b1 : wr.cell? ⟨mb, k, none⟩ = some (.int .u8 z) := by rw [HM.out.cell]; simp [hz, mv]
      clear hz
      rcases hzv with rfl | rfl | rfl
      · have HCI := Lib.hid (circles_any wr wb mb mb C k n ws HWV.out (by have := HWB.out; have := HMB.out; omega) (Nat.le_refl _) HM.out HN.out HN2.out HE.out (HD.out.open_ HZ.out) HLF.out)
        go_wp2_with (go_at_call 30; refine (HCI.out).mono ?_; rintro en w2 ⟨rr, rfl, hg, ht, hf⟩; have HG2 := Lib.hid hg; have HT := Lib.hid ht; have HF := Lib.hid hf; clear hg ht hf)
        · go_ret
          exact ⟨true, rfl, ⟨fun _ => HT.out (by assumption), fun _ => rfl⟩, HG.out.then HG2.out (fun i hi e => by have := HMB.out; omega)⟩
        · have hrr : rr = false := by cases rr <;> simp_all
          obtain ⟨RS2, m2, sh2, vs2, k1, k2, k3, k4, k5, k6⟩ := HF.out hrr
          go_roundw
          case rel => exact ⟨k + 1, m2, sh2, RS2, vs2, by go_num, by omega, Lib.hid k2, Lib.hid k3, Lib.hid k1, Lib.hid (fun p hp => by
            by_cases hpk : p = k
            · rw [hpk]; exact k5
            · exact fun e => HQ.out p (by omega) (k4 p e)), Lib.hid (HG.out.then HG2.out (fun i hi e => by have := HMB.out; omega)), Lib.hid k6⟩
          case measure => simp [Lib.intOf]; omega
      · exact absurd (HD.out.one k HZ.out) (by simp)
      · go_wp2_with fail
        go_roundw
        case rel => exact ⟨k + 1, m, sh, RS, ws, by go_num, by omega, HM, HWV, HD, Lib.hid (fun p hp => by
          by_cases hpk : p = k
          · rw [hpk, HZ.out]; simp
          · exact HQ.out p (by omega)), HG, HLF⟩
        case measure => simp [Lib.intOf]; omega
    · have hkn : k = n := by omega
      subst hkn
      go_wp2_with fail
      go_ret
      exact ⟨false, rfl, ⟨fun e => (by cases e), fun e => absurd e (HD.out.none HE.out (fun p hp => HQ.out p (by rw [HN.out]; exact hp)))⟩, HG.out⟩
theorem left_web (es : List Ed) (n : Nat) : left (web es n) ≤ n * es.length := by
  have h : ∀ l : List Nat, (((l.map (row es n)).map List.length).sum) ≤ l.length * es.length := by
    intro l
    induction l with
    | nil => simp
    | cons x r ih =>
      have := row_len es n x
      simp only [List.map_cons, List.sum_cons, List.length_cons, Nat.succ_mul]
      omega
  have := h (List.range n)
  rwa [List.length_range] at this
set_option maxHeartbeats 1600000 in
set_option maxRecDepth 100000 in
theorem loopsG_any (g : Gh) (n : Nat) (hp : g.pts = n) (h1 : 1 ≤ n) (h2 : n ≤ 2000) (he : g.es.length ≤ 4000) (hln : n * g.es.length ≤ 40000) (x : Nat) (w : World) (hl : ELies w x g.ep g.es) :
    Calls Tryd.prog 8 #[.agg g.cs] w fun e w' => ∃ r : Bool, e = .returned (.bool r) ∧ (r = true ↔ Circ (web g.es n)) ∧ Below w.heap.size w w' := by
  have HK : Hid (Bk (w.alloc (.cells g.cs 26)) w.heap.size 26 g.cs) := Lib.hid (heap_alloc_new _ _)
  have HB : Hid (Below w.heap.size w (w.alloc (.cells g.cs 26))) := Lib.hid ((Below.refl _ _).alloc (Nat.le_refl _) _)
  have HL : Hid (ELies (w.alloc (.cells g.cs 26)) x g.ep g.es) := Lib.hid (hl.gr ((Gr.refl w (fun _ => False)).alloc _) (fun _ _ _ _ h => h))
  have HWO := Lib.hid (woven_any g n hp h1 h2 he x (w.alloc (.cells g.cs 26)) HL.out)
  have HLW : Hid (left (web g.es n) ≤ 40000) := Lib.hid (Nat.le_trans (left_web _ _) hln)
  have HN := Lib.hid h2
  clear hp he hl HL h1
  go_enter Tryd.func8, Tryd.ntmps8
  go_wp2_with (first
    | ((with_reducible show wpList _ _ _ (Oper.mk _ (Op.load 26 _) _ _ _ _ :: _) _ _); refine wpList_load_bk rfl 26 _ rfl w.heap.size 26 g.cs rfl _ HK.out Tryd.underlying26 rfl size26 ?_)
    | (go_at_call 13; refine (HWO.out).mono ?_; rintro en w2 ⟨B, b, vs, rfl, hwes, hb, hbb⟩; have HLO := Lib.hid (loops_any w2 b n n vs hwes.wv (by rw [web_len]) HN.out (web_inE _ _) HLW.out); have HB2 : Hid (Below w.heap.size w w2) := Lib.hid (HB.out.trans (hb.mono HB.out.size)); have HBB : Hid (w.heap.size ≤ b) := Lib.hid (Nat.le_trans HB.out.size hbb); clear hwes hb hbb)
    | (go_at_call 15; refine (HLO.out).mono ?_; rintro en w3 ⟨rr, rfl, hr, hg⟩; have HR := Lib.hid hr; have HG := Lib.hid hg; clear hr hg)
    | fail)
  go_ret
  exact ⟨rr, rfl, HR.out, ⟨HG.out.os.trans HB2.out.os, HG.out.tape.trans HB2.out.tape, HG.out.output.trans HB2.out.output, Nat.le_trans HB2.out.size HG.out.size, fun i hi => (HG.out.block i (Nat.lt_of_lt_of_le hi HB2.out.size) (by have := HBB.out; omega)).trans (HB2.out.block i hi)⟩⟩
end Go.Proofs.YtnkimfbdcghgpaaDoor
