/-
  DERIVED. The range over the edges from a point, in the search for circles.
-/
import Derived.Test.YtnkimfbdcghgpaaDoorXv
import Derived.Test.YtnkimfbdcghgpaaDoorXr
namespace Go.Proofs.YtnkimfbdcghgpaaDoor
open Go.RowKit Go.Sort Go.Shelf
attribute [local go_sem] Oper.semAt_some

def stk (ps : List Nat) : List Int := ps.reverse.map fun (p : Nat) => (p : Int)
theorem stk_cons (t : Nat) (r : List Nat) : stk (t :: r) = stk r ++ [(t : Int)] := by simp [stk]
theorem stk_len (r : List Nat) : (stk r).length = r.length := by simp [stk]
def rf30 : Code :=
  Code.rangeFunc (Operand.tmp 26) #[27]
   (Code.region 6
     #[{ dst := some 9, op := Op.alloc 34, type := 0, pos := "web.go:97", after := #[],
         guard := none },
       { dst := none, op := Op.store 34 (Operand.tmp 9) (Operand.tmp 27), type := 0,
         pos := "web.go:97",
         after := #[{ on := 0, ground := Ground.data }, { on := 0, ground := Ground.phase }],
         guard := none }]
     false)
   (Code.block 3
     ((Code.region 7
           #[{ dst := some 28, op := Op.load 65 (Operand.tmp 5), type := 65, pos := "web.go:98",
               after := #[], guard := none },
             { dst := some 29, op := Op.fieldAddr 34 (Operand.tmp 9) 1, type := 0,
               pos := "web.go:98", after := #[], guard := none },
             { dst := some 30, op := Op.load 3 (Operand.tmp 29), type := 3, pos := "web.go:98",
               after := #[{ on := 1, ground := Ground.data }], guard := none },
             { dst := some 31, op := Op.indexAddr 65 (Operand.tmp 28) (Operand.tmp 30), type := 0,
               pos := "web.go:98",
               after := #[{ on := 0, ground := Ground.data }, { on := 2, ground := Ground.data }],
               guard := none },
             { dst := some 32, op := Op.load 66 (Operand.tmp 31), type := 66, pos := "web.go:98",
               after := #[{ on := 3, ground := Ground.data }], guard := none }]
           false).seq
       (Code.block 4
         ((Code.region 8
               #[{ dst := some 34,
                   op :=
                     Op.binOp BinOp.eql 66 (Operand.tmp 32)
                       (Operand.const (Value.int IntKind.u8 1)) 66,
                   type := 4, pos := "web.go:99", after := #[], guard := none },
                 { dst := some 33, op := Op.assign (Operand.tmp 34), type := 4, pos := "web.go:99",
                   after := #[{ on := 0, ground := Ground.data }], guard := none }]
               false).seq
           (Code.cond (Operand.tmp 33)
             ((Code.region 9
                   #[{ dst := none,
                       op := Op.store 4 (Operand.tmp 6) (Operand.const (Value.bool true)),
                       type := 0, pos := "web.go:100", after := #[], guard := none }]
                   false).seq
               Code.ret)
             ((Code.region 10
                   #[{ dst := some 36,
                       op :=
                         Op.binOp BinOp.eql 66 (Operand.tmp 32)
                           (Operand.const (Value.int IntKind.u8 0)) 66,
                       type := 4, pos := "web.go:101", after := #[], guard := none },
                     { dst := some 35, op := Op.assign (Operand.tmp 36), type := 4,
                       pos := "web.go:101", after := #[{ on := 0, ground := Ground.data }],
                       guard := none }]
                   false).seq
               (Code.cond (Operand.tmp 35)
                 ((Code.region 11
                       #[{ dst := some 37, op := Op.load 23 (Operand.tmp 7), type := 23,
                           pos := "web.go:103", after := #[], guard := none },
                         { dst := some 38, op := Op.fieldAddr 34 (Operand.tmp 9) 1, type := 0,
                           pos := "web.go:103", after := #[], guard := none },
                         { dst := some 39, op := Op.load 3 (Operand.tmp 38), type := 3,
                           pos := "web.go:103", after := #[{ on := 1, ground := Ground.data }],
                           guard := none },
                         { dst := some 40, op := Op.buildSlice 23 1 #[(0, Operand.tmp 39)],
                           type := 23, pos := "web.go:103",
                           after := #[{ on := 2, ground := Ground.data }], guard := none },
                         { dst := some 41,
                           op :=
                             Op.call
                               { callee := Callee.builtin Builtin.append,
                                 args := #[Operand.tmp 37, Operand.tmp 40],
                                 argTypes := #[23, 23] },
                           type := 23, pos := "web.go:103",
                           after :=
                             #[{ on := 0, ground := Ground.data },
                               { on := 3, ground := Ground.data }],
                           guard := none },
                         { dst := none, op := Op.store 23 (Operand.tmp 7) (Operand.tmp 41),
                           type := 0, pos := "web.go:103",
                           after :=
                             #[{ on := 4, ground := Ground.data },
                               { on := 4, ground := Ground.chain },
                               { on := 0, ground := Ground.phase },
                               { on := 1, ground := Ground.phase },
                               { on := 2, ground := Ground.phase },
                               { on := 3, ground := Ground.phase },
                               { on := 4, ground := Ground.phase }],
                           guard := none }]
                       false).seq
                   (Code.exit 1))
                 Code.skip)))))))

theorem keeps_gr {W W' : World} {T : Nat → Prop} (hg : Gr W W' T) (hT : ∀ k, T k → ∃ t cs, Bk W k t cs) (B : Nat) : KeepsFrom B W W' :=
  ⟨hg.size, fun k o _ ho hc => (hg.block k (Array.getElem?_eq_some_iff.1 ho).1 fun e => by
    obtain ⟨t, cs, hb⟩ := hT k e
    rw [show W.heap[k]? = _ from hb] at ho
    injection ho with ho
    rw [← ho] at hc; cases hc).trans ho⟩
/-- A circle has been met: the search ends. -/
structure Met (w : World) (wb mb fbx : Nat) (L : List Nat) (W' : World) : Prop where
  gr : Gr w W' (fun k => k = wb ∨ k = mb)
  fb : Bk W' fbx 4 #[.bool true]
  mks : Mks w.heap.size W' L
/-- What holds between two rounds. -/
def I30 (XS RS : List (List Ed)) (w W1 : World) (wb mb n mbx fbx obx B2 B3 t : Nat) (m : List Int) (sh r : List Nat) (v : Value) (L : List Nat) (r0 pre : List Ed) (W' : World) : Prop :=
  Sct w wb mb W' n mbx fbx obx (fun g => g = mbx ∨ g = fbx ∨ g = obx ∨ g = B2 ∨ g = B3) m (stk (t :: r)) v L ∧ Df XS (RS.set t (r0.drop pre.length)) m sh (t :: r) ∧ W1.heap.size ≤ W'.heap.size
/-- How a round has ended the loop. -/
def J30 (XS RS : List (List Ed)) (w : World) (wb mb n mbx fbx obx B2 B3 t : Nat) (m : List Int) (sh r : List Nat) (L : List Nat) (r0 : List Ed) (c : Code) (pre : List Ed) (W' : World) : Prop :=
  (c = .ret ∧ Circ XS ∧ Met w wb mb fbx L W') ∨ (c = .exit 1 ∧ pre.length ≤ r0.length ∧ pre ≠ [] ∧ ∃ j v', Sct w wb mb W' n mbx fbx obx (fun g => g = mbx ∨ g = fbx ∨ g = obx ∨ g = B2 ∨ g = B3) m (stk (j :: t :: r)) v' L ∧ Df XS (RS.set t (r0.drop pre.length)) m sh (j :: t :: r))
theorem Sct.own {w A B W1 : World} {wb mb n mbx fbx obx : Nat} {Pr : Nat → Prop} {m os : List Int} {v : Value} {L : List Nat} {row : Option Nat} (h : Sct w wb mb A n mbx fbx obx Pr m os v L) (hg : A.grownBy B row) (hr : ∀ r, row = some r → W1.heap.size ≤ r ∧ ∃ o : Obj, A.heap[r]? = some o ∧ o.isCells = false) (h1 : w.heap.size ≤ W1.heap.size) (hLs : ∀ D ∈ L, D < W1.heap.size) : Sct w wb mb B n mbx fbx obx Pr m os v L := by
  have hnc : ∀ (g : Nat) (t : TypeId) (cs : Array Value), Bk A g t cs → ¬ some g = row := fun g t cs hb e => by
    obtain ⟨o, ho, hc⟩ := (hr g e.symm).2
    rw [show A.heap[g]? = _ from hb] at ho
    injection ho with ho
    rw [← ho] at hc; cases hc
  refine h.kept (Gr.of_grown hg) (fun k hk hlt => ?_) (hnc _ _ _ h.row) (hnc _ _ _ h.sb) (hnc _ _ _ h.fb) (hnc _ _ _ h.ob) (fun g hv => ?_) (fun D hD e => ?_)
  · have := (hr k hk.symm).1; omega
  · obtain ⟨cur, hc⟩ := h.cells hv
    exact hnc _ _ _ hc
  · have := (hr D e.symm).1
    have := hLs D hD
    omega
set_option maxRecDepth 100000 in
set_option maxHeartbeats 3200000 in
theorem round30 {XS RS : List (List Ed)} {w W1 : World} {wb mb b0 C n mbx fbx obx B2 B3 t s0 : Nat} {ws : List Value} {m : List Int} {sh r : List Nat} {v : Value} {L : List Nat} {r0 : List Ed} {Ds : List Deferred} {Q : Exit → Act → World → Prop} (u3 u4 u9 u10 u11 u12 u13 u14 u15 u16 u17 u18 u19 u20 u21 u22 u23 u24 u25 u27 u28 u29 u30 u31 u32 u33 u34 u35 u36 u37 u38 u39 u40 u41 u42 u43 u44 u45 u46 u47 u48 u49 : Value)
    (hst : Sct w wb mb W1 n mbx fbx obx (fun g => g = mbx ∨ g = fbx ∨ g = obx ∨ g = B2 ∨ g = B3) m (stk (t :: r)) v L) (hwv : Wv W1 wb (fun k => k < b0) ws RS) (hwb : wb < b0) (hb0 : b0 ≤ mb) (hb2 : Bk W1 B2 41 #[.slice (some ⟨wb, 0, none⟩) n C]) (hb3 : Bk W1 B3 3 #[.int .i64 t])
    (hlo : w.heap.size ≤ B2 ∧ w.heap.size ≤ B3) (hd : B2 ≠ mbx ∧ B2 ≠ fbx ∧ B2 ≠ obx ∧ B3 ≠ mbx ∧ B3 ≠ fbx ∧ B3 ≠ obx)
    (hdf : Df XS RS m sh (t :: r)) (htm : m[t]? = some (1 : Int)) (hn : n = XS.length) (hE : InE XS) (hr0 : RS[t]? = some r0) (hLs : ∀ D ∈ L, D < W1.heap.size) (hol : r.length ≤ 90000)
    (hQ : ∀ (D : Nat) (W' : World) (ws' : List Value), Sct w wb mb W' n mbx fbx obx (fun g => g = mbx ∨ g = fbx ∨ g = obx ∨ g = B2 ∨ g = B3) m (stk (t :: r)) v (D :: L) → Wv W' wb (fun k => k < b0) ws' (RS.set t []) → Df XS (RS.set t []) m sh (t :: r) → Q .normal { tmps := #[.slice (some ⟨wb, 0, none⟩) n C, .int .i64 s0, .slice (some ⟨mb, 0, none⟩) n n, u3, u4, .pointer (some ⟨mbx, 0, none⟩), .pointer (some ⟨fbx, 0, none⟩), .pointer (some ⟨obx, 0, none⟩), .int .i64 t, u9, u10, u11, u12, u13, u14, u15, u16, u17, u18, u19, u20, u21, u22, u23, u24, u25, .func (.func 36) #[] #[.pointer (some ⟨B2, 0, none⟩), .pointer (some ⟨B3, 0, none⟩)], u27, u28, u29, u30, u31, u32, u33, u34, u35, u36, u37, u38, u39, u40, u41, u42, u43, u44, u45, u46, u47, u48, u49], defers := mark D :: Ds } W')
    (hQr : ∀ (D : Nat) (W' : World), Circ XS → Met w wb mb fbx (D :: L) W' → Q .ret { tmps := #[.slice (some ⟨wb, 0, none⟩) n C, .int .i64 s0, .slice (some ⟨mb, 0, none⟩) n n, u3, u4, .pointer (some ⟨mbx, 0, none⟩), .pointer (some ⟨fbx, 0, none⟩), .pointer (some ⟨obx, 0, none⟩), .int .i64 t, u9, u10, u11, u12, u13, u14, u15, u16, u17, u18, u19, u20, u21, u22, u23, u24, u25, .func (.func 36) #[] #[.pointer (some ⟨B2, 0, none⟩), .pointer (some ⟨B3, 0, none⟩)], u27, u28, u29, u30, u31, u32, u33, u34, u35, u36, u37, u38, u39, u40, u41, u42, u43, u44, u45, u46, u47, u48, u49], defers := mark D :: Ds } W')
    (hQx : ∀ (D : Nat) (W' : World) (ws' : List Value) (rest : List Ed) (j : Nat) (v' : Value), rest.length < r0.length → Sct w wb mb W' n mbx fbx obx (fun g => g = mbx ∨ g = fbx ∨ g = obx ∨ g = B2 ∨ g = B3) m (stk (j :: t :: r)) v' (D :: L) → Wv W' wb (fun k => k < b0) ws' (RS.set t rest) → Df XS (RS.set t rest) m sh (j :: t :: r) → Q (.exit 1) { tmps := #[.slice (some ⟨wb, 0, none⟩) n C, .int .i64 s0, .slice (some ⟨mb, 0, none⟩) n n, u3, u4, .pointer (some ⟨mbx, 0, none⟩), .pointer (some ⟨fbx, 0, none⟩), .pointer (some ⟨obx, 0, none⟩), .int .i64 t, u9, u10, u11, u12, u13, u14, u15, u16, u17, u18, u19, u20, u21, u22, u23, u24, u25, .func (.func 36) #[] #[.pointer (some ⟨B2, 0, none⟩), .pointer (some ⟨B3, 0, none⟩)], u27, u28, u29, u30, u31, u32, u33, u34, u35, u36, u37, u38, u39, u40, u41, u42, u43, u44, u45, u46, u47, u48, u49], defers := mark D :: Ds } W') :
    rf30.wpIn Fence.wide 9 Tryd.prog Q { tmps := #[.slice (some ⟨wb, 0, none⟩) n C, .int .i64 s0, .slice (some ⟨mb, 0, none⟩) n n, u3, u4, .pointer (some ⟨mbx, 0, none⟩), .pointer (some ⟨fbx, 0, none⟩), .pointer (some ⟨obx, 0, none⟩), .int .i64 t, u9, u10, u11, u12, u13, u14, u15, u16, u17, u18, u19, u20, u21, u22, u23, u24, u25, .func (.func 36) #[] #[.pointer (some ⟨B2, 0, none⟩), .pointer (some ⟨B3, 0, none⟩)], u27, u28, u29, u30, u31, u32, u33, u34, u35, u36, u37, u38, u39, u40, u41, u42, u43, u44, u45, u46, u47, u48, u49], defers := Ds } W1 := by
  have hmb := hst.mlt
  have hws := hst.gr.size
  have HKW : Hid (∀ k, k < b0 ∨ k = B2 ∨ k = B3 → k < W1.heap.size) := Lib.hid (by
    rintro k (h | h | h)
    · omega
    · rw [h]; exact hb2.lt
    · rw [h]; exact hb3.lt)
  have HNN := Lib.hid hn
  clear hn
  have htn : t < n := by rw [HNN.out]; exact hdf.inr t (by simp)
  have hmk : ∀ (D : Nat) (W : World), W1.heap.size ≤ D → Mks w.heap.size W L → W.heap[D]? = some (.deferred (some [])) → Mks w.heap.size W (D :: L) := fun D W hD hm hk =>
    ⟨List.nodup_cons.2 ⟨fun e => by have := hLs D e; omega, hm.nd⟩, fun E hE => by
      rcases List.mem_cons.1 hE with rfl | hE
      · exact ⟨by omega, hk⟩
      · exact hm.at_ E hE⟩
  unfold rf30
  refine wpIn_range_t rfl (by omega) (gf := 36) (lb := #[.pointer (some ⟨B2, 0, none⟩), .pointer (some ⟨B3, 0, none⟩)]) rfl trivial enters36
    (taken_seq 8 (by omega) wb B2 B3 t n C (fun k => k < b0 ∨ k = B2 ∨ k = B3) (fun k => k < b0) (fun _ h => .inl h) r0 RS hr0 hwb (.inr (.inl rfl)) (.inr (.inr rfl)) (by omega) (by omega) (by omega) W1 HKW.out ⟨ws, hwv⟩ (hb2.cell 0) (hb3.cell 0))
    (fun _ => rfl) (fun k hk => by rw [hk]; exact HKW.out wb (.inl hwb)) (fun h k => h.trans k)
    (fun W l o hl => ⟨by simp [World.putObj], fun k hk => World.putObj_heap_other (by have := HKW.out k hk; omega)⟩)
    (I30 XS RS w W1 wb mb n mbx fbx obx B2 B3 t m sh r v L r0)
    (J30 XS RS w wb mb n mbx fbx obx B2 B3 t m sh r L r0) ?hI ?hIT ?hIx ?hS ?hSp ?h0
    (fun x a' W' => ∃ eb, W1.heap.size ≤ eb ∧ Bk W' eb 34 x.cs ∧ a' = { tmps := #[.slice (some ⟨wb, 0, none⟩) n C, .int .i64 s0, .slice (some ⟨mb, 0, none⟩) n n, u3, u4, .pointer (some ⟨mbx, 0, none⟩), .pointer (some ⟨fbx, 0, none⟩), .pointer (some ⟨obx, 0, none⟩), .int .i64 t, .pointer (some ⟨eb, 0, none⟩), u10, u11, u12, u13, u14, u15, u16, u17, u18, u19, u20, u21, u22, u23, u24, u25, .func (.func 36) #[] #[.pointer (some ⟨B2, 0, none⟩), .pointer (some ⟨B3, 0, none⟩)], .agg x.cs, u28, u29, u30, u31, u32, u33, u34, u35, u36, u37, u38, u39, u40, u41, u42, u43, u44, u45, u46, u47, u48, u49], defers := [] }) ?hAx ?assign ?body ?done ?stop
  case hI =>
    rintro pre A B row ⟨h1, h2, h3⟩ hg hr
    exact ⟨h1.own hg hr hws hLs, h2, Nat.le_trans h3 hg.size⟩
  case hIT =>
    rintro pre A B ⟨h1, h2, h3⟩ hg
    have hge : ∀ g, w.heap.size ≤ g → ¬ g = wb := fun g h => by omega
    have hlt := h1.lt
    exact ⟨h1.kept hg (fun k hk _ => hk) hmb.2 (hge _ hlt.1) (hge _ (by omega)) (hge _ (by omega)) (fun g hv => hge g (h1.q.lt g hv).1) (fun D hD => hge D (h1.mks.at_ D hD).1), h2, Nat.le_trans h3 hg.size⟩
  case hIx =>
    rintro c pre A B row (⟨h1, h2, h3⟩ | ⟨h1, h2, h2', j, v', h3, h4⟩) hg hr
    · refine .inl ⟨h1, h2, (h3.gr.then (Gr.of_grown hg) fun i hi e => ?_), (Gr.of_grown hg).bk h3.fb fun e => ?_, h3.mks.nd, fun D hD => ⟨(h3.mks.at_ D hD).1, (hg.block D (Array.getElem?_eq_some_iff.1 (h3.mks.at_ D hD).2).1 fun e => ?_).trans (h3.mks.at_ D hD).2⟩⟩
      · have := (hr i e.symm).1; omega
      · obtain ⟨o, ho, hc⟩ := (hr fbx e.symm).2
        rw [show A.heap[fbx]? = _ from h3.fb] at ho
        injection ho with ho
        rw [← ho] at hc; cases hc
      · have := (hr D e.symm).1
        have := hLs D hD
        omega
    · exact .inr ⟨h1, h2, h2', j, v', h3.own hg hr hws hLs, h4⟩
  case hS =>
    rintro xs A B row ⟨h1, vs', h2⟩ hg hr
    exact ⟨h1, vs', h2.kept2 (fun k hk hlt => hg.block k hlt (fun e => by have := (hr k e.symm).1; have := HKW.out k (.inl hk); omega)) hwb⟩
  case hSp =>
    rintro xs A B row ⟨rest, h1, vs', h2⟩ hg hr
    exact ⟨rest, h1, vs', h2.kept2 (fun k hk hlt => hg.block k hlt (fun e => by have := (hr k e.symm).1; have := HKW.out k (.inl hk); omega)) hwb⟩
  case h0 => exact ⟨hst, by rw [List.length_nil, List.drop_zero, set_same hr0]; exact hdf, Nat.le_refl _⟩
  case hAx =>
    rintro x a' u A B row ⟨eb, h1, h2, h3⟩ hg hr
    refine ⟨eb, h1, (Gr.of_grown hg).bk h2 (fun e => ?_), h3⟩
    obtain ⟨o, ho, hc⟩ := (hr eb e.symm).2
    rw [show A.heap[eb]? = _ from h2] at ho
    injection ho with ho
    rw [← ho] at hc; cases hc
  case done =>
    rintro D xs W hD ⟨rfl, vs', h2⟩ ⟨h1, h3, h4⟩ hk
    rw [List.drop_length] at h3
    exact hQ D W vs' ⟨h1.gr, h1.lt, h1.mlt, h1.row, h1.sb, h1.fb, h1.ob, h1.q, h1.ne, h1.prl, hmk D W hD h1.mks hk⟩ h2 h3
  case stop =>
    rintro D c pre W hD ⟨rest, h1, vs', h2⟩ (⟨rfl, h3, h4⟩ | ⟨rfl, h5, h5', j, v', h3, h4⟩) hk
    · exact wpIn_ret (hQr D W h3 ⟨h4.gr, h4.fb, hmk D W hD h4.mks hk⟩)
    · have hrs : r0.drop pre.length = rest := by rw [h1]; simp
      rw [hrs] at h4
      refine wpIn_exit (hQx D W vs' rest j v' ?_ ⟨h3.gr, h3.lt, h3.mlt, h3.row, h3.sb, h3.fb, h3.ob, h3.q, h3.ne, h3.prl, hmk D W hD h3.mks hk⟩ h2 h4)
      have h6 : 0 < pre.length := List.length_pos_iff.2 h5'
      rw [h1, List.length_append]; omega
  case assign =>
    rintro l pre x W K hi hK
    have HI := Lib.hid hi
    clear hi
    gi_wp2_with ((with_reducible show wpListIn _ _ _ _ _ (Oper.mk _ (Op.store 34 _ _) _ _ _ _ :: _) _ _); refine wpListIn_store_new rfl 34 _ _ rfl _ x.cs rfl rfl size34 rfl (Ed.one x) ?_)
    obtain ⟨h1, h2, hsz⟩ := HI.out
    have hal : Below W.heap.size W (W.alloc (.cells x.cs 34)) := (Below.refl _ _).alloc (Nat.le_refl _) _
    exact hK _ _ ((KeepsOthers.alloc _ _).from _) ⟨hal.size, fun k hk => hal.block k (Nat.lt_of_lt_of_le (HKW.out k hk) hsz)⟩ ⟨h1.kept (T := fun _ => False) (Gr.new _) (fun _ h => h.elim) id id id id (fun _ _ => id) (fun _ _ => id), h2, Nat.le_trans hsz hal.size⟩ ⟨W.heap.size, hsz, heap_alloc_new _ _, rfl⟩
  case body =>
    rintro l pre x a' W ⟨h1, h3, hsz⟩ ⟨eb, h6, h7, rfl⟩ hpre
    have hps : r0.drop pre.length = x :: r0.drop (pre ++ [x]).length := by
      obtain ⟨rest, hr⟩ := hpre
      rw [← hr]; simp
    have hpl : (pre ++ [x]).length ≤ r0.length := hpre.length_le
    rw [hps] at h3
    obtain ⟨rest, hrest⟩ : ∃ rest, rest = r0.drop (pre ++ [x]).length := ⟨_, rfl⟩
    have HREST := Lib.hid hrest
    rw [← hrest] at h3
    clear hrest
    have hcr : (RS.set t (x :: rest))[t]? = some (x :: rest) := List.getElem?_set_self (List.getElem?_eq_some_iff.1 hr0).1
    have hmem : x ∈ XS.getD t [] := h3.sub t x (by rw [getD_at hcr]; simp)
    obtain ⟨hx0, hxl⟩ := hE t x hmem
    have hn := HNN.out
    obtain ⟨j, hj⟩ : ∃ j : Nat, x.t = (j : Int) := ⟨x.t.toNat, by omega⟩
    have hjn : j < m.length := by rw [h3.len]; omega
    obtain ⟨z, hz⟩ : ∃ z, m[j]? = some z := ⟨_, List.getElem?_eq_getElem hjn⟩
    have hzv := h3.val j z hz
    have b0' : W.cell? ⟨mbx, 0, none⟩ = some (.slice (some ⟨mb, 0, none⟩) n n) := h1.sb.cell 0
    have b1 : W.cell? ⟨eb, 1, none⟩ = some (.int .i64 j) := by rw [← hj]; exact h7.cell 1
    have b2 : W.cell? ⟨mb, j, none⟩ = some (.int .u8 z) := by rw [h1.row.cell]; simp [hz, mv]
    have b3 : W.cell? ⟨fbx, 0, none⟩ = some (.bool false) := h1.fb.cell 0
    have f3 : W.frozen? ⟨fbx, 0, none⟩ = false := h1.fb.frozen 0
    have hjn' : (j : Int) < (n : Int) := by omega
    have HH := Lib.hid (And.intro h1 (And.intro h3 hsz))
    have H7 := Lib.hid h7
    have HZ := Lib.hid hz
    have HJ := Lib.hid hj
    have HCR := Lib.hid hcr
    clear h1 h3 hsz h7 hn hcr hz hj hps hpre hmem hxl hx0 hr0 hE
    have hKn : ∀ k, k < b0 ∨ k = B2 ∨ k = B3 → k ≠ fbx ∧ k ≠ obx ∧ v.ownBlock ≠ some k := by
      intro k hk
      have h1 := HH.out.1
      have h2 := h1.lt
      rcases hk with hk | hk | hk
      · exact ⟨by omega, by omega, fun e => by have := (h1.q.lt k e).1; omega⟩
      · rw [hk]; exact ⟨hd.2.1, hd.2.2.1, h1.ne B2 (by simp)⟩
      · rw [hk]; exact ⟨hd.2.2.2.2.1, hd.2.2.2.2.2, h1.ne B3 (by simp)⟩
    have HKN := Lib.hid hKn
    clear hKn
    rcases hzv with rfl | rfl | rfl
    · have h1 := HH.out.1
      obtain ⟨p, cc, hvs⟩ := h1.q.shape
      have e1 : (stk (t :: r)).length = r.length + 1 := by rw [stk_len]; rfl
      rw [e1] at hvs
      have b5 : W.cell? ⟨obx, 0, none⟩ = some (.slice p (r.length + 1) cc) := by rw [← hvs]; exact h1.ob.cell 0
      clear b0' b2 b3 f3 h1
      have b0' : W.cell? ⟨mbx, 0, none⟩ = some (.slice (some ⟨mb, 0, none⟩) n n) := HH.out.1.sb.cell 0
      have b2 : W.cell? ⟨mb, j, none⟩ = some (.int .u8 0) := by rw [HH.out.1.row.cell]; simp [HZ.out, mv]
      gi_wp2_with (gi_at_builtin; refine wpListIn_app_ot rfl (.tmp 37) (.tmp 40) rfl w.heap.size (stk (t :: r)) (.slice p (r.length + 1) cc) rfl (hvs ▸ HH.out.1.q) HH.out.1.gr.size (j : Int) rfl (by rw [e1]; omega) ?_; intro v'' w3 hO hg hto hsh; rw [e1] at hsh; obtain ⟨p3, c3, rfl⟩ := hsh; have HO3 := Lib.hid hO; have HG3 : Hid (W.grownBy w3 (Value.slice p (r.length + 1) cc).ownBlock) := Lib.hid (below_grown rfl hg); have HT3 := Lib.hid hto; have hb3 := HH.out.1.ob.grown HG3.out (fun q hq => (by have := HH.out.1.ne obx (by simp); rw [hvs] at this; intro e; exact this (e ▸ hq))); have d3 : w3.cell? ⟨obx, 0, none⟩ = some v := hb3.cell 0; rw [hvs] at d3; have f3 : w3.frozen? ⟨obx, 0, none⟩ = false := hb3.frozen 0; clear hO hg hto hb3)
      have hG3 := HG3.out
      have hT3 := HT3.out
      rw [← hvs] at hG3 hT3
      have hO3 := HO3.out
      rw [← stk_cons] at hO3
      have h3 := HH.out.1.queue hG3 hT3 hO3
      have hg4 : Gr W (w3.setCell ⟨obx, 0, none⟩ (.slice p3 (r.length + 1 + 1) c3)) (fun k => some k = v.ownBlock ∨ k = obx) := ((Gr.of_grown hG3).mono (fun _ _ e => .inl e)).setCell (p := ⟨obx, 0, none⟩) (fun _ => .inr rfl) _
      have hp := HH.out.2.1.push htm HCR.out HJ.out HZ.out
      rw [List.set_set, HREST.out] at hp
      refine ⟨⟨keeps_gr hg4 (fun k hk => ?_) _, hg4.size, fun k hk => hg4.block k (Nat.lt_of_lt_of_le (HKW.out k hk) HH.out.2.2) ?_⟩, .inr ⟨rfl, hpl, by simp, j, _, h3, hp⟩⟩
      · rcases hk with e | e
        · obtain ⟨cur, hb⟩ := HH.out.1.cells e.symm
          exact ⟨_, _, hb⟩
        · exact ⟨_, _, e ▸ HH.out.1.ob⟩
      · rintro (e | e)
        · exact (HKN.out k hk).2.2 e.symm
        · exact (HKN.out k hk).2.1 e
    · gi_wp2
      have hg4 : Gr W (W.setCell ⟨fbx, 0, none⟩ (.bool true)) (fun k => k = fbx) := Gr.one fbx 0 _
      have h1 := HH.out.1
      refine ⟨⟨keeps_gr hg4 (fun k hk => ⟨_, _, hk ▸ h1.fb⟩) _, hg4.size, fun k hk => hg4.block k (Nat.lt_of_lt_of_le (HKW.out k hk) HH.out.2.2) (HKN.out k hk).1⟩, .inl ⟨rfl, HH.out.2.1.circ HCR.out (by rw [HJ.out]; exact HZ.out), ?_, ?_, h1.mks.nd, fun D hD => ⟨(h1.mks.at_ D hD).1, (hg4.block D (Array.getElem?_eq_some_iff.1 (h1.mks.at_ D hD).2).1 (h1.mk_ne hD h1.fb)).trans (h1.mks.at_ D hD).2⟩⟩⟩
      · have := h1.lt
        exact h1.gr.then hg4 fun i hi e => by omega
      · have h2 := h1.fb.set_ 0 (.bool true)
        simpa using h2
    · gi_wp2
      have HI2 : Hid (I30 XS RS w W1 wb mb n mbx fbx obx B2 B3 t m sh r v L r0 (pre ++ [x]) W) := Lib.hid (by
        have h1 := HH.out.2.1.skip htm HCR.out (by rw [HJ.out]; exact HZ.out)
        rw [List.set_set, HREST.out] at h1
        exact ⟨HH.out.1, h1, HH.out.2.2⟩)
      exact ⟨⟨KeepsFrom.refl _ _, Nat.le_refl _, fun _ _ => rfl⟩, HI2.out⟩
end Go.Proofs.YtnkimfbdcghgpaaDoor
