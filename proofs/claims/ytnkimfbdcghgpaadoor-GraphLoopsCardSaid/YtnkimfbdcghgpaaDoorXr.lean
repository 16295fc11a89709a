/-
  DERIVED. The range over the edges from a point, in the search by breadth.
-/
import Derived.Test.YtnkimfbdcghgpaaDoorXo
import Derived.Test.YtnkimfbdcghgpaaDoorXs
namespace Go.Proofs.YtnkimfbdcghgpaaDoor
open Go.RowKit Go.Sort Go.Shelf
attribute [local go_sem] Oper.semAt_some

theorem set_same {α : Type} {l : List α} {i : Nat} {x : α} (h : l[i]? = some x) : l.set i x = l := by
  apply List.ext_getElem?
  intro j
  by_cases hj : i = j
  · subst hj; rw [List.getElem?_set_self (List.getElem?_eq_some_iff.1 h).1, h]
  · rw [List.getElem?_set_ne hj]
theorem enters36 : ∀ args w, (callFunc 36 args).run Tryd.prog w = .ok (.enter 36 args) w := enters_of Tryd.func36 (by kernel_rfl) rfl
def rf14 : Code :=
  (Code.rangeFunc (Operand.tmp 46) #[47]
    (Code.region 15
      #[{ dst := some 9, op := Op.alloc 34, type := 0, pos := "web.go:60", after := #[], guard := none },
        { dst := none, op := Op.store 34 (Operand.tmp 9) (Operand.tmp 47), type := 0, pos := "web.go:60",
          after := #[{ on := 0, ground := Ground.data }, { on := 0, ground := Ground.phase }], guard := none }]
      false)
    (Code.block 5
      ((Code.region 16
            #[{ dst := some 48, op := Op.load 23 (Operand.tmp 5), type := 23, pos := "web.go:61", after := #[],
                guard := none },
              { dst := some 49, op := Op.fieldAddr 34 (Operand.tmp 9) 1, type := 0, pos := "web.go:61", after := #[],
                guard := none },
              { dst := some 50, op := Op.load 3 (Operand.tmp 49), type := 3, pos := "web.go:61",
                after := #[{ on := 1, ground := Ground.data }], guard := none },
              { dst := some 51, op := Op.indexAddr 23 (Operand.tmp 48) (Operand.tmp 50), type := 0,
                pos := "web.go:61",
                after := #[{ on := 0, ground := Ground.data }, { on := 2, ground := Ground.data }], guard := none },
              { dst := some 52, op := Op.load 3 (Operand.tmp 51), type := 3, pos := "web.go:61",
                after := #[{ on := 3, ground := Ground.data }], guard := none },
              { dst := some 53,
                op := Op.binOp BinOp.lss 3 (Operand.tmp 52) (Operand.const (Value.int IntKind.i64 0)) 3, type := 4,
                pos := "web.go:61", after := #[{ on := 4, ground := Ground.data }], guard := none }]
            false).seq
        (Code.cond (Operand.tmp 53)
          ((Code.region 17
                #[{ dst := some 54, op := Op.load 23 (Operand.tmp 5), type := 23, pos := "web.go:62", after := #[],
                    guard := none },
                  { dst := some 55, op := Op.fieldAddr 34 (Operand.tmp 9) 1, type := 0, pos := "web.go:62",
                    after := #[], guard := none },
                  { dst := some 56, op := Op.load 3 (Operand.tmp 55), type := 3, pos := "web.go:62",
                    after := #[{ on := 1, ground := Ground.data }], guard := none },
                  { dst := some 57, op := Op.load 23 (Operand.tmp 5), type := 23, pos := "web.go:62", after := #[],
                    guard := none },
                  { dst := some 58, op := Op.load 3 (Operand.tmp 8), type := 3, pos := "web.go:62", after := #[],
                    guard := none },
                  { dst := some 59, op := Op.indexAddr 23 (Operand.tmp 57) (Operand.tmp 58), type := 0,
                    pos := "web.go:62",
                    after := #[{ on := 3, ground := Ground.data }, { on := 4, ground := Ground.data }],
                    guard := none },
                  { dst := some 60, op := Op.load 3 (Operand.tmp 59), type := 3, pos := "web.go:62",
                    after := #[{ on := 5, ground := Ground.data }], guard := none },
                  { dst := some 61,
                    op := Op.binOp BinOp.add 3 (Operand.tmp 60) (Operand.const (Value.int IntKind.i64 1)) 3,
                    type := 3, pos := "web.go:62", after := #[{ on := 6, ground := Ground.data }], guard := none },
                  { dst := some 62, op := Op.indexAddr 23 (Operand.tmp 54) (Operand.tmp 56), type := 0,
                    pos := "web.go:62",
                    after :=
                      #[{ on := 0, ground := Ground.data }, { on := 2, ground := Ground.data },
                        { on := 0, ground := Ground.phase }, { on := 1, ground := Ground.phase },
                        { on := 2, ground := Ground.phase }, { on := 3, ground := Ground.phase },
                        { on := 4, ground := Ground.phase }, { on := 5, ground := Ground.phase },
                        { on := 6, ground := Ground.phase }, { on := 7, ground := Ground.phase }],
                    guard := none },
                  { dst := none, op := Op.store 3 (Operand.tmp 62) (Operand.tmp 61), type := 0, pos := "web.go:62",
                    after :=
                      #[{ on := 8, ground := Ground.data }, { on := 7, ground := Ground.data },
                        { on := 0, ground := Ground.phase }, { on := 1, ground := Ground.phase },
                        { on := 2, ground := Ground.phase }, { on := 3, ground := Ground.phase },
                        { on := 4, ground := Ground.phase }, { on := 5, ground := Ground.phase },
                        { on := 6, ground := Ground.phase }, { on := 7, ground := Ground.phase }],
                    guard := none }]
                true).seq
            (Code.region 18
              #[{ dst := some 63, op := Op.load 23 (Operand.tmp 7), type := 23, pos := "web.go:63", after := #[],
                  guard := none },
                { dst := some 64, op := Op.fieldAddr 34 (Operand.tmp 9) 1, type := 0, pos := "web.go:63",
                  after := #[], guard := none },
                { dst := some 65, op := Op.load 3 (Operand.tmp 64), type := 3, pos := "web.go:63",
                  after := #[{ on := 1, ground := Ground.data }], guard := none },
                { dst := some 66, op := Op.buildSlice 23 1 #[(0, Operand.tmp 65)], type := 23, pos := "web.go:63",
                  after := #[{ on := 2, ground := Ground.data }], guard := none },
                { dst := some 67,
                  op :=
                    Op.call
                      { callee := Callee.builtin Builtin.append, args := #[Operand.tmp 63, Operand.tmp 66],
                        argTypes := #[23, 23] },
                  type := 23, pos := "web.go:63",
                  after := #[{ on := 0, ground := Ground.data }, { on := 3, ground := Ground.data }], guard := none },
                { dst := none, op := Op.store 23 (Operand.tmp 7) (Operand.tmp 67), type := 0, pos := "web.go:63",
                  after :=
                    #[{ on := 4, ground := Ground.data }, { on := 4, ground := Ground.chain },
                      { on := 0, ground := Ground.phase }, { on := 1, ground := Ground.phase },
                      { on := 2, ground := Ground.phase }, { on := 3, ground := Ground.phase },
                      { on := 4, ground := Ground.phase }],
                  guard := none }]
              false))
          Code.skip))))

theorem Bs.nil_cnt {XS RS : List (List Ed)} {s0 : Nat} {st os : List Int} (h : Bs XS RS s0 st os) : cnt st ≤ XS.length := by rw [← h.len]; exact cnt_le st
/-- What holds between two rounds: pre has come. -/
def I14 (XS RS : List (List Ed)) (w W1 : World) (wb n rb obx abx B2 B3 cx s0 m : Nat) (L : List Nat) (r0 : List Ed) (pre : List Ed) (W' : World) : Prop :=
  ∃ st' os' v', Stt w wb W' n rb (rb + 1) obx (fun g => g = rb ∨ g = rb + 1 ∨ g = obx ∨ g = abx ∨ g = B2 ∨ g = B3) st' os' v' L ∧ Bs XS (RS.set cx (r0.drop pre.length)) s0 st' ((cx : Int) :: os') ∧ os'.length + (n - cnt st') = m ∧ Bk W' abx 3 #[.int .i64 cx] ∧ W1.heap.size ≤ W'.heap.size
set_option maxRecDepth 100000 in
set_option maxHeartbeats 3200000 in
theorem round14 {XS RS : List (List Ed)} {w W1 : World} {wb C n rb obx abx B2 B3 cx s0 : Nat} {ws : List Value} {st os : List Int} {v : Value} {L : List Nat} {r0 : List Ed} {Ds : List Deferred} {Q : Exit → Act → World → Prop} (u2 u3 u4 u6 u9 u10 u11 u12 u13 u14 u15 u16 u17 u18 u19 u20 u21 u22 u23 u24 u25 u26 u27 u28 u29 u30 u31 u32 u33 u34 u35 u36 u37 u38 u39 u40 u41 u42 u43 u44 u45 u47 u48 u49 u50 u51 u52 u53 u54 u55 u56 u57 u58 u59 u60 u61 u62 u63 u64 u65 u66 u67 u68 : Value)
    (hst : Stt w wb W1 n rb (rb + 1) obx (fun g => g = rb ∨ g = rb + 1 ∨ g = obx ∨ g = abx ∨ g = B2 ∨ g = B3) st os v L) (hwv : Wv W1 wb (fun k => k < w.heap.size) ws RS) (hwb : wb < w.heap.size) (hab : Bk W1 abx 3 #[.int .i64 cx]) (hb2 : Bk W1 B2 41 #[.slice (some ⟨wb, 0, none⟩) n C]) (hb3 : Bk W1 B3 3 #[.int .i64 cx])
    (hlo : w.heap.size ≤ abx ∧ w.heap.size ≤ B2 ∧ w.heap.size ≤ B3) (hd : abx ≠ rb ∧ abx ≠ obx ∧ B2 ≠ rb ∧ B2 ≠ obx ∧ B3 ≠ rb ∧ B3 ≠ obx)
    (hbs : Bs XS RS s0 st ((cx : Int) :: os)) (hn : n = XS.length) (hn2 : n ≤ 2000) (hE : InE XS) (hr0 : RS[cx]? = some r0) (hLs : ∀ D ∈ L, D < W1.heap.size) (hcx : cx < n) (hol : os.length + (n - cnt st) ≤ 2000)
    (hQ : ∀ (D : Nat) (W' : World) (st' os' : List Int) (v' : Value) (ws' : List Value), Stt w wb W' n rb (rb + 1) obx (fun g => g = rb ∨ g = rb + 1 ∨ g = obx ∨ g = abx ∨ g = B2 ∨ g = B3) st' os' v' (D :: L) → Wv W' wb (fun k => k < w.heap.size) ws' (RS.set cx []) → Bs XS (RS.set cx []) s0 st' ((cx : Int) :: os') → os'.length + (n - cnt st') = os.length + (n - cnt st) →
      Q .normal { tmps := #[.slice (some ⟨wb, 0, none⟩) n C, .int .i64 s0, u2, u3, u4, .pointer (some ⟨rb + 1, 0, none⟩), u6, .pointer (some ⟨obx, 0, none⟩), .pointer (some ⟨abx, 0, none⟩), u9, u10, u11, u12, u13, u14, u15, u16, u17, u18, u19, u20, u21, u22, u23, u24, u25, u26, u27, u28, u29, u30, u31, u32, u33, u34, u35, u36, u37, u38, u39, u40, u41, u42, u43, u44, u45, .func (.func 36) #[] #[.pointer (some ⟨B2, 0, none⟩), .pointer (some ⟨B3, 0, none⟩)], u47, u48, u49, u50, u51, u52, u53, u54, u55, u56, u57, u58, u59, u60, u61, u62, u63, u64, u65, u66, u67, u68], defers := mark D :: Ds } W') :
    rf14.wpIn Fence.wide 9 Tryd.prog Q { tmps := #[.slice (some ⟨wb, 0, none⟩) n C, .int .i64 s0, u2, u3, u4, .pointer (some ⟨rb + 1, 0, none⟩), u6, .pointer (some ⟨obx, 0, none⟩), .pointer (some ⟨abx, 0, none⟩), u9, u10, u11, u12, u13, u14, u15, u16, u17, u18, u19, u20, u21, u22, u23, u24, u25, u26, u27, u28, u29, u30, u31, u32, u33, u34, u35, u36, u37, u38, u39, u40, u41, u42, u43, u44, u45, .func (.func 36) #[] #[.pointer (some ⟨B2, 0, none⟩), .pointer (some ⟨B3, 0, none⟩)], u47, u48, u49, u50, u51, u52, u53, u54, u55, u56, u57, u58, u59, u60, u61, u62, u63, u64, u65, u66, u67, u68], defers := Ds } W1 := by
  have HKW : Hid (∀ k, k < w.heap.size ∨ k = B2 ∨ k = B3 → k < W1.heap.size) := Lib.hid (by
    rintro k (h | h | h)
    · exact Nat.lt_of_lt_of_le h hst.gr.size
    · rw [h]; exact hb2.lt
    · rw [h]; exact hb3.lt)
  have HNN := Lib.hid hn
  clear hn
  unfold rf14
  refine wpIn_range_t rfl (by omega) (gf := 36) (lb := #[.pointer (some ⟨B2, 0, none⟩), .pointer (some ⟨B3, 0, none⟩)]) rfl trivial enters36
    (taken_seq 8 (by omega) wb B2 B3 cx n C (fun k => k < w.heap.size ∨ k = B2 ∨ k = B3) (fun k => k < w.heap.size) (fun _ h => .inl h) r0 RS hr0 hwb (.inr (.inl rfl)) (.inr (.inr rfl)) (by omega) (by omega) (by omega) W1 HKW.out ⟨ws, hwv⟩ (hb2.cell 0) (hb3.cell 0))
    (fun _ => rfl) (fun k hk => by rw [hk]; exact HKW.out wb (.inl hwb)) (fun h k => h.trans k)
    (fun W l o hl => ⟨by simp [World.putObj], fun k hk => World.putObj_heap_other (by have := HKW.out k hk; omega)⟩)
    (I14 XS RS w W1 wb n rb obx abx B2 B3 cx s0 (os.length + (n - cnt st)) L r0)
    (fun _ _ _ => False) ?hI ?hIT (fun _ _ _ _ _ hs _ _ => hs) ?hS ?hSp ?h0
    (fun x a' W' => ∃ eb, W1.heap.size ≤ eb ∧ Bk W' eb 34 x.cs ∧ a' = { tmps := #[.slice (some ⟨wb, 0, none⟩) n C, .int .i64 s0, u2, u3, u4, .pointer (some ⟨rb + 1, 0, none⟩), u6, .pointer (some ⟨obx, 0, none⟩), .pointer (some ⟨abx, 0, none⟩), .pointer (some ⟨eb, 0, none⟩), u10, u11, u12, u13, u14, u15, u16, u17, u18, u19, u20, u21, u22, u23, u24, u25, u26, u27, u28, u29, u30, u31, u32, u33, u34, u35, u36, u37, u38, u39, u40, u41, u42, u43, u44, u45, .func (.func 36) #[] #[.pointer (some ⟨B2, 0, none⟩), .pointer (some ⟨B3, 0, none⟩)], .agg x.cs, u48, u49, u50, u51, u52, u53, u54, u55, u56, u57, u58, u59, u60, u61, u62, u63, u64, u65, u66, u67, u68], defers := [] }) ?hAx ?assign ?body ?done (fun _ _ _ _ _ _ h _ => h.elim)
  case hI =>
    rintro pre A B row ⟨st', os', v', h1, h2, h3, h4, hsz⟩ hg hr
    have hgr : Gr A B (fun k => some k = row) := Gr.of_grown hg
    have hnc : ∀ (g : Nat) (t : TypeId) (cs : Array Value), Bk A g t cs → ¬ some g = row := fun g t cs hb e => by
      obtain ⟨o, ho, hc⟩ := (hr g e.symm).2
      rw [show A.heap[g]? = _ from hb] at ho
      injection ho with ho
      rw [← ho] at hc; cases hc
    refine ⟨st', os', v', h1.kept hgr (fun k hk hlt => ?_) (hnc _ _ _ h1.row) (hnc _ _ _ h1.sb) (hnc _ _ _ h1.ob) (fun g hv => ?_) (fun D hD e => ?_), h2, h3, hgr.bk h4 (hnc _ _ _ h4), Nat.le_trans hsz hg.size⟩
    · have := (hr k hk.symm).1
      have := hst.gr.size
      omega
    · obtain ⟨cur, hc⟩ := h1.cells hv
      exact hnc _ _ _ hc
    · have := (hr D e.symm).1
      have := hLs D hD
      omega
  case hIT =>
    rintro pre A B ⟨st', os', v', h1, h2, h3, h4, hsz⟩ hg
    have hge : ∀ g, w.heap.size ≤ g → ¬ g = wb := fun g h => by omega
    exact ⟨st', os', v', h1.kept hg (fun k hk _ => hk) (hge _ h1.lt.1) (hge _ (by have := h1.lt; omega)) (hge _ (by have := h1.lt; omega)) (fun g hv => hge g (h1.q.lt g hv).1) (fun D hD => hge D (h1.mks.at_ D hD).1), h2, h3, hg.bk h4 (hge _ hlo.1), Nat.le_trans hsz hg.size⟩
  case hS =>
    rintro xs A B row ⟨h1, vs', h2⟩ hg hr
    exact ⟨h1, vs', h2.kept2 (fun k hk hlt => hg.block k hlt (fun e => by have := (hr k e.symm).1; have := HKW.out k (.inl hk); omega)) hwb⟩
  case hSp =>
    rintro xs A B row ⟨rest, h1, vs', h2⟩ hg hr
    exact ⟨rest, h1, vs', h2.kept2 (fun k hk hlt => hg.block k hlt (fun e => by have := (hr k e.symm).1; have := HKW.out k (.inl hk); omega)) hwb⟩
  case h0 => exact ⟨st, os, v, hst, by rw [List.length_nil, List.drop_zero, set_same hr0]; exact hbs, rfl, hab, Nat.le_refl _⟩
  case hAx =>
    rintro x a' u A B row ⟨eb, h1, h2, h3⟩ hg hr
    refine ⟨eb, h1, (Gr.of_grown hg).bk h2 (fun e => ?_), h3⟩
    obtain ⟨o, ho, hc⟩ := (hr eb e.symm).2
    rw [show A.heap[eb]? = _ from h2] at ho
    injection ho with ho
    rw [← ho] at hc; cases hc
  case done =>
    rintro D xs W hD ⟨rfl, vs', h2⟩ ⟨st', os', v', h1, h3, h4, h5, -⟩ hk
    rw [List.drop_length] at h3
    refine hQ D W st' os' v' vs' ⟨h1.gr, h1.lt, h1.row, h1.sb, h1.ob, h1.q, h1.ne, h1.prl, ⟨List.nodup_cons.2 ⟨fun e => by have := hLs D e; omega, h1.mks.nd⟩, fun E hE => ?_⟩⟩ h2 h3 h4
    rcases List.mem_cons.1 hE with rfl | hE
    · exact ⟨by have := hst.gr.size; omega, hk⟩
    · exact h1.mks.at_ E hE
  case assign =>
    rintro l pre x W K hi hK
    have HI := Lib.hid hi
    clear hi
    gi_wp2_with ((with_reducible show wpListIn _ _ _ _ _ (Oper.mk _ (Op.store 34 _ _) _ _ _ _ :: _) _ _); refine wpListIn_store_new rfl 34 _ _ rfl _ x.cs rfl rfl size34 rfl (Ed.one x) ?_)
    obtain ⟨st', os', v', h1, h2, h3, h4, hsz⟩ := HI.out
    have hal : Below W.heap.size W (W.alloc (.cells x.cs 34)) := (Below.refl _ _).alloc (Nat.le_refl _) _
    refine hK _ _ ((KeepsOthers.alloc _ _).from _) ⟨hal.size, fun k hk => hal.block k (Nat.lt_of_lt_of_le (HKW.out k hk) hsz)⟩ ⟨st', os', v', h1.kept (T := fun _ => False) (Gr.new _) (fun _ h => h.elim) id id id (fun _ _ => id) (fun _ _ => id), h2, h3, h4.below hal h4.lt, Nat.le_trans hsz hal.size⟩ ⟨W.heap.size, hsz, heap_alloc_new _ _, rfl⟩
  case body =>
    rintro l pre x a' W ⟨st', os', v', h1, h3, h4, h5, hsz⟩ ⟨eb, h6, h7, rfl⟩ hpre
    have hn := HNN.out
    have hps : r0.drop pre.length = x :: r0.drop (pre ++ [x]).length := by
      obtain ⟨rest, hr⟩ := hpre
      rw [← hr]; simp
    rw [hps] at h3
    obtain ⟨rest, hrest⟩ : ∃ rest, rest = r0.drop (pre ++ [x]).length := ⟨_, rfl⟩
    have HREST := Lib.hid hrest
    rw [← hrest] at h3
    clear hrest
    have hcr : (RS.set cx (x :: rest))[cx]? = some (x :: rest) := List.getElem?_set_self (List.getElem?_eq_some_iff.1 hr0).1
    have hvc : vis st' cx := by
      obtain ⟨c1, hx1, hx2, hvc⟩ := h3.opn (cx : Int) (by simp)
      have : c1 = cx := by omega
      rw [← this]; exact hvc
    have hmem : x ∈ XS.getD cx [] := h3.sub cx x (by rw [getD_at hcr]; simp)
    obtain ⟨hx0, hxl⟩ := hE cx x hmem
    obtain ⟨j, hj⟩ : ∃ j : Nat, x.t = (j : Int) := ⟨x.t.toNat, by omega⟩
    have hjn : j < st'.length := by rw [h3.len]; omega
    obtain ⟨z, hz⟩ : ∃ z, st'[j]? = some z := ⟨_, List.getElem?_eq_getElem hjn⟩
    have hzn := h3.num j z hz
    have hcn := cnt_le st'
    rw [h3.len] at hcn
    have b0 : W.cell? ⟨rb + 1, 0, none⟩ = some (.slice (some ⟨rb, 0, none⟩) n n) := h1.sb.cell 0
    have b1 : W.cell? ⟨eb, 1, none⟩ = some (.int .i64 j) := by rw [← hj]; exact h7.cell 1
    have b2 : W.cell? ⟨rb, j, none⟩ = some (.int .i64 z) := by rw [h1.row.cell]; simp [hz, iv]
    have hjn' : (j : Int) < (n : Int) := by omega
    obtain ⟨y, hy, hy0⟩ := hvc
    have hyn := h3.num cx y hy
    have b3 : W.cell? ⟨abx, 0, none⟩ = some (.int .i64 cx) := h5.cell 0
    have b4 : W.cell? ⟨rb, cx, none⟩ = some (.int .i64 y) := by rw [h1.row.cell]; simp [hy, iv]
    have f2 : W.frozen? ⟨rb, j, none⟩ = false := h1.row.frozen j
    have hyb : y < 2000 := by omega
    have hjs : (j : Int) < (n : Int) := hjn'
    have hcs : (cx : Int) < (n : Int) := by omega
    have HH := Lib.hid (And.intro h1 (And.intro h3 (And.intro h4 (And.intro h5 hsz))))
    have H7 := Lib.hid h7
    have HY := Lib.hid (And.intro hy hyn)
    have HZ := Lib.hid hz
    have HJ := Lib.hid hj
    have HCR := Lib.hid hcr
    have HHY := Lib.hid hy0
    have HX2 := Lib.hid (And.intro hx0 hxl)
    clear h1 h3 h4 h5 hsz h7 hn hcr hy hz hj hps hpre hmem hzn hcn hxl hx0 hr0 hE hbs
    by_cases hneg : z < 0
    · gi_wp2
      refine region_round 9 (by kernel_rfl) (by kernel_rfl) (by intro o ho c; simp at ho; rcases ho with rfl | rfl | rfl | rfl | rfl | rfl | rfl | rfl | rfl | rfl <;> (intro e; cases e)) (by rintro ⟨_, _, h⟩; exact h) ?_
      simp only [List.take_succ_cons, List.take_zero, List.drop_succ_cons, List.drop_zero]
      repeat still_step
      try refine wpStill_nil ?_
      go_wp2_with fail
      change Code.wpIn _ _ _ _ _ _ (W.drew.setCell ⟨rb, j, none⟩ (.int .i64 (y + 1)))
      have hst1 := HH.out.1
      have hwr : w.heap.size ≤ rb := hst1.lt.1
      have hrW : rb < W1.heap.size := hst.row.lt
      have h2 : Stt w wb (W.drew.setCell ⟨rb, j, none⟩ (.int .i64 (y + 1))) n rb (rb + 1) obx (fun g => g = rb ∨ g = rb + 1 ∨ g = obx ∨ g = abx ∨ g = B2 ∨ g = B3) (st'.set j (y + 1)) os' v' L :=
        (hst1.kept (T := fun _ => False) Gr.dr (fun _ h => h.elim) id id id (fun _ _ => id) (fun _ _ => id)).put j (y + 1)
      have hg1 : Gr W (W.drew.setCell ⟨rb, j, none⟩ (.int .i64 (y + 1))) (fun k => k = rb) := (Gr.dr.mono (fun _ _ h => h.elim)).trans (Gr.one rb j _)
      have HE2 : Hid (Bk (W.drew.setCell ⟨rb, j, none⟩ (.int .i64 (y + 1))) eb 34 x.cs) := Lib.hid (hg1.bk H7.out (by omega))
      have HG1 := Lib.hid hg1
      have HST2 := Lib.hid h2
      obtain ⟨p, cc, hvs⟩ := h2.q.shape
      have HOL : Hid (os'.length ≤ 4000) := Lib.hid (by
        have := HH.out.2.2.1
        omega)
      clear hst1 hg1 h2
      generalize W.drew.setCell ⟨rb, j, none⟩ (.int .i64 (y + 1)) = w2 at HE2 HG1 HST2 ⊢
      have d1 : w2.cell? ⟨eb, 1, none⟩ = some (.int .i64 j) := by rw [← HJ.out]; exact HE2.out.cell 1
      have d2 : w2.cell? ⟨obx, 0, none⟩ = some (.slice p os'.length cc) := by rw [← hvs]; exact HST2.out.ob.cell 0
      clear b0 b1 b2 b3 b4 f2
      gi_wp2_with (gi_at_builtin; refine wpListIn_app_ot rfl (.tmp 63) (.tmp 66) rfl w.heap.size os' (.slice p os'.length cc) rfl (hvs ▸ HST2.out.q) HST2.out.gr.size (j : Int) rfl (by have := HOL.out; omega) ?_; intro v'' w3 hO hg hto hsh; obtain ⟨p3, c3, rfl⟩ := hsh; have HO3 := Lib.hid hO; have HG3 : Hid (w2.grownBy w3 (Value.slice p os'.length cc).ownBlock) := Lib.hid (below_grown rfl hg); have HT3 := Lib.hid hto; have hb3 := HST2.out.ob.grown HG3.out (fun q hq => (by have := HST2.out.far.2.2.2.2.2; rw [hvs] at this; intro e; exact this (e ▸ hq))); have d3 : w3.cell? ⟨obx, 0, none⟩ = some v' := hb3.cell 0; rw [hvs] at d3; have f3 : w3.frozen? ⟨obx, 0, none⟩ = false := hb3.frozen 0; clear hO hg hto hb3)
      have hG3 := HG3.out
      have hT3 := HT3.out
      rw [← hvs] at hG3 hT3
      have h3 := HST2.out.queue hG3 hT3 HO3.out
      have hvg : ∀ g, v'.ownBlock = some g → ∃ cur, Bk W g 3 cur := fun g hg => HH.out.1.cells hg
      have hg4 : Gr W (w3.setCell ⟨obx, 0, none⟩ (.slice p3 (os'.length + 1) c3)) (fun k => k = rb ∨ some k = v'.ownBlock ∨ k = obx) :=
        (((HG1.out.mono (fun _ _ h => .inl h)).grown hG3 (fun i _ e => .inr (.inl e))).setCell (p := ⟨obx, 0, none⟩) (fun _ => .inr (.inr rfl)) _)
      have hfar := HH.out.1.far
      have hlt := HH.out.1.lt
      have hne := HH.out.1.ne
      obtain ⟨hp1, hp2⟩ := HH.out.2.1.push HCR.out ⟨y, HY.out.1, HHY.out⟩ HJ.out HZ.out hneg HY.out.1
      rw [List.set_set] at hp1
      have hcle := hp1.nil_cnt
      have hnn := HNN.out
      have hsum := HH.out.2.2.1
      rw [HREST.out] at hp1
      refine ⟨⟨⟨hg4.size, fun k o hk ho hc => ?_⟩, hg4.size, fun k hk => hg4.block k (Nat.lt_of_lt_of_le (HKW.out k hk) HH.out.2.2.2.2) ?_⟩, st'.set j (y + 1), os' ++ [(j : Int)], .slice p3 (os'.length + 1) c3, h3, hp1, ?_, hg4.bk HH.out.2.2.2.1 ?_, Nat.le_trans HH.out.2.2.2.2 hg4.size⟩
      · refine (hg4.block k (Array.getElem?_eq_some_iff.1 ho).1 ?_).trans ho
        have hcells : ∀ (t : TypeId) (cs : Array Value), Bk W k t cs → False := fun t cs hb => by
          rw [show W.heap[k]? = _ from hb] at ho
          injection ho with ho
          rw [← ho] at hc; cases hc
        rintro (e | e | e)
        · exact hcells _ _ (e ▸ HH.out.1.row)
        · obtain ⟨cur, hb⟩ := hvg k e.symm
          exact hcells _ _ hb
        · exact hcells _ _ (e ▸ HH.out.1.ob)
      · rcases hk with hk | hk | hk
        · rintro (e | e | e)
          · omega
          · have := (HH.out.1.q.lt k e.symm).1; omega
          · omega
        · rw [hk]
          rintro (e | e | e)
          · exact hd.2.2.1 e
          · exact hne B2 (by simp) e.symm
          · exact hd.2.2.2.1 e
        · rw [hk]
          rintro (e | e | e)
          · exact hd.2.2.2.2.1 e
          · exact hne B3 (by simp) e.symm
          · exact hd.2.2.2.2.2 e
      · rw [hp2, List.length_append, List.length_singleton]
        rw [hp2] at hcle
        omega
      · rintro (e | e | e)
        · exact hd.1 e
        · exact hne abx (by simp) e.symm
        · exact hd.2.1 e
    · gi_wp2
      have HI2 : Hid (I14 XS RS w W1 wb n rb obx abx B2 B3 cx s0 (os.length + (n - cnt st)) L r0 (pre ++ [x]) W) := Lib.hid (by
        have h1 := HH.out.2.1.skip HCR.out ⟨y, HY.out.1, HHY.out⟩ (by rw [HJ.out]; exact ⟨z, HZ.out, by omega⟩)
        rw [List.set_set, HREST.out] at h1
        exact ⟨st', os', v', HH.out.1, h1, HH.out.2.2.1, HH.out.2.2.2.1, HH.out.2.2.2.2⟩)
      exact ⟨⟨KeepsFrom.refl _ _, Nat.le_refl _, fun _ _ => rfl⟩, HI2.out⟩
end Go.Proofs.YtnkimfbdcghgpaaDoor
