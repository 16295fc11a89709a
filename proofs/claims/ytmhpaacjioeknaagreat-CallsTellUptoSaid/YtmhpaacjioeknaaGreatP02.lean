/-
  The walks of Calls: the fold, 'calls', 'Calls'. How what is handed in reads: programs and statements as trees that lie in memory. Plain: what lies in memory, cell by cell; rows of one's own. Plain: when programs are the same, but for places. Plain: a program without places; what hangs on places and 
-/
import Derived.Test.YtmhpaacjioeknaaGreatP01
import Derived.WalkLawsBesides
import Derived.Lib.Bytealg
import Derived.Test.YtmhpaacjioeknaaGreatRows
import Derived.Lib.Strings
import Derived.Lib.Slices
import Derived.Lib.Walk
import Derived.WalkKit
import Derived.WalkSpells
import Derived.Deep.QuietTactic
import Derived.BigQuiet
import Derived.Lib.Hide
import Derived.WalkMore
import Derived.Deep.LoopGhost
set_option maxHeartbeats 6400000
set_option maxRecDepth 100000
namespace Go.Proofs.YtmhpaacjioeknaaGreat
open Go.RowKit Go.Sort Go.Maps Go.WideMaps
theorem uq_cons (h : Hd) (tp : Option Addr) (tc : Nat) (t : SL) (ep : Option Addr) (ec : Nat) (e r : SL) (ns : List ByteArray) :
  uq ns (SL.cons h tp tc t ep ec e r).every = uq (stepN h t e ns) r.every := by
 simp only [SL.every, stepN]
 rw [uq_append, uq_append, uq_append]
 congr 3
 split
 ·simp only [uq]
 ·rfl
theorem stepN_len (h : Hd) (t e : SL) (ns : List ByteArray) : (stepN h t e ns).length ≤ ns.length + 1 + t.count + e.count := by
 unfold stepN
 have h1 := uq_len (uq (if h.kind = 3 then (if has ns h.name then ns else ns ++ [h.name]) else ns) t.every) e.every
 have h2 := uq_len (if h.kind = 3 then (if has ns h.name then ns else ns ++ [h.name]) else ns) t.every
 have h3 := SL.every_le t
 have h4 := SL.every_le e
 have h5 : (if h.kind = 3 then (if has ns h.name then ns else ns ++ [h.name]) else ns).length ≤ ns.length + 1 := by
  split
  ·split <;> simp
  ·omega
 omega
theorem foldN_any (W : World) (l : SL) (p : Option Addr) (c B bx : Nat) (v : Value) (ns : List ByteArray) (w : World) (hP : l.each (callsOk W)) (hl : sLies W p l) (hb : Below W.heap.size W w) (hB : W.heap.size ≤ B) (ho : owns w B ns)
  (hv : w.ownsRow W.heap.size 9 1 v ns.length (sv ns)) (hx : w.heap[bx]? = some (.cells #[.map (some B)] 112 (0, 0))) (hc : ns.length + l.count ≤ 10000) :
  Calls Tryz.prog 62 #[.slice p l.len c, v, .func (.func 63) #[] #[.pointer (some ⟨bx, 0, none⟩)]] w (NamesPost W B v (uq ns l.every) w) := by
 obtain ⟨hlen, hl⟩ := hl
 have hlen' : l.len ≤ 300000000000 := by omega
 obtain ⟨A, c0, rfl⟩ := own_shape hv
 have HP := hdn hP
 have HB := hdn hb
 have HO := hdn ho
 have HV := hdn hv
 have HX := hdn hx
 have HC := hdn hc
 clear hlen hP hb ho hv hx hc
 unfold NamesPost
 generalize hrb : (Value.slice A ns.length c0).ownBlock = rb
 have HRB := hdn hrb
 clear hrb
 go_enter Tryz.func62, Tryz.ntmps62
 go_wp2_with fail
 go_loopw [1, 10] (fun v i wr => ∃ (k : Nat) (rest : SL) (ms : List ByteArray), i = .int .i64 k ∧ k ≤ l.len ∧ Hid (wr.ownsRow W.heap.size 9 1 v ms.length (sv ms)) ∧ Hid (owns wr B ms) ∧ Hid (Kp B rb w wr) ∧ Hid (Nx w rb v.ownBlock) ∧ Hid (ms.length + rest.count ≤ 10000) ∧ Hid (k + rest.len = l.len) ∧ Hid (uq ns l.every = uq ms rest.every) ∧
    Hid (rest = .nil ∨ ∃ b o, p = some ⟨b, o, none⟩ ∧ lies W rest b (o + k * 48)) ∧ Hid (rest.each (callsOk W))) (fun _ i _ => l.len - (intOf i).toNat)
 case atStart => exact ⟨0, l, ns, rfl, Nat.zero_le _, HV, HO, hdn (Kp.refl _ _ _), hdn (by rw [HRB.out]; exact Nx.refl _ _), HC, hdn (Nat.zero_add _), hdn rfl, hdn (by simpa using hl), HP⟩
 case round =>
  obtain ⟨k, rest, ms, rfl, hk, HV1, HO1, HK1, HN1, HC1, HK, HG, HL, HQ⟩ := hrel
  obtain ⟨A1, c1, rfl⟩ := own_shape HV1.out
  cases rest with
  | nil =>
   have hk' : l.len ≤ k := by have := HK.out; simp only [SL.len] at this; omega
   go_wp2_with fail
   have HF : Hid (uq ns l.every = ms) := hdn (by rw [HG.out]; rfl)
   go_ret
   exact ⟨_, rfl, by rw [HF.out]; exact HV1.out, by rw [HF.out]; exact HO1.out, HK1.out, HN1.out⟩
  | cons h tp tc t ep ec e r =>
   have hkl : k < l.len := by have := HK.out; simp only [SL.len] at this; omega
   obtain ⟨b, o, rfl, hrg, hhd, hts, hes, hrs⟩ := lies_head HL.out
   obtain ⟨hQt, hQe, hQr⟩ := HQ.out
   have hcc := HC1.out
   simp only [SL.count] at hcc
   have HB1 : Hid (Below W.heap.size W wr) := hdn (Kp.below HB.out HK1.out hB (fun k hk => by rw [← HRB.out] at hk; exact (HV.out.lt k hk).1) HB.out.size)
   have HX1 := hdn (HK1.out.heap HX.out (owns_ne HO.out HX.out) (by rw [← HRB.out]; exact row_ne HV.out HX.out (by decide)))
   have HS := hdn (stepNames W h tp tc t ep ec e k b (o + k * 48) B bx _ ms wr hQt hQe hrg hts hes hhd.2.2.2.2.2 HB1.out hB HO1.out HV1.out HX1.out (by omega))
   have HUQ := hdn (uq_cons h tp tc t ep ec e r ms)
   have HSL := hdn (stepN_len h t e ms)
   have HQR := hdn hQr
   have HRS := hdn hrs
   clear hrg hhd hts hes hrs hQt hQe hQr hcc
   go_wp2_with fail
   refine (HS.out).mono ?_; rintro en w2 ⟨v2, rfl, hv2, ho2, hk2, hn2⟩
   obtain ⟨A2, c2, rfl⟩ := own_shape hv2
   have HV2 := hdn hv2
   have HO2 := hdn ho2
   have HK2 : Hid (Kp B rb w w2) := hdn (HK1.out.trans HN1.out hk2)
   have HN2 : Hid (Nx w rb (Value.slice A2 (stepN h t e ms).length c2).ownBlock) := hdn (Nx.trans HN1.out HK1.out.size hn2)
   clear hv2 ho2 hk2 hn2
   go_wp2_with fail
   go_roundw
   case rel =>
    exact ⟨k + 1, r, stepN h t e ms, by go_num, by omega, HV2, HO2, HK2, HN2, hdn (by have := HC1.out; have := HSL.out; simp only [SL.count] at *; omega), hdn (by have := HK.out; simp only [SL.len] at this; omega), hdn (by rw [HG.out]; exact HUQ.out), HRS, HQR⟩
   case measure => simp [intOf]; omega
theorem calls_one (W : World) (l : SL) (hP : l.each (callsOk W)) : callsOk W l := by
 intro p c B v ns w hl hb hB ho hv hc
 obtain ⟨A, c0, rfl⟩ := own_shape hv
 have ha : Below w.heap.size w (w.alloc (.cells #[.map (some B)] 112)) := (Below.refl _ _).alloc (Nat.le_refl _) _
 have HF := hdn (foldN_any W l p c B w.heap.size _ ns (w.alloc (.cells #[.map (some B)] 112)) hP hl (hb.trans (ha.mono hb.size)) hB (owns_below ho ha) (own_below hv ha) (heap_alloc_new w _) hc)
 have HA := hdn ha
 clear ha hl hb ho hv hc hP
 unfold NamesPost
 go_enter Tryz.func49, Tryz.ntmps49
 go_wp2_with fail
 refine (HF.out).mono ?_; rintro en w2 ⟨v2, rfl, hv2, ho2, hk2, hn2⟩
 obtain ⟨A2, c2, rfl⟩ := own_shape hv2
 have HV2 := hdn hv2
 have HO2 := hdn ho2
 have HK2 := hdn (Kp.trans (Kp.of_below HA.out) (Nx.refl _ _) hk2)
 have HN2 := hdn (Nx.trans (Nx.refl _ _) HA.out.size hn2)
 clear hv2 ho2 hk2 hn2
 go_wp2_with fail
 go_ret
 exact ⟨_, rfl, HV2.out, HO2.out, HK2.out, HN2.out⟩
theorem calls_any (W : World) (l : SL) : callsOk W l := (SL.all (calls_one W) l).1
theorem treeCalls_any (l : SL) (p : Option Addr) (c : Nat) (w : World) (hl : sLies w p l) (hc : l.count ≤ 10000) :
  Calls Tryz.prog 33 #[.slice p l.len c] w fun en w' => ∃ v, en = .returned v ∧ w'.ownsRow w.heap.size 9 1 v (uq [] l.every).length (sv (uq [] l.every)) ∧ Below w.heap.size w w' := by
 have hmm := @run_makeMap Tryz.prog
 have ha : Below w.heap.size w (w.alloc (.map #[] 0)) := (Below.refl _ _).alloc (Nat.le_refl _) _
 have HF := hdn (calls_any w l p c w.heap.size (.slice none 0 0) [] (w.alloc (.map #[] 0)) hl ha (Nat.le_refl _) (World.ownsMap_made _ _ _ _) (World.ownsRow_nil _ _ _ _) (by simpa using hc))
 have HA := hdn ha
 clear ha hl hc
 go_enter Tryz.func33, Tryz.ntmps33
 go_wp2_with fail
 refine (HF.out).mono ?_; rintro en w2 ⟨v2, rfl, hv2, ho2, hk2, hn2⟩
 obtain ⟨A2, c2, rfl⟩ := own_shape hv2
 have HV2 := hdn hv2
 have HB2 : Hid (Below w.heap.size w w2) := hdn (Kp.below HA.out hk2 (Nat.le_refl _) (fun k hk => by cases hk) HA.out.size)
 clear hv2 ho2 hk2 hn2
 go_wp2_with fail
 go_ret
 exact ⟨_, rfl, HV2.out, HB2.out⟩
end Go.Proofs.YtmhpaacjioeknaaGreat
namespace Go.Proofs.YtmhpaacjioeknaaGreat
open Go.RowKit Go.Sort
def declsLie (w : World) (s : Sl Dc) : Prop := slLies w 3 40 Dc.cells (fun _ => True) s
def srsLie (w : World) (s : Sl Sr) : Prop := slLies w 3 48 Sr.cells (fun x => declsLie w x.fields) s
def pcLies (w : World) (x : Pc) : Prop := declsLie w x.params ∧ declsLie w x.locals_ ∧ sLies w x.bp x.body
def pcsLie (w : World) (s : Sl Pc) : Prop := slLies w 6 104 Pc.cells (pcLies w) s
def pgLies (w : World) (p : Pg) : Prop := srsLie w p.structs ∧ declsLie w p.globals ∧ pcsLie w p.procs
theorem declsLie_below {w w' : World} {s : Sl Dc} (h : declsLie w s) (hb : Below w.heap.size w w') : declsLie w' s := slLies_below h hb (fun _ h => h)
theorem srsLie_below {w w' : World} {s : Sl Sr} (h : srsLie w s) (hb : Below w.heap.size w w') : srsLie w' s := slLies_below h hb (fun _ h => declsLie_below h hb)
theorem pcLies_below {w w' : World} {x : Pc} (h : pcLies w x) (hb : Below w.heap.size w w') : pcLies w' x := ⟨declsLie_below h.1 hb, declsLie_below h.2.1 hb, sLies_below h.2.2 hb⟩
theorem pcsLie_below {w w' : World} {s : Sl Pc} (h : pcsLie w s) (hb : Below w.heap.size w w') : pcsLie w' s := slLies_below h hb (fun _ h => pcLies_below h hb)
theorem pgLies_below {w w' : World} {p : Pg} (h : pgLies w p) (hb : Below w.heap.size w w') : pgLies w' p := ⟨srsLie_below h.1 hb, declsLie_below h.2.1 hb, pcsLie_below h.2.2 hb⟩
end Go.Proofs.YtmhpaacjioeknaaGreat
namespace Go.Proofs.YtmhpaacjioeknaaGreat
open Go.RowKit Go.Sort
theorem below_drewN_ {B : Nat} {a w : World} (h : Below B a w) (n : Nat) : Below B a (w.drewN n) := ⟨h.os, h.tape, h.output, h.size, h.block⟩
def srLies (w : World) (x : Sr) : Prop := declsLie w x.fields
end Go.Proofs.YtmhpaacjioeknaaGreat
namespace Go.Proofs.YtmhpaacjioeknaaGreat
open Go.RowKit Go.Sort
/-- A statement as one item of a list. -/
structure It where
 h : Hd
 tp : Option Addr
 tc : Nat
 t : SL
 ep : Option Addr
 ec : Nat
 e : SL
def It.cells (x : It) : List Value := scells x.h x.tp x.t.len x.tc x.ep x.e.len x.ec
def SL.items : SL → List It
 | .nil => []
 | .cons h tp tc t ep ec e r => ⟨h, tp, tc, t, ep, ec, e⟩ :: r.items
def itLies (w : World) (x : It) : Prop := hdLies w x.h ∧ sLies w x.tp x.t ∧ sLies w x.ep x.e
/-- A list's items lie in memory (its length is modest). -/
def Lay {α : Type} (size : Nat) (cells : α → List Value) (R : World → α → Prop) (w : World) (p : Option Addr) (l : List α) : Prop :=
 l.length ≤ 6000000000000 ∧ (l = [] ∨ ∃ b o, p = some ⟨b, o, none⟩ ∧ ∀ k x, l[k]? = some x → w.rangeAt b (o + k * size) (cells x) ∧ R w x)
theorem Lay.below {α : Type} {size : Nat} {cells : α → List Value} {R : World → α → Prop} {w w' : World} {p : Option Addr} {l : List α} (h : Lay size cells R w p l) (hb : Below w.heap.size w w') (hR : ∀ x, R w x → R w' x) : Lay size cells R w' p l := by
 obtain ⟨h0, h⟩ := h
 refine ⟨h0, ?_⟩
 rcases h with h | ⟨b, o, hp, hx⟩
 ·exact .inl h
 ·exact .inr ⟨b, o, hp, fun k x hk => ⟨rangeAt_below (hx k x hk).1 hb, hR x (hx k x hk).2⟩⟩
end Go.Proofs.YtmhpaacjioeknaaGreat
namespace Go.Proofs.YtmhpaacjioeknaaGreat
open Go.RowKit Go.Sort
/-! What is left when places and addresses are struck. -/
def Sl.er {α : Type} (f : α → α) (s : Sl α) : Sl α := ⟨none, 0, s.l.map f⟩
def Hp.er (x : Hp) : Hp := ⟨x.name, 0⟩
def Pth.er (x : Pth) : Pth := ⟨x.name, 0, x.hops.er Hp.er⟩
def Tm.er (x : Tm) : Tm := ⟨x.name, x.n, 0⟩
def Vl.er (x : Vl) : Vl := ⟨x.kind, 0, x.path.er, x.type, x.left.er, x.right.er⟩
def Cd.er (x : Cd) : Cd := ⟨x.kind, 0, x.left.er, x.right.er⟩
def Hd.er (x : Hd) : Hd := ⟨x.kind, 0, x.place.er, x.value.er, x.cond.er, x.name, x.args.er Vl.er, x.both⟩
def SL.er : SL → SL
 | .nil => .nil
 | .cons h _ _ t _ _ e r => .cons h.er none 0 t.er none 0 e.er r.er
def Dc.er (x : Dc) : Dc := ⟨x.type, x.name, 0⟩
def Sr.er (x : Sr) : Sr := ⟨x.name, 0, x.fields.er Dc.er⟩
def Pc.er (x : Pc) : Pc := ⟨x.name, 0, 0, x.params.er Dc.er, x.locals_.er Dc.er, none, 0, x.body.er⟩
def Pg.er (x : Pg) : Pg := ⟨x.structs.er Sr.er, x.globals.er Dc.er, x.procs.er Pc.er⟩
/-! No places. -/
/-- Items make a list of statements. -/
def SL.of : List It → SL
 | [] => .nil
 | x :: l => .cons x.h x.tp x.tc x.t x.ep x.ec x.e (SL.of l)
def It.er (x : It) : It := ⟨x.h.er, none, 0, x.t.er, none, 0, x.e.er⟩
/-! Worlds with blocks struck out. -/
/-- The world without the blocks that are struck. -/
def mask (S : Nat → Bool) (w : World) : World := { w with heap := w.heap.mapIdx fun i o => if S i then .cells #[] 0 else o }
/-- What can be read in one world can be read in the other. -/
def Ext (w w' : World) : Prop := ∀ b o v, w.cell? ⟨b, o, none⟩ = some v → w'.cell? ⟨b, o, none⟩ = some v
theorem Ext.refl (w : World) : Ext w w := fun _ _ _ h => h
theorem Ext.trans {a b c : World} (h : Ext a b) (k : Ext b c) : Ext a c := fun _ _ _ x => k _ _ _ (h _ _ _ x)
theorem mask_cell {S : Nat → Bool} {w : World} {b o : Nat} : (mask S w).cell? ⟨b, o, none⟩ = if S b then none else w.cell? ⟨b, o, none⟩ := by
 unfold mask World.cell?
 simp only [Array.getElem?_mapIdx]
 cases hb : w.heap[b]? with
 | none => simp
 | some ob =>
  simp only [Option.map_some]
  by_cases hs : S b = true
  ·simp [hs]
  ·simp [hs]
theorem Ext.mask (S : Nat → Bool) (w : World) : Ext (mask S w) w := fun b o v h => by
 rw [mask_cell] at h
 split at h
 ·cases h
 ·exact h
/-- From one struck world to another. -/
theorem Ext.of_mask {S T : Nat → Bool} {w w' : World} (h : ∀ b, S b = false → b < w.heap.size → T b = false ∧ w'.heap[b]? = w.heap[b]?) : Ext (YtmhpaacjioeknaaGreat.mask S w) (YtmhpaacjioeknaaGreat.mask T w') := fun b o v hc => by
 rw [mask_cell] at hc ⊢
 split at hc
 ·cases hc
 ·rename_i hs
  have hs' : S b = false := by simpa using hs
  have hlt := World.block_lt_of_cell? w _ hc
  obtain ⟨h1, h2⟩ := h b hs' hlt
  rw [if_neg (by simp [h1])]
  exact (World.cell?_of_block (w := w) h2).trans hc
theorem rangeAt_ext {w w' : World} (h : Ext w w') {b o : Nat} {cs : List Value} (hr : w.rangeAt b o cs) : w'.rangeAt b o cs := fun j v hv => h _ _ _ (hr j v hv)
theorem slLies_ext {α : Type} {w w' : World} {size bytes : Nat} {cells : α → List Value} {R R' : α → Prop} {s : Sl α} (h : Ext w w') (hs : slLies w size bytes cells R s) (hR : ∀ x, R x → R' x) : slLies w' size bytes cells R' s := by
 obtain ⟨hl, hs⟩ := hs
 refine ⟨hl, ?_⟩
 rcases hs with hs | ⟨b, o, hp, hx⟩
 ·exact .inl hs
 ·exact .inr ⟨b, o, hp, fun k x hk => ⟨rangeAt_ext h (hx k x hk).1, hR x (hx k x hk).2⟩⟩
theorem hopsLie_ext {w w' : World} (h : Ext w w') {s : Sl Hp} (hs : hopsLie w s) : hopsLie w' s := slLies_ext h hs (fun _ h => h)
theorem vlLies_ext {w w' : World} (h : Ext w w') {v : Vl} (hs : vlLies w v) : vlLies w' v := hopsLie_ext h hs
theorem argsLie_ext {w w' : World} (h : Ext w w') {s : Sl Vl} (hs : argsLie w s) : argsLie w' s := slLies_ext h hs (fun _ hv => vlLies_ext h hv)
theorem hdLies_ext {w w' : World} (h : Ext w w') {x : Hd} (H : hdLies w x) : hdLies w' x :=
 ⟨hopsLie_ext h H.1, vlLies_ext h H.2.1, vlLies_ext h H.2.2.1, vlLies_ext h H.2.2.2.1, argsLie_ext h H.2.2.2.2.1, H.2.2.2.2.2⟩
theorem lies_ext {w w' : World} (hx : Ext w w') : ∀ (l : SL) (b o : Nat), lies w l b o → lies w' l b o
 | .nil, _, _, _ => trivial
 | .cons h tp tc t ep ec e r, b, o, H => by
  obtain ⟨h1, h2, ⟨l3, h3⟩, ⟨l4, h4⟩, h5⟩ := H
  refine ⟨rangeAt_ext hx h1, hdLies_ext hx h2, ⟨l3, ?_⟩, ⟨l4, ?_⟩, lies_ext hx r b _ h5⟩
  ·rcases h3 with h | ⟨b', o', hp, h⟩
   ·exact .inl h
   ·exact .inr ⟨b', o', hp, lies_ext hx t b' o' h⟩
  ·rcases h4 with h | ⟨b', o', hp, h⟩
   ·exact .inl h
   ·exact .inr ⟨b', o', hp, lies_ext hx e b' o' h⟩
theorem sLies_ext {w w' : World} (hx : Ext w w') {p : Option Addr} {l : SL} (h : sLies w p l) : sLies w' p l := by
 obtain ⟨hl, h⟩ := h
 refine ⟨hl, ?_⟩
 rcases h with h | ⟨b, o, hp, h⟩
 ·exact .inl h
 ·exact .inr ⟨b, o, hp, lies_ext hx l b o h⟩
theorem itLies_ext {w w' : World} (hx : Ext w w') {x : It} (h : itLies w x) : itLies w' x := ⟨hdLies_ext hx h.1, sLies_ext hx h.2.1, sLies_ext hx h.2.2⟩
theorem declsLie_ext {w w' : World} (h : Ext w w') {s : Sl Dc} (hs : declsLie w s) : declsLie w' s := slLies_ext h hs (fun _ h => h)
theorem srsLie_ext {w w' : World} (h : Ext w w') {s : Sl Sr} (hs : srsLie w s) : srsLie w' s := slLies_ext h hs (fun _ hv => declsLie_ext h hv)
theorem pcLies_ext {w w' : World} (h : Ext w w') {x : Pc} (hs : pcLies w x) : pcLies w' x := ⟨declsLie_ext h hs.1, declsLie_ext h hs.2.1, sLies_ext h hs.2.2⟩
theorem pcsLie_ext {w w' : World} (h : Ext w w') {s : Sl Pc} (hs : pcsLie w s) : pcsLie w' s := slLies_ext h hs (fun _ hv => pcLies_ext h hv)
theorem pgLies_ext {w w' : World} (h : Ext w w') {p : Pg} (hs : pgLies w p) : pgLies w' p := ⟨srsLie_ext h hs.1, declsLie_ext h hs.2.1, pcsLie_ext h hs.2.2⟩
/-- The blocks that were there are struck: what lies in the rest is new. -/
def fresh (B : Nat) (w : World) : World := mask (fun b => decide (b < B)) w
theorem fresh_mono {B B' : Nat} (h : B' ≤ B) (w : World) : Ext (fresh B w) (fresh B' w) := Ext.of_mask (fun b hb _ => by
 simp only [decide_eq_false_iff_not] at hb ⊢
 exact ⟨by omega, trivial⟩)
theorem fresh_below {B : Nat} {w w' : World} (h : Below w.heap.size w w') : Ext (fresh B w) (fresh B w') := Ext.of_mask (fun b hb hlt => ⟨hb, h.block b hlt⟩)
end Go.Proofs.YtmhpaacjioeknaaGreat
namespace Go.Proofs.YtmhpaacjioeknaaGreat
namespace Tx
def ltr (c : Int) : Bool := decide ((97 ≤ c ∧ c ≤ 122) ∨ (65 ≤ c ∧ c ≤ 90) ∨ c = 95)
def dgt (c : Int) : Bool := decide (48 ≤ c ∧ c ≤ 57)
def wrd (c : Int) : Bool := ltr c || dgt c
def blk (c : Int) : Bool := decide (c = 32 ∨ c = 9 ∨ c = 10 ∨ c = 13)
def inl (c : Int) : Bool := decide (c ≠ 10)
/-- How many bytes at a list's head are such. -/
def run (p : Int → Bool) : List UInt8 → Nat
 | [] => 0
 | b :: l => if p (b.toNat : Int) then run p l + 1 else 0
theorem run_le (p : Int → Bool) (l : List UInt8) : run p l ≤ l.length := by
 induction l with
 | nil => exact Nat.le_refl _
 | cons b l ih => unfold run; split <;> simp <;> omega
/-- How many bytes of blanks and remarks stand at a list's head ('true': inside a remark). -/
def sk : Bool → List UInt8 → Nat
 | _, [] => 0
 | false, b :: l => if blk (b.toNat : Int) then sk false l + 1 else if b.toNat = 47 ∧ l.head? = some 47 then sk true l + 1 else 0
 | true, b :: l => if inl (b.toNat : Int) then sk true l + 1 else sk false l + 1
theorem sk_le : ∀ (q : Bool) (l : List UInt8), sk q l ≤ l.length
 | _, [] => by simp [sk]
 | false, b :: l => by
  have h1 := sk_le false l; have h2 := sk_le true l
  unfold sk; split
  ·simp; omega
  ·split <;> simp <;> omega
 | true, b :: l => by
  have h1 := sk_le false l; have h2 := sk_le true l
  unfold sk; split <;> simp <;> omega
theorem sk_true : ∀ (l : List UInt8), sk true l = run inl l + sk false (l.drop (run inl l))
 | [] => rfl
 | b :: l => by
  have ih := sk_true l
  by_cases h : inl (b.toNat : Int) = true
  ·simp only [sk, run, h, if_true, List.drop_succ_cons]; omega
  ·have hb : blk (b.toNat : Int) = true := by
    unfold inl at h; unfold blk; simp at h ⊢; omega
   simp only [sk, run, h, hb, if_true, Bool.false_eq_true, if_false, List.drop_zero]; omega
/-- Behind the run. -/
def wend (p : Int → Bool) (s : ByteArray) (i : Nat) : Nat := i + run p (s.data.toList.drop i)
/-- Behind blanks and remarks. -/
def skp (s : ByteArray) (i : Nat) : Nat := i + sk false (s.data.toList.drop i)
theorem len_eq (s : ByteArray) : s.data.toList.length = s.size := by rw [Array.length_toList]; rfl
theorem drop_at (s : ByteArray) (i : Nat) (h : i < s.size) : s.data.toList.drop i = s[i] :: s.data.toList.drop (i + 1) :=
 List.drop_eq_getElem_cons (by rw [len_eq]; exact h)
theorem drop_end (s : ByteArray) (i : Nat) (h : s.size ≤ i) : s.data.toList.drop i = [] :=
 List.drop_eq_nil_of_le (by rw [len_eq]; exact h)
theorem wend_in (p : Int → Bool) (s : ByteArray) (i : Nat) (h : i < s.size) (hp : p (s[i].toNat : Int) = true) : wend p s (i + 1) = wend p s i := by
 unfold wend; rw [drop_at s i h]; simp only [run, hp, if_true]; omega
theorem wend_out (p : Int → Bool) (s : ByteArray) (i : Nat) (h : i < s.size) (hp : p (s[i].toNat : Int) = false) : wend p s i = i := by
 unfold wend; rw [drop_at s i h]; simp only [run, hp, Bool.false_eq_true, if_false]; omega
theorem wend_end (p : Int → Bool) (s : ByteArray) (i : Nat) (h : s.size ≤ i) : wend p s i = i := by
 unfold wend; rw [drop_end s i h]; simp [run]
theorem wend_ge (p : Int → Bool) (s : ByteArray) (i : Nat) : i ≤ wend p s i := by unfold wend; omega
theorem wend_le (p : Int → Bool) (s : ByteArray) (i : Nat) (h : i ≤ s.size) : wend p s i ≤ s.size := by
 unfold wend
 have := run_le p (s.data.toList.drop i)
 rw [List.length_drop, len_eq] at this
 omega
theorem skp_ge (s : ByteArray) (i : Nat) : i ≤ skp s i := by unfold skp; omega
theorem skp_le (s : ByteArray) (i : Nat) (h : i ≤ s.size) : skp s i ≤ s.size := by
 unfold skp
 have := sk_le false (s.data.toList.drop i)
 rw [List.length_drop, len_eq] at this
 omega
theorem skp_end (s : ByteArray) (i : Nat) (h : s.size ≤ i) : skp s i = i := by
 unfold skp; rw [drop_end s i h]; simp [sk]
theorem skp_blank (s : ByteArray) (i : Nat) (h : i < s.size) (hb : blk (s[i].toNat : Int) = true) : skp s (i + 1) = skp s i := by
 unfold skp; rw [drop_at s i h]; simp only [sk, hb, if_true]; omega
theorem head_next (s : ByteArray) (i : Nat) : (s.data.toList.drop i).head? = some 47 ↔ ∃ h : i < s.size, s[i].toNat = 47 := by
 by_cases h : i < s.size
 ·rw [drop_at s i h]
  simp only [List.head?_cons, Option.some.injEq, h, exists_true_left]
  constructor
  ·intro e; rw [e]; rfl
  ·intro e; exact UInt8.toNat_inj.1 (by rw [e]; rfl)
 ·rw [drop_end s i (by omega)]
  simp [h]
/-- A remark runs up to the next line's end. -/
theorem skp_rem (s : ByteArray) (i : Nat) (h : i + 1 < s.size) (h0 : s[i].toNat = 47) (h1 : s[i + 1].toNat = 47) : skp s (wend inl s i) = skp s i := by
 have hi : i < s.size := by omega
 have hn : (s.data.toList.drop (i + 1)).head? = some 47 := (head_next s (i + 1)).2 ⟨h, h1⟩
 have hnb : blk (s[i].toNat : Int) = false := by rw [h0]; rfl
 have hil : inl (s[i].toNat : Int) = true := by rw [h0]; rfl
 have e1 : sk false (s.data.toList.drop i) = sk true (s.data.toList.drop i) := by
  rw [drop_at s i hi]
  simp only [sk, hnb, hil, Bool.false_eq_true, if_false, if_true]
  rw [if_pos ⟨h0, hn⟩]
 unfold skp
 rw [e1, sk_true]
 unfold wend
 rw [List.drop_drop]
 omega
theorem skp_stop (s : ByteArray) (i : Nat) (h : i < s.size) (hb : blk (s[i].toNat : Int) = false) (hr : ¬ (s[i].toNat = 47 ∧ ∃ h : i + 1 < s.size, s[i + 1].toNat = 47)) : skp s i = i := by
 unfold skp
 rw [drop_at s i h]
 have hn : ¬ (s[i].toNat = 47 ∧ (s.data.toList.drop (i + 1)).head? = some 47) := by
  rw [head_next]; exact hr
 simp only [sk, hb, Bool.false_eq_true, if_false]
 rw [if_neg hn]
 omega
/-- The words that are Keys. -/
def kw : List (List UInt8) := [[115, 116, 114, 117, 99, 116], [105, 110, 116], [118, 111, 105, 100], [110, 117, 108, 108], [110, 101, 119], [102, 114, 101, 101], [105, 102], [101, 108, 115, 101], [119, 104, 105, 108, 101], [105, 110, 112, 117, 116]]
def keyAt (k : Nat) : ByteArray := ⟨(kw.getD k []).toArray⟩
def isKey (s : ByteArray) : Bool := kw.any fun l => s.data.toList == l
theorem keyAt_list (k : Nat) : (keyAt k).data.toList = kw.getD k [] := by unfold keyAt; simp
theorem isKey_hit (s : ByteArray) (k : Nat) (hk : k < 10) (h : (s.data.toList == (keyAt k).data.toList) = true) : isKey s = true := by
 unfold isKey
 rw [List.any_eq_true]
 refine ⟨kw.getD k [], ?_, ?_⟩
 ·rw [List.getD_eq_getElem?_getD, List.getElem?_eq_getElem (by simp [kw]; omega)]
  exact List.getElem_mem _
 ·rw [keyAt_list] at h; exact h
theorem isKey_miss (s : ByteArray) (h : ∀ k, k < 10 → (s.data.toList == (keyAt k).data.toList) = false) : isKey s = false := by
 unfold isKey
 rw [List.any_eq_false]
 intro l hl
 obtain ⟨k, hk, rfl⟩ := List.getElem_of_mem hl
 have := h k hk
 rw [keyAt_list, List.getD_eq_getElem?_getD, List.getElem?_eq_getElem hk] at this
 simp only [Option.getD_some] at this
 rw [this]; simp
/-- What digits say. -/
def val (l : List UInt8) : Int := l.foldl (fun n b => 10 * n + (b.toNat - 48)) 0
/-- A Mark's bytes; nought: none. -/
def two (a b : Int) : Bool := decide ((a = 45 ∧ b = 62) ∨ (a = 61 ∧ b = 61) ∨ (a = 33 ∧ b = 61) ∨ (a = 62 ∧ b = 61))
def one (a : Int) : Bool := decide (a = 123 ∨ a = 125 ∨ a = 40 ∨ a = 41 ∨ a = 59 ∨ a = 44 ∨ a = 42 ∨ a = 61 ∨ a = 60 ∨ a = 43 ∨ a = 45 ∨ a = 63)
def mkl : List UInt8 → Nat
 | [] => 0
 | [a] => if one a.toNat then 1 else 0
 | a :: b :: _ => if two a.toNat b.toNat then 2 else if one a.toNat then 1 else 0
def mrk (s : ByteArray) (i : Nat) : Nat := mkl (s.data.toList.drop i)
theorem mrk_two (s : ByteArray) (i : Nat) (h : i + 1 < s.size) (ht : two (s[i].toNat) (s[i + 1].toNat) = true) : mrk s i = 2 := by
 unfold mrk; rw [drop_at s i (by omega), drop_at s (i + 1) h]; simp [mkl, ht]
theorem mrk_one (s : ByteArray) (i : Nat) (h : i < s.size) (hn : ∀ h : i + 1 < s.size, two (s[i].toNat) (s[i + 1].toNat) = false) : mrk s i = if one s[i].toNat then 1 else 0 := by
 unfold mrk
 rw [drop_at s i h]
 by_cases h1 : i + 1 < s.size
 ·rw [drop_at s (i + 1) h1]; simp [mkl, hn h1]
 ·rw [drop_end s (i + 1) (by omega)]; rfl
theorem mrk_le (s : ByteArray) (i : Nat) (h : i < s.size) : i + mrk s i ≤ s.size := by
 by_cases h1 : i + 1 < s.size
 ·unfold mrk; rw [drop_at s i h, drop_at s (i + 1) h1]; simp only [mkl]; split
  ·omega
  ·split <;> omega
 ·rw [mrk_one s i h (fun h' => absurd h' h1)]; split <;> omega
/-- A sign as it is answered. -/
structure Sg where
 kind : Int
 pos : Nat
 text : ByteArray
 num : Int
/-- An answer: the sign, the place, the error. -/
structure An where
 sg : Sg
 stop : Nat
 err : Int
def An.bad (k : Nat) (e : Int) : An := ⟨⟨0, k, ByteArray.empty, 0⟩, k, e⟩
def An.good (s : ByteArray) (kind : Int) (k e : Nat) (n : Int) : An := ⟨⟨kind, k, s.extract k e, n⟩, e, 0⟩
def wordA (s : ByteArray) (k : Nat) : An :=
 if 16 < wend wrd s k - k then .bad k 3 else .good s (if isKey (s.extract k (wend wrd s k)) then 3 else 1) k (wend wrd s k) 0
def numA (s : ByteArray) (k : Nat) : An :=
 if 9 < wend dgt s k - k then .bad k 3 else .good s 2 k (wend dgt s k) (val (s.extract k (wend dgt s k)).data.toList)
def markA (s : ByteArray) (k : Nat) : An :=
 if mrk s k = 0 then .bad k 4 else .good s 4 k (k + mrk s k) 0
/-- The sign that begins at k. -/
def tok (s : ByteArray) (k : Nat) : An :=
 if h : k < s.size then
  if ltr (s[k].toNat : Int) then wordA s k else if dgt (s[k].toNat : Int) then numA s k else markA s k
 else .bad k 0
/-- The sign that comes next. -/
def nx (s : ByteArray) (i : Nat) : An := tok s (skp s i)
end Tx
end Go.Proofs.YtmhpaacjioeknaaGreat
namespace Go.Proofs.YtmhpaacjioeknaaGreat
open Go.RowKit Go.Sort
namespace Pr
/-- A sign without its place. -/
structure Tk where
 kind : Int
 text : ByteArray
 num : Int
def tk (x : Tx.Sg) : Tk := ⟨x.kind, x.text, x.num⟩
/-- How far the parser is: the sign that comes next, the braces open, the statements begun. -/
structure St where
 i : Nat
 o : Int
 b : Int
def St.go (u : St) : St := ⟨u.i + 1, u.o, u.b⟩
/-- What a part of the parser makes: an error's number and the sign's, or something and how far it is. -/
abbrev Res (α : Type) := Except (Int × Nat) (α × St)
/-- One after the other, as long as nothing is wrong. -/
def th {α β : Type} (r : Res α) (f : α → St → Res β) : Res β :=
 match r with
 | .error e => .error e
 | .ok (x, u) => f x u
def noTm : Tm := ⟨ByteArray.empty, 0, 0⟩
def noPth : Pth := ⟨ByteArray.empty, 0, ⟨none, 0, []⟩⟩
def noVl : Vl := ⟨0, 0, noPth, ByteArray.empty, noTm, noTm⟩
def noCd : Cd := ⟨0, 0, noVl, noVl⟩
def noHd : Hd := ⟨0, 0, noPth, noVl, noCd, ByteArray.empty, ⟨none, 0, []⟩, false⟩
section
variable (t : List Tk)
def sg (i : Nat) : Tk := t.getD i ⟨0, ByteArray.empty, 0⟩
def is (i : Nat) (s : ByteArray) : Bool := (sg t i).text.toList == s.toList
def must (s : ByteArray) (u : St) : Res Tk := if is t u.i s then .ok (sg t u.i, u.go) else .error (5, u.i)
def name (u : St) : Res Tk := if (sg t u.i).kind = 1 then .ok (sg t u.i, u.go) else .error (5, u.i)
def hops : Nat → List Hp → St → Res (List Hp)
 | 0, acc, u => if is t u.i ⟨#[45, 62]⟩ then .error (11, u.i) else .ok (acc, u)
 | n + 1, acc, u => if is t u.i ⟨#[45, 62]⟩ then (th (name t u.go) fun x u => hops n (acc ++ [⟨x.text, 0⟩]) u) else .ok (acc, u)
def path (u : St) : Res Pth :=
 th (name t u) fun x u =>
 th (hops t 8 [] u) fun l u =>
 .ok (⟨x.text, 0, ⟨none, 0, l⟩⟩, u)
def term (u : St) : Res Tm :=
 if (sg t u.i).kind = 2 then .ok (⟨ByteArray.empty, (sg t u.i).num, 0⟩, u.go)
 else
  th (name t u) fun x u =>
  .ok (⟨x.text, 0, 0⟩, u)
def side (u : St) : Res Vl :=
 if is t u.i ⟨#[110, 117, 108, 108]⟩ then .ok (noVl, u.go)
 else if (sg t u.i).kind = 2 then
  th (term t u) fun x u =>
  .ok ({ noVl with kind := 4, left := x }, u)
 else
  th (path t u) fun x u =>
  .ok ({ noVl with kind := 1, path := x }, u)
def sums (u : St) : Bool := ((sg t u.i).kind == 1 || (sg t u.i).kind == 2) && (is t (u.i + 1) ⟨#[43]⟩ || is t (u.i + 1) ⟨#[45]⟩)
def sum (u : St) : Res Vl :=
 th (term t u) fun x u =>
 th (term t u.go) fun y v =>
 .ok ({ noVl with kind := if is t u.i ⟨#[45]⟩ then 6 else 5, left := x, right := y }, v)
def value (u : St) : Res Vl :=
 if is t u.i ⟨#[110, 101, 119]⟩ then
  th (name t u.go) fun x u =>
  .ok ({ noVl with kind := 2, type := x.text }, u)
 else if is t u.i ⟨#[105, 110, 112, 117, 116]⟩ then .ok ({ noVl with kind := 3 }, u.go)
 else if sums t u then sum t u else side t u
def relation (u : St) : Res Int :=
 if is t u.i ⟨#[61, 61]⟩ then .ok (1, u.go)
 else if is t u.i ⟨#[33, 61]⟩ then .ok (2, u.go)
 else if is t u.i ⟨#[60]⟩ then .ok (3, u.go)
 else
  th (must t ⟨#[62, 61]⟩ u) fun _ u =>
  .ok (4, u)
def cond (u : St) : Res Cd :=
 if is t u.i ⟨#[63]⟩ then .ok (noCd, u.go)
 else
  th (side t u) fun x u =>
  th (relation t u) fun k u =>
  th (side t u) fun y u =>
  .ok (⟨k, 0, x, y⟩, u)
def held (u : St) : Res Cd :=
 th (must t ⟨#[40]⟩ u) fun _ u =>
 th (cond t u) fun c u =>
 th (must t ⟨#[41]⟩ u) fun _ u =>
 .ok (c, u)
/-- The items behind the first one, up to the closing parenthesis. -/
def more {α : Type} (item : St → Res α) : Nat → List α → St → Res (List α)
 | 0, _, _ => .error (0, 0)
 | n + 1, acc, u =>
  if is t u.i ⟨#[44]⟩ then (th (item u.go) fun x u => more item n (acc ++ [x]) u)
  else
   th (must t ⟨#[41]⟩ u) fun _ u =>
   .ok (acc, u)
def listed {α : Type} (item : St → Res α) (u : St) : Res (List α) :=
 th (must t ⟨#[40]⟩ u) fun _ u =>
 if is t u.i ⟨#[41]⟩ then .ok ([], u.go)
 else
  th (item u) fun x u =>
  more t item (t.length + 1) [x] u
def pointer (u : St) : Res Dc :=
 th (name t u) fun x u =>
 th (must t ⟨#[42]⟩ u) fun _ u =>
 th (name t u) fun y u =>
 .ok (⟨x.text, y.text, 0⟩, u)
def variable_ (u : St) : Res Dc :=
 if is t u.i ⟨#[105, 110, 116]⟩ then
  th (name t u.go) fun x u =>
  .ok (⟨ByteArray.empty, x.text, 0⟩, u)
 else pointer t u
def decl (u : St) : Res Dc :=
 th (variable_ t u) fun d u =>
 th (must t ⟨#[59]⟩ u) fun _ u =>
 .ok (d, u)
def declares (u : St) : Bool := is t u.i ⟨#[105, 110, 116]⟩ || ((sg t u.i).kind == 1 && is t (u.i + 1) ⟨#[42]⟩)
def begins (u : St) : Bool :=
 is t u.i ⟨#[59]⟩ || is t u.i ⟨#[123]⟩ || is t u.i ⟨#[102, 114, 101, 101]⟩ || is t u.i ⟨#[105, 102]⟩ || is t u.i ⟨#[119, 104, 105, 108, 101]⟩ || (sg t u.i).kind == 1
/-- A brace may not stand where twenty are open. -/
def mustHold (u : St) : Res Unit := if is t u.i ⟨#[123]⟩ && u.o == 20 then .error (6, u.i) else .ok ((), u)
def count (u : St) : Res Unit :=
 th (mustHold t u) fun _ u =>
 if u.b = 400 then .error (11, u.i) else .ok ((), ⟨u.i, u.o, u.b + 1⟩)
def block (rec : St → Res SL) (u : St) : Res SL :=
 th (mustHold t u) fun _ u =>
 th (must t ⟨#[123]⟩ u) fun _ u =>
 th (rec ⟨u.i, u.o + 1, u.b⟩) fun l u =>
 th (must t ⟨#[125]⟩ u) fun _ u =>
 .ok (l, ⟨u.i, u.o - 1, u.b⟩)
def free (u : St) : Res Hd :=
 th (must t ⟨#[102, 114, 101, 101]⟩ u) fun _ u =>
 th (must t ⟨#[40]⟩ u) fun _ u =>
 th (path t u) fun x u =>
 th (must t ⟨#[41]⟩ u) fun _ u =>
 th (must t ⟨#[59]⟩ u) fun _ u =>
 .ok ({ noHd with kind := 2, place := x }, u)
def branch (rec : St → Res SL) (u : St) : Res (Hd × SL × SL) :=
 th (must t ⟨#[105, 102]⟩ u) fun _ u =>
 th (held t u) fun c u =>
 th (block t rec u) fun a u =>
 if is t u.i ⟨#[101, 108, 115, 101]⟩ then
  th (block t rec u.go) fun e u =>
  .ok (({ noHd with kind := 4, cond := c, both := true }, a, e), u)
 else .ok (({ noHd with kind := 4, cond := c }, a, .nil), u)
def loop (rec : St → Res SL) (u : St) : Res (Hd × SL × SL) :=
 th (must t ⟨#[119, 104, 105, 108, 101]⟩ u) fun _ u =>
 th (held t u) fun c u =>
 th (block t rec u) fun a u =>
 .ok (({ noHd with kind := 5, cond := c }, a, .nil), u)
def named (u : St) : Res Hd :=
 if is t (u.i + 1) ⟨#[40]⟩ then
  th (name t u) fun x u =>
  th (listed t (side t) u) fun l u =>
  th (must t ⟨#[59]⟩ u) fun _ u =>
  .ok ({ noHd with kind := 3, name := x.text, args := ⟨none, 0, l⟩ }, u)
 else
  th (path t u) fun x u =>
  th (must t ⟨#[61]⟩ u) fun _ u =>
  th (value t u) fun v u =>
  th (must t ⟨#[59]⟩ u) fun _ u =>
  .ok ({ noHd with kind := 1, place := x, value := v }, u)
def stmt (rec : St → Res SL) (u : St) : Res (Hd × SL × SL) :=
 th (count t u) fun _ u =>
 if is t u.i ⟨#[59]⟩ then .ok ((noHd, .nil, .nil), u.go)
 else if is t u.i ⟨#[123]⟩ then
  th (block t rec u) fun l u =>
  .ok (({ noHd with kind := 6 }, l, .nil), u)
 else if is t u.i ⟨#[102, 114, 101, 101]⟩ then
  th (free t u) fun h u =>
  .ok ((h, .nil, .nil), u)
 else if is t u.i ⟨#[105, 102]⟩ then branch t rec u
 else if is t u.i ⟨#[119, 104, 105, 108, 101]⟩ then loop t rec u
 else
  th (named t u) fun h u =>
  .ok ((h, .nil, .nil), u)
/-- Statements, with fuel: each one takes a sign at least. -/
def stmts : Nat → St → Res SL
 | 0, _ => .error (0, 0)
 | n + 1, u =>
  if begins t u then
   th (stmt t (stmts n) u) fun (h, a, e) u =>
   th (stmts n u) fun r u =>
   .ok (.cons h none 0 a none 0 e r, u)
  else .ok (.nil, u)
def fields : Nat → List Dc → St → Res (List Dc)
 | 0, _, _ => .error (0, 0)
 | n + 1, acc, u =>
  if is t u.i ⟨#[125]⟩ then .ok (acc, u.go)
  else
   th (pointer t u) fun d u =>
   th (must t ⟨#[59]⟩ u) fun _ u =>
   fields n (acc ++ [d]) u
def structure_ (u : St) : Res Sr :=
 th (must t ⟨#[115, 116, 114, 117, 99, 116]⟩ u) fun _ u =>
 th (name t u) fun x u =>
 th (must t ⟨#[123]⟩ u) fun _ u =>
 th (fields t (t.length + 1) [] u) fun l u =>
 .ok (⟨x.text, 0, ⟨none, 0, l⟩⟩, u)
def locals : Nat → List Dc → St → Res (List Dc)
 | 0, _, _ => .error (0, 0)
 | n + 1, acc, u => if declares t u then (th (decl t u) fun d u => locals n (acc ++ [d]) u) else .ok (acc, u)
def proc (u : St) : Res Pc :=
 th (must t ⟨#[118, 111, 105, 100]⟩ u) fun _ u =>
 th (name t u) fun x u =>
 th (listed t (variable_ t) u) fun ps u =>
 th (must t ⟨#[123]⟩ u) fun _ u =>
 th (locals t (t.length + 1) [] u) fun ls u =>
 th (stmts t (t.length + 1) u) fun body u =>
 th (must t ⟨#[125]⟩ u) fun _ u =>
 .ok (⟨x.text, 0, 0, ⟨none, 0, ps⟩, ⟨none, 0, ls⟩, none, 0, body⟩, u)
def program : Nat → List Sr → List Dc → List Pc → St → Res Pg
 | 0, _, _, _, _ => .error (0, 0)
 | n + 1, ss, gs, ps, u =>
  if (sg t u.i).kind = 0 then .ok (⟨⟨none, 0, ss⟩, ⟨none, 0, gs⟩, ⟨none, 0, ps⟩⟩, u)
  else if is t u.i ⟨#[115, 116, 114, 117, 99, 116]⟩ then (th (structure_ t u) fun x u => program n (ss ++ [x]) gs ps u)
  else if is t u.i ⟨#[118, 111, 105, 100]⟩ then (th (proc t u) fun x u => program n ss gs (ps ++ [x]) u)
  else (th (decl t u) fun x u => program n ss (gs ++ [x]) ps u)
/-- What a reading of all signs makes, or the number of what is wrong. -/
def whole {α : Type} (read : St → Res α) : Except (Int × Nat) α :=
 match read ⟨0, 0, 0⟩ with
 | .error e => .error e
 | .ok (x, u) => if (sg t u.i).kind = 0 then .ok x else .error (5, u.i)
end
theorem sg_tk {l : List Tx.Sg} {i : Nat} {x : Tx.Sg} (h : l[i]? = some x) : sg (l.map tk) i = tk x := by
 unfold sg; rw [List.getD_eq_getElem?_getD, List.getElem?_map, h]; rfl
end Pr
end Go.Proofs.YtmhpaacjioeknaaGreat
namespace Go.Proofs.YtmhpaacjioeknaaGreat
open Go.RowKit Go.Sort
namespace Pr
theorem th_ok {α β : Type} {r : Res α} {f : α → St → Res β} {b : β} {v : St} (h : th r f = .ok (b, v)) : ∃ a u, r = .ok (a, u) ∧ f a u = .ok (b, v) := by
 unfold th at h
 split at h
 ·cases h
 ·rename_i x u; exact ⟨x, u, rfl, h⟩
/-- A part of the parser goes n signs on at least, and leaves the counts as they are. -/
def Fwd (n : Nat) (u v : St) : Prop := u.i + n ≤ v.i ∧ v.o = u.o ∧ v.b = u.b
theorem Fwd.tr {n m : Nat} {u v w : St} (h : Fwd n u v) (k : Fwd m v w) : Fwd (n + m) u w := ⟨by have := h.1; have := k.1; omega, k.2.1.trans h.2.1, k.2.2.trans h.2.2⟩
theorem Fwd.le {n m : Nat} {u v : St} (h : Fwd n u v) (hm : m ≤ n) : Fwd m u v := ⟨by have := h.1; omega, h.2⟩
theorem Fwd.go (u : St) : Fwd 1 u u.go := ⟨Nat.le_refl _, rfl, rfl⟩
theorem Fwd.refl (u : St) : Fwd 0 u u := ⟨Nat.le_refl _, rfl, rfl⟩
section
variable {t : List Tk}
theorem must_fwd {s : ByteArray} {u v : St} {x : Tk} (h : must t s u = .ok (x, v)) : Fwd 1 u v := by
 unfold must at h
 split at h
 ·injection h with h; injection h with _ h; subst h; exact Fwd.go u
 ·cases h
theorem name_fwd {u v : St} {x : Tk} (h : name t u = .ok (x, v)) : Fwd 1 u v := by
 unfold name at h
 split at h
 ·injection h with h; injection h with _ h; subst h; exact Fwd.go u
 ·cases h
theorem hops_fwd : ∀ (n : Nat) (acc : List Hp) (u : St) {l : List Hp} {v : St}, hops t n acc u = .ok (l, v) → Fwd 0 u v
 | 0, acc, u, l, v, h => by
  unfold hops at h
  split at h
  ·cases h
  ·injection h with h; injection h with _ h; subst h; exact Fwd.refl u
 | n + 1, acc, u, l, v, h => by
  unfold hops at h
  split at h
  ·obtain ⟨x, w, h1, h2⟩ := th_ok h
   exact (((Fwd.go u).tr (name_fwd h1)).tr (hops_fwd n _ w h2)).le (Nat.zero_le _)
  ·injection h with h; injection h with _ h; subst h; exact Fwd.refl u
theorem path_fwd {u v : St} {x : Pth} (h : path t u = .ok (x, v)) : Fwd 1 u v := by
 obtain ⟨a, u1, h1, h⟩ := th_ok h
 obtain ⟨b, u2, h2, h⟩ := th_ok h
 injection h with h; injection h with _ h; subst h
 exact (name_fwd h1).tr (hops_fwd _ _ _ h2)
theorem term_fwd {u v : St} {x : Tm} (h : term t u = .ok (x, v)) : Fwd 1 u v := by
 unfold term at h
 split at h
 ·injection h with h; injection h with _ h; subst h; exact Fwd.go u
 ·obtain ⟨a, u1, h1, h⟩ := th_ok h
  injection h with h; injection h with _ h; subst h
  exact name_fwd h1
theorem side_fwd {u v : St} {x : Vl} (h : side t u = .ok (x, v)) : Fwd 1 u v := by
 unfold side at h
 split at h
 ·injection h with h; injection h with _ h; subst h; exact Fwd.go u
 ·split at h
  ·obtain ⟨a, u1, h1, h⟩ := th_ok h
   injection h with h; injection h with _ h; subst h
   exact term_fwd h1
  ·obtain ⟨a, u1, h1, h⟩ := th_ok h
   injection h with h; injection h with _ h; subst h
   exact path_fwd h1
theorem sum_fwd {u v : St} {x : Vl} (h : sum t u = .ok (x, v)) : Fwd 1 u v := by
 obtain ⟨a, u1, h1, h⟩ := th_ok h
 obtain ⟨b, u2, h2, h⟩ := th_ok h
 injection h with h; injection h with _ h; subst h
 exact (((term_fwd h1).tr (Fwd.go u1)).tr (term_fwd h2)).le (by omega)
theorem value_fwd {u v : St} {x : Vl} (h : value t u = .ok (x, v)) : Fwd 1 u v := by
 unfold value at h
 split at h
 ·obtain ⟨a, u1, h1, h⟩ := th_ok h
  injection h with h; injection h with _ h; subst h
  exact ((Fwd.go u).tr (name_fwd h1)).le (by omega)
 ·split at h
  ·injection h with h; injection h with _ h; subst h; exact Fwd.go u
  ·split at h
   ·exact sum_fwd h
   ·exact side_fwd h
theorem relation_fwd {u v : St} {x : Int} (h : relation t u = .ok (x, v)) : Fwd 1 u v := by
 unfold relation at h
 split at h
 ·injection h with h; injection h with _ h; subst h; exact Fwd.go u
 ·split at h
  ·injection h with h; injection h with _ h; subst h; exact Fwd.go u
  ·split at h
   ·injection h with h; injection h with _ h; subst h; exact Fwd.go u
   ·obtain ⟨a, u1, h1, h⟩ := th_ok h
    injection h with h; injection h with _ h; subst h
    exact must_fwd h1
theorem cond_fwd {u v : St} {x : Cd} (h : cond t u = .ok (x, v)) : Fwd 1 u v := by
 unfold cond at h
 split at h
 ·injection h with h; injection h with _ h; subst h; exact Fwd.go u
 ·obtain ⟨a, u1, h1, h⟩ := th_ok h
  obtain ⟨b, u2, h2, h⟩ := th_ok h
  obtain ⟨c, u3, h3, h⟩ := th_ok h
  injection h with h; injection h with _ h; subst h
  exact (((side_fwd h1).tr (relation_fwd h2)).tr (side_fwd h3)).le (by omega)
theorem held_fwd {u v : St} {x : Cd} (h : held t u = .ok (x, v)) : Fwd 1 u v := by
 obtain ⟨a, u1, h1, h⟩ := th_ok h
 obtain ⟨b, u2, h2, h⟩ := th_ok h
 obtain ⟨c, u3, h3, h⟩ := th_ok h
 injection h with h; injection h with _ h; subst h
 exact (((must_fwd h1).tr (cond_fwd h2)).tr (must_fwd h3)).le (by omega)
theorem more_fwd {α : Type} {item : St → Res α} (hi : ∀ u x v, item u = .ok (x, v) → Fwd 1 u v) : ∀ (n : Nat) (acc : List α) (u : St) {l : List α} {v : St}, more t item n acc u = .ok (l, v) → Fwd 1 u v
 | 0, acc, u, l, v, h => by cases h
 | n + 1, acc, u, l, v, h => by
  unfold more at h
  split at h
  ·obtain ⟨x, w, h1, h2⟩ := th_ok h
   exact (((Fwd.go u).tr (hi _ _ _ h1)).tr (more_fwd hi n _ w h2)).le (by omega)
  ·obtain ⟨a, u1, h1, h⟩ := th_ok h
   injection h with h; injection h with _ h; subst h
   exact must_fwd h1
theorem listed_fwd {α : Type} {item : St → Res α} (hi : ∀ u x v, item u = .ok (x, v) → Fwd 1 u v) {u v : St} {l : List α} (h : listed t item u = .ok (l, v)) : Fwd 1 u v := by
 obtain ⟨a, u1, h1, h⟩ := th_ok h
 split at h
 ·injection h with h; injection h with _ h; subst h
  exact ((must_fwd h1).tr (Fwd.go u1)).le (by omega)
 ·obtain ⟨b, u2, h2, h⟩ := th_ok h
  exact (((must_fwd h1).tr (hi _ _ _ h2)).tr (more_fwd hi _ _ _ h)).le (by omega)
theorem pointer_fwd {u v : St} {x : Dc} (h : pointer t u = .ok (x, v)) : Fwd 1 u v := by
 obtain ⟨a, u1, h1, h⟩ := th_ok h
 obtain ⟨b, u2, h2, h⟩ := th_ok h
 obtain ⟨c, u3, h3, h⟩ := th_ok h
 injection h with h; injection h with _ h; subst h
 exact (((name_fwd h1).tr (must_fwd h2)).tr (name_fwd h3)).le (by omega)
theorem variable_fwd {u v : St} {x : Dc} (h : variable_ t u = .ok (x, v)) : Fwd 1 u v := by
 unfold variable_ at h
 split at h
 ·obtain ⟨a, u1, h1, h⟩ := th_ok h
  injection h with h; injection h with _ h; subst h
  exact ((Fwd.go u).tr (name_fwd h1)).le (by omega)
 ·exact pointer_fwd h
/-- The counts within their bounds. -/
def Inv (u : St) : Prop := 0 ≤ u.o ∧ u.o ≤ 20 ∧ 0 ≤ u.b ∧ u.b ≤ 400
/-- Statements go n signs on at least, leave as many braces open, and the counts within their bounds. -/
def Stp (n : Nat) (u v : St) : Prop := u.i + n ≤ v.i ∧ v.o = u.o ∧ (Inv u → Inv v)
theorem Fwd.stp {n : Nat} {u v : St} (h : Fwd n u v) : Stp n u v := ⟨h.1, h.2.1, fun hi => ⟨by rw [h.2.1]; exact hi.1, by rw [h.2.1]; exact hi.2.1, by rw [h.2.2]; exact hi.2.2.1, by rw [h.2.2]; exact hi.2.2.2⟩⟩
theorem Fwd.inv {n : Nat} {u v : St} (h : Fwd n u v) (hi : Inv u) : Inv v := h.stp.2.2 hi
theorem Stp.tr {n m : Nat} {u v w : St} (h : Stp n u v) (k : Stp m v w) : Stp (n + m) u w := ⟨by have := h.1; have := k.1; omega, k.2.1.trans h.2.1, fun hi => k.2.2 (h.2.2 hi)⟩
theorem Stp.le {n m : Nat} {u v : St} (h : Stp n u v) (hm : m ≤ n) : Stp m u v := ⟨by have := h.1; omega, h.2⟩
theorem mustHold_ok {u v : St} {x : Unit} (h : mustHold t u = .ok (x, v)) : v = u ∧ (is t u.i ⟨#[123]⟩ = true → u.o ≠ 20) := by
 unfold mustHold at h
 split at h
 ·cases h
 ·rename_i hn
  injection h with h; injection h with _ h; subst h
  exact ⟨rfl, fun h1 h2 => hn (by rw [h1, h2]; rfl)⟩
theorem count_ok {u v : St} {x : Unit} (h : count t u = .ok (x, v)) : v = ⟨u.i, u.o, u.b + 1⟩ ∧ u.b ≠ 400 := by
 obtain ⟨a, u1, h1, h2⟩ := th_ok h
 clear h
 obtain ⟨rfl, _⟩ := mustHold_ok h1
 split at h2
 ·cases h2
 ·rename_i hn
  injection h2 with h2; injection h2 with _ h2; subst h2
  exact ⟨rfl, hn⟩
theorem must_is {s : ByteArray} {u v : St} {x : Tk} (h : must t s u = .ok (x, v)) : is t u.i s = true ∧ v = u.go := by
 unfold must at h
 split at h
 ·rename_i hn; injection h with h; injection h with _ h; subst h; exact ⟨hn, rfl⟩
 ·cases h
theorem block_stp {rec : St → Res SL} (hr : ∀ u l v, rec u = .ok (l, v) → Stp 0 u v) {u v : St} {l : SL} (h : block t rec u = .ok (l, v)) : Stp 1 u v := by
 obtain ⟨a, u1, h1, h⟩ := th_ok h
 obtain ⟨b, u2, h2, h⟩ := th_ok h
 obtain ⟨c, u3, h3, h⟩ := th_ok h
 obtain ⟨d, u4, h4, h⟩ := th_ok h
 injection h with h; injection h with _ h; subst h
 obtain ⟨rfl, ho⟩ := mustHold_ok h1
 obtain ⟨hs, rfl⟩ := must_is h2
 have hS := hr _ _ _ h3
 have hF := must_fwd h4
 have ho20 := ho hs
 refine ⟨?_, ?_, fun hi => ?_⟩
 ·have := hS.1; have := hF.1; simp only [St.go] at *; omega
 ·have := hS.2.1; have := hF.2.1; simp only [St.go] at *; omega
 ·have hi2 : Inv ⟨u1.go.i, u1.go.o + 1, u1.go.b⟩ := ⟨by have := hi.1; simp only [St.go]; omega, by have := hi.2.1; simp only [St.go]; omega, hi.2.2⟩
  have hi3 := hF.inv (hS.2.2 hi2)
  have h5 := hF.2.1; have h6 := hS.2.1
  simp only [St.go] at h5 h6
  exact ⟨by have := hi.1; simp only; omega, by have := hi.2.1; simp only; omega, hi3.2.2⟩
theorem free_fwd {u v : St} {x : Hd} (h : free t u = .ok (x, v)) : Fwd 1 u v := by
 obtain ⟨a, u1, h1, h⟩ := th_ok h
 obtain ⟨b, u2, h2, h⟩ := th_ok h
 obtain ⟨c, u3, h3, h⟩ := th_ok h
 obtain ⟨d, u4, h4, h⟩ := th_ok h
 obtain ⟨e, u5, h5, h⟩ := th_ok h
 injection h with h; injection h with _ h; subst h
 exact (((((must_fwd h1).tr (must_fwd h2)).tr (path_fwd h3)).tr (must_fwd h4)).tr (must_fwd h5)).le (by omega)
theorem named_fwd {u v : St} {x : Hd} (h : named t u = .ok (x, v)) : Fwd 1 u v := by
 unfold named at h
 split at h
 ·obtain ⟨a, u1, h1, h⟩ := th_ok h
  obtain ⟨b, u2, h2, h⟩ := th_ok h
  obtain ⟨c, u3, h3, h⟩ := th_ok h
  injection h with h; injection h with _ h; subst h
  exact (((name_fwd h1).tr (listed_fwd (fun _ _ _ h => side_fwd h) h2)).tr (must_fwd h3)).le (by omega)
 ·obtain ⟨a, u1, h1, h⟩ := th_ok h
  obtain ⟨b, u2, h2, h⟩ := th_ok h
  obtain ⟨c, u3, h3, h⟩ := th_ok h
  obtain ⟨d, u4, h4, h⟩ := th_ok h
  injection h with h; injection h with _ h; subst h
  exact ((((path_fwd h1).tr (must_fwd h2)).tr (value_fwd h3)).tr (must_fwd h4)).le (by omega)
theorem branch_stp {rec : St → Res SL} (hr : ∀ u l v, rec u = .ok (l, v) → Stp 0 u v) {u v : St} {x : Hd × SL × SL} (h : branch t rec u = .ok (x, v)) : Stp 1 u v := by
 obtain ⟨a, u1, h1, h⟩ := th_ok h
 obtain ⟨b, u2, h2, h⟩ := th_ok h
 obtain ⟨c, u3, h3, h⟩ := th_ok h
 have hs := (((must_fwd h1).tr (held_fwd h2)).stp).tr (block_stp hr h3)
 split at h
 ·obtain ⟨d, u4, h4, h⟩ := th_ok h
  injection h with h; injection h with _ h; subst h
  exact ((hs.tr (Fwd.go u3).stp).tr (block_stp hr h4)).le (by omega)
 ·injection h with h; injection h with _ h; subst h
  exact hs.le (by omega)
theorem loop_stp {rec : St → Res SL} (hr : ∀ u l v, rec u = .ok (l, v) → Stp 0 u v) {u v : St} {x : Hd × SL × SL} (h : loop t rec u = .ok (x, v)) : Stp 1 u v := by
 obtain ⟨a, u1, h1, h⟩ := th_ok h
 obtain ⟨b, u2, h2, h⟩ := th_ok h
 obtain ⟨c, u3, h3, h⟩ := th_ok h
 injection h with h; injection h with _ h; subst h
 exact ((((must_fwd h1).tr (held_fwd h2)).stp).tr (block_stp hr h3)).le (by omega)
theorem count_stp {u v : St} {x : Unit} (h : count t u = .ok (x, v)) : Stp 0 u v := by
 obtain ⟨rfl, hn⟩ := count_ok h
 exact ⟨Nat.le_refl _, rfl, fun hi => ⟨hi.1, hi.2.1, by have := hi.2.2.1; simp only; omega, by have := hi.2.2.2; simp only; omega⟩⟩
theorem stmt_stp {rec : St → Res SL} (hr : ∀ u l v, rec u = .ok (l, v) → Stp 0 u v) {u v : St} {x : Hd × SL × SL} (h : stmt t rec u = .ok (x, v)) : Stp 1 u v := by
 obtain ⟨a, u1, h1, h⟩ := th_ok h
 have hc := count_stp h1
 have key : Stp 1 u1 v := by
  split at h
  ·injection h with h; injection h with _ h; subst h; exact (Fwd.go u1).stp
  ·split at h
   ·obtain ⟨b, u2, h2, h⟩ := th_ok h
    injection h with h; injection h with _ h; subst h; exact block_stp hr h2
   ·split at h
    ·obtain ⟨b, u2, h2, h⟩ := th_ok h
     injection h with h; injection h with _ h; subst h; exact (free_fwd h2).stp
    ·split at h
     ·exact branch_stp hr h
     ·split at h
      ·exact loop_stp hr h
      ·obtain ⟨b, u2, h2, h⟩ := th_ok h
       injection h with h; injection h with _ h; subst h; exact (named_fwd h2).stp
 exact (hc.tr key).le (by omega)
end
end Pr
end Go.Proofs.YtmhpaacjioeknaaGreat
namespace Go.Proofs.YtmhpaacjioeknaaGreat
open Go.RowKit Go.Sort
namespace Pa
open Pr (St Res th noTm noPth noVl noCd noHd th_ok)
section
variable (l : List Tx.Sg)
/-- The signs without places. -/
abbrev ts : List Pr.Tk := l.map Pr.tk
def sg (i : Nat) : Tx.Sg := l.getD i ⟨0, 0, ByteArray.empty, 0⟩
def name (u : St) : Res Tx.Sg := if (sg l u.i).kind = 1 then .ok (sg l u.i, u.go) else .error (5, u.i)
def hops : Nat → List Hp → St → Res (List Hp)
 | 0, acc, u => if Pr.is (ts l) u.i ⟨#[45, 62]⟩ then .error (11, u.i) else .ok (acc, u)
 | n + 1, acc, u => if Pr.is (ts l) u.i ⟨#[45, 62]⟩ then (th (name l u.go) fun x v => hops n (acc ++ [⟨x.text, (sg l u.i).pos⟩]) v) else .ok (acc, u)
def path (u : St) : Res Pth :=
 th (name l u) fun x u =>
 th (hops l 8 [] u) fun l u =>
 .ok (⟨x.text, x.pos, ⟨none, 0, l⟩⟩, u)
def term (u : St) : Res Tm :=
 if (sg l u.i).kind = 2 then .ok (⟨ByteArray.empty, (sg l u.i).num, (sg l u.i).pos⟩, u.go)
 else
  th (name l u) fun x u =>
  .ok (⟨x.text, 0, x.pos⟩, u)
def side (u : St) : Res Vl :=
 if Pr.is (ts l) u.i ⟨#[110, 117, 108, 108]⟩ then .ok ({ noVl with pos := (sg l u.i).pos }, u.go)
 else if (sg l u.i).kind = 2 then
  th (term l u) fun x v =>
  .ok ({ noVl with kind := 4, pos := (sg l u.i).pos, left := x }, v)
 else
  th (path l u) fun x v =>
  .ok ({ noVl with kind := 1, pos := (sg l u.i).pos, path := x }, v)
def sum (u : St) : Res Vl :=
 th (term l u) fun x v =>
 th (term l v.go) fun y z =>
 .ok ({ noVl with kind := if Pr.is (ts l) v.i ⟨#[45]⟩ then 6 else 5, pos := (sg l u.i).pos, left := x, right := y }, z)
def value (u : St) : Res Vl :=
 if Pr.is (ts l) u.i ⟨#[110, 101, 119]⟩ then
  th (name l u.go) fun x v =>
  .ok ({ noVl with kind := 2, pos := (sg l u.i).pos, type := x.text }, v)
 else if Pr.is (ts l) u.i ⟨#[105, 110, 112, 117, 116]⟩ then .ok ({ noVl with kind := 3, pos := (sg l u.i).pos }, u.go)
 else if Pr.sums (ts l) u then sum l u else side l u
def cond (u : St) : Res Cd :=
 if Pr.is (ts l) u.i ⟨#[63]⟩ then .ok ({ noCd with pos := (sg l u.i).pos }, u.go)
 else
  th (side l u) fun x v =>
  th (Pr.relation (ts l) v) fun k v =>
  th (side l v) fun y v =>
  .ok (⟨k, (sg l u.i).pos, x, y⟩, v)
def held (u : St) : Res Cd :=
 th (Pr.must (ts l) ⟨#[40]⟩ u) fun _ u =>
 th (cond l u) fun c u =>
 th (Pr.must (ts l) ⟨#[41]⟩ u) fun _ u =>
 .ok (c, u)
def pointer (u : St) : Res Dc :=
 th (name l u) fun x u =>
 th (Pr.must (ts l) ⟨#[42]⟩ u) fun _ u =>
 th (name l u) fun y u =>
 .ok (⟨x.text, y.text, y.pos⟩, u)
def variable_ (u : St) : Res Dc :=
 if Pr.is (ts l) u.i ⟨#[105, 110, 116]⟩ then
  th (name l u.go) fun x u =>
  .ok (⟨ByteArray.empty, x.text, x.pos⟩, u)
 else pointer l u
def decl (u : St) : Res Dc :=
 th (variable_ l u) fun d u =>
 th (Pr.must (ts l) ⟨#[59]⟩ u) fun _ u =>
 .ok (d, u)
def block (rec : St → Res SL) (u : St) : Res SL := Pr.block (ts l) rec u
def free (u : St) : Res Hd :=
 th (Pr.must (ts l) ⟨#[102, 114, 101, 101]⟩ u) fun _ v =>
 th (Pr.must (ts l) ⟨#[40]⟩ v) fun _ v =>
 th (path l v) fun x v =>
 th (Pr.must (ts l) ⟨#[41]⟩ v) fun _ v =>
 th (Pr.must (ts l) ⟨#[59]⟩ v) fun _ v =>
 .ok ({ noHd with kind := 2, pos := (sg l u.i).pos, place := x }, v)
def branch (rec : St → Res SL) (u : St) : Res (Hd × SL × SL) :=
 th (Pr.must (ts l) ⟨#[105, 102]⟩ u) fun _ v =>
 th (held l v) fun c v =>
 th (block l rec v) fun a v =>
 if Pr.is (ts l) v.i ⟨#[101, 108, 115, 101]⟩ then
  th (block l rec v.go) fun e v =>
  .ok (({ noHd with kind := 4, pos := (sg l u.i).pos, cond := c, both := true }, a, e), v)
 else .ok (({ noHd with kind := 4, pos := (sg l u.i).pos, cond := c }, a, .nil), v)
def loop (rec : St → Res SL) (u : St) : Res (Hd × SL × SL) :=
 th (Pr.must (ts l) ⟨#[119, 104, 105, 108, 101]⟩ u) fun _ v =>
 th (held l v) fun c v =>
 th (block l rec v) fun a v =>
 .ok (({ noHd with kind := 5, pos := (sg l u.i).pos, cond := c }, a, .nil), v)
def named (u : St) : Res Hd :=
 if Pr.is (ts l) (u.i + 1) ⟨#[40]⟩ then
  th (name l u) fun x v =>
  th (Pr.listed (ts l) (side l) v) fun a v =>
  th (Pr.must (ts l) ⟨#[59]⟩ v) fun _ v =>
  .ok ({ noHd with kind := 3, pos := (sg l u.i).pos, name := x.text, args := ⟨none, 0, a⟩ }, v)
 else
  th (path l u) fun x v =>
  th (Pr.must (ts l) ⟨#[61]⟩ v) fun _ v =>
  th (value l v) fun y v =>
  th (Pr.must (ts l) ⟨#[59]⟩ v) fun _ v =>
  .ok ({ noHd with kind := 1, pos := (sg l u.i).pos, place := x, value := y }, v)
def stmt (rec : St → Res SL) (u : St) : Res (Hd × SL × SL) :=
 th (Pr.count (ts l) u) fun _ u =>
 if Pr.is (ts l) u.i ⟨#[59]⟩ then .ok (({ noHd with pos := (sg l u.i).pos }, .nil, .nil), u.go)
 else if Pr.is (ts l) u.i ⟨#[123]⟩ then
  th (block l rec u) fun a v =>
  .ok (({ noHd with kind := 6, pos := (sg l u.i).pos }, a, .nil), v)
 else if Pr.is (ts l) u.i ⟨#[102, 114, 101, 101]⟩ then
  th (free l u) fun h u =>
  .ok ((h, .nil, .nil), u)
 else if Pr.is (ts l) u.i ⟨#[105, 102]⟩ then branch l rec u
 else if Pr.is (ts l) u.i ⟨#[119, 104, 105, 108, 101]⟩ then loop l rec u
 else
  th (named l u) fun h u =>
  .ok ((h, .nil, .nil), u)
def stmts : Nat → St → Res SL
 | 0, _ => .error (0, 0)
 | n + 1, u =>
  if Pr.begins (ts l) u then
   th (stmt l (stmts n) u) fun (h, a, e) u =>
   th (stmts n u) fun r u =>
   .ok (.cons h none 0 a none 0 e r, u)
  else .ok (.nil, u)
def fields : Nat → List Dc → St → Res (List Dc)
 | 0, _, _ => .error (0, 0)
 | n + 1, acc, u =>
  if Pr.is (ts l) u.i ⟨#[125]⟩ then .ok (acc, u.go)
  else
   th (pointer l u) fun d u =>
   th (Pr.must (ts l) ⟨#[59]⟩ u) fun _ u =>
   fields n (acc ++ [d]) u
def structure_ (u : St) : Res Sr :=
 th (Pr.must (ts l) ⟨#[115, 116, 114, 117, 99, 116]⟩ u) fun _ u =>
 th (name l u) fun x u =>
 th (Pr.must (ts l) ⟨#[123]⟩ u) fun _ u =>
 th (fields l ((ts l).length + 1) [] u) fun a u =>
 .ok (⟨x.text, x.pos, ⟨none, 0, a⟩⟩, u)
def locals : Nat → List Dc → St → Res (List Dc)
 | 0, _, _ => .error (0, 0)
 | n + 1, acc, u => if Pr.declares (ts l) u then (th (decl l u) fun d u => locals n (acc ++ [d]) u) else .ok (acc, u)
end
/-- With places and without, step by step. -/
def Like {α β : Type} (f : α → β) (r : Res α) (s : Res β) : Prop :=
 match r, s with
 | .ok (a, u), .ok (b, v) => f a = b ∧ u = v
 | .error e, .error e' => e = e'
 | _, _ => False
theorem Like.th {α β γ δ : Type} {f : α → β} {g : γ → δ} {r : Res α} {s : Res β} {h : α → St → Res γ} {k : β → St → Res δ} (h1 : Like f r s) (h2 : ∀ a u, Like g (h a u) (k (f a) u)) : Like g (Pr.th r h) (Pr.th s k) := by
 unfold Like at h1
 split at h1
 ·obtain ⟨rfl, rfl⟩ := h1; exact h2 _ _
 ·subst h1; exact rfl
 ·exact h1.elim
theorem Like.id {α : Type} (r : Res α) : Like (fun a => a) r r := by
 cases r with
 | error e => exact rfl
 | ok x => exact ⟨rfl, rfl⟩
theorem Like.ok {α β : Type} {f : α → β} {a : α} {b : β} {u : St} (h : f a = b) : Like f (.ok (a, u)) (.ok (b, u)) := ⟨h, rfl⟩
theorem Like.ite {α β : Type} {f : α → β} {c : Prop} [Decidable c] {r1 r2 : Res α} {s1 s2 : Res β} (h1 : Like f r1 s1) (h2 : Like f r2 s2) : Like f (if c then r1 else r2) (if c then s1 else s2) := by
 split
 ·exact h1
 ·exact h2
section
variable {l : List Tx.Sg}
theorem sg_tk (i : Nat) : Pr.tk (sg l i) = Pr.sg (ts l) i := by
 unfold sg Pr.sg
 rw [List.getD_eq_getElem?_getD, List.getD_eq_getElem?_getD, List.getElem?_map]
 cases l[i]? <;> rfl
theorem kind_tk (i : Nat) : (sg l i).kind = (Pr.sg (ts l) i).kind := by rw [← sg_tk]; rfl
theorem num_tk (i : Nat) : (sg l i).num = (Pr.sg (ts l) i).num := by rw [← sg_tk]; rfl
theorem name_er (u : St) : Like Pr.tk (name l u) (Pr.name (ts l) u) := by
 unfold name Pr.name
 rw [kind_tk]
 exact Like.ite (Like.ok (sg_tk _)) rfl
theorem hops_er : ∀ (n : Nat) (acc : List Hp) (u : St), Like (List.map Hp.er) (hops l n acc u) (Pr.hops (ts l) n (acc.map Hp.er) u)
 | 0, acc, u => by
  unfold hops Pr.hops
  exact Like.ite rfl (Like.ok rfl)
 | n + 1, acc, u => by
  unfold hops Pr.hops
  refine Like.ite (Like.th (name_er _) fun x v => ?_) (Like.ok rfl)
  have := hops_er n (acc ++ [⟨x.text, (sg l u.i).pos⟩]) v
  rw [List.map_append] at this
  exact this
theorem path_er (u : St) : Like Pth.er (path l u) (Pr.path (ts l) u) :=
 Like.th (name_er u) fun _ v => Like.th (hops_er 8 [] v) fun _ _ => Like.ok rfl
theorem term_er (u : St) : Like Tm.er (term l u) (Pr.term (ts l) u) := by
 unfold term Pr.term
 rw [kind_tk]
 refine Like.ite (Like.ok ?_) (Like.th (name_er u) fun _ _ => Like.ok rfl)
 show (⟨_, _, _⟩ : Tm) = ⟨_, _, _⟩
 rw [← num_tk]
theorem side_er (u : St) : Like Vl.er (side l u) (Pr.side (ts l) u) := by
 unfold side Pr.side
 rw [kind_tk]
 exact Like.ite (Like.ok rfl) (Like.ite (Like.th (term_er u) fun _ _ => Like.ok rfl) (Like.th (path_er u) fun _ _ => Like.ok rfl))
theorem must_er (x : ByteArray) (u : St) : Like (fun a => a) (Pr.must (ts l) x u) (Pr.must (ts l) x u) := Like.id _
theorem sum_er (u : St) : Like Vl.er (sum l u) (Pr.sum (ts l) u) := by
 unfold sum Pr.sum
 refine Like.th (term_er u) fun _ v => Like.th (term_er v.go) fun _ _ => Like.ok ?_
 rfl
theorem value_er (u : St) : Like Vl.er (value l u) (Pr.value (ts l) u) := by
 unfold value Pr.value
 exact Like.ite (Like.th (name_er u.go) fun _ _ => Like.ok rfl) (Like.ite (Like.ok rfl) (Like.ite (sum_er u) (side_er u)))
theorem cond_er (u : St) : Like Cd.er (cond l u) (Pr.cond (ts l) u) := by
 unfold cond Pr.cond
 exact Like.ite (Like.ok rfl) (Like.th (side_er u) fun _ v => Like.th (Like.id (Pr.relation (ts l) v)) fun _ v => Like.th (side_er v) fun _ _ => Like.ok rfl)
theorem held_er (u : St) : Like Cd.er (held l u) (Pr.held (ts l) u) :=
 Like.th (must_er _ u) fun _ v => Like.th (cond_er v) fun _ v => Like.th (must_er _ v) fun _ _ => Like.ok rfl
theorem pointer_er (u : St) : Like Dc.er (pointer l u) (Pr.pointer (ts l) u) :=
 Like.th (name_er u) fun _ v => Like.th (must_er _ v) fun _ v => Like.th (name_er v) fun _ _ => Like.ok rfl
theorem variable_er (u : St) : Like Dc.er (variable_ l u) (Pr.variable_ (ts l) u) := by
 unfold variable_ Pr.variable_
 exact Like.ite (Like.th (name_er u.go) fun _ _ => Like.ok rfl) (pointer_er u)
theorem more_er {α β : Type} {f : α → β} {item : St → Res α} {jtem : St → Res β} (h : ∀ u, Like f (item u) (jtem u)) : ∀ (n : Nat) (acc : List α) (u : St), Like (List.map f) (Pr.more (ts l) item n acc u) (Pr.more (ts l) jtem n (acc.map f) u)
 | 0, _, _ => rfl
 | n + 1, acc, u => by
  unfold Pr.more
  refine Like.ite (Like.th (h _) fun x v => ?_) (Like.th (must_er _ u) fun _ _ => Like.ok rfl)
  have := more_er h n (acc ++ [x]) v
  rw [List.map_append] at this
  exact this
theorem listed_er {α β : Type} {f : α → β} {item : St → Res α} {jtem : St → Res β} (h : ∀ u, Like f (item u) (jtem u)) (u : St) : Like (List.map f) (Pr.listed (ts l) item u) (Pr.listed (ts l) jtem u) := by
 unfold Pr.listed
 exact Like.th (must_er _ u) fun _ v => Like.ite (Like.ok rfl) (Like.th (h v) fun x v => more_er h _ [x] v)
section
variable {rec rec' : St → Res SL} (h : ∀ u, Like SL.er (rec u) (rec' u))
include h
theorem block_er (u : St) : Like SL.er (block l rec u) (Pr.block (ts l) rec' u) := by
 unfold block Pr.block
 exact Like.th (Like.id _) fun _ v => Like.th (must_er _ v) fun _ v => Like.th (h _) fun _ v => Like.th (must_er _ v) fun _ _ => Like.ok rfl
def er3 (x : Hd × SL × SL) : Hd × SL × SL := (x.1.er, x.2.1.er, x.2.2.er)
omit h in
theorem free_er (u : St) : Like Hd.er (free l u) (Pr.free (ts l) u) :=
 Like.th (must_er _ u) fun _ v => Like.th (must_er _ v) fun _ v => Like.th (path_er v) fun _ v => Like.th (must_er _ v) fun _ v => Like.th (must_er _ v) fun _ _ => Like.ok rfl
theorem branch_er (u : St) : Like er3 (branch l rec u) (Pr.branch (ts l) rec' u) := by
 unfold branch Pr.branch
 exact Like.th (must_er _ u) fun _ v => Like.th (held_er v) fun _ v => Like.th (block_er h v) fun _ v => Like.ite (Like.th (block_er h v.go) fun _ _ => Like.ok rfl) (Like.ok rfl)
theorem loop_er (u : St) : Like er3 (loop l rec u) (Pr.loop (ts l) rec' u) :=
 Like.th (must_er _ u) fun _ v => Like.th (held_er v) fun _ v => Like.th (block_er h v) fun _ _ => Like.ok rfl
omit h in
theorem named_er (u : St) : Like Hd.er (named l u) (Pr.named (ts l) u) := by
 unfold named Pr.named
 exact Like.ite (Like.th (name_er u) fun _ v => Like.th (listed_er side_er v) fun _ v => Like.th (must_er _ v) fun _ _ => Like.ok rfl)
  (Like.th (path_er u) fun _ v => Like.th (must_er _ v) fun _ v => Like.th (value_er v) fun _ v => Like.th (must_er _ v) fun _ _ => Like.ok rfl)
theorem stmt_er (u : St) : Like er3 (stmt l rec u) (Pr.stmt (ts l) rec' u) := by
 unfold stmt Pr.stmt
 exact Like.th (Like.id _) fun _ v => Like.ite (Like.ok rfl) (Like.ite (Like.th (block_er h v) fun _ _ => Like.ok rfl) (Like.ite (Like.th (free_er v) fun _ _ => Like.ok rfl)
  (Like.ite (branch_er h v) (Like.ite (loop_er h v) (Like.th (named_er v) fun _ _ => Like.ok rfl)))))
end
end
section
variable (l : List Tx.Sg)
def proc (u : St) : Res Pc :=
 th (Pr.must (ts l) ⟨#[118, 111, 105, 100]⟩ u) fun _ u =>
 th (name l u) fun x u =>
 th (Pr.listed (ts l) (variable_ l) u) fun ps u =>
 th (Pr.must (ts l) ⟨#[123]⟩ u) fun _ u =>
 th (locals l ((ts l).length + 1) [] u) fun ls u =>
 th (stmts l ((ts l).length + 1) u) fun body v =>
 th (Pr.must (ts l) ⟨#[125]⟩ v) fun _ z =>
 .ok (⟨x.text, x.pos, (sg l v.i).pos, ⟨none, 0, ps⟩, ⟨none, 0, ls⟩, none, 0, body⟩, z)
def program : Nat → List Sr → List Dc → List Pc → St → Res Pg
 | 0, _, _, _, _ => .error (0, 0)
 | n + 1, ss, gs, ps, u =>
  if (sg l u.i).kind = 0 then .ok (⟨⟨none, 0, ss⟩, ⟨none, 0, gs⟩, ⟨none, 0, ps⟩⟩, u)
  else if Pr.is (ts l) u.i ⟨#[115, 116, 114, 117, 99, 116]⟩ then (th (structure_ l u) fun x u => program n (ss ++ [x]) gs ps u)
  else if Pr.is (ts l) u.i ⟨#[118, 111, 105, 100]⟩ then (th (proc l u) fun x u => program n ss gs (ps ++ [x]) u)
  else (th (decl l u) fun x u => program n ss (gs ++ [x]) ps u)
end
end Pa
end Go.Proofs.YtmhpaacjioeknaaGreat
namespace Go.Proofs.YtmhpaacjioeknaaGreat
open Go.RowKit
theorem lret_bool {a b : Bool} (h : a = b) : Ending.returned (.bool a) = .returned (.bool b) := by rw [h]
theorem lret_int {k : IntKind} {a b : Int} (h : a = b) : Ending.returned (.int k a) = .returned (.int k b) := by rw [h]
theorem letter_any (c : Int) (w : World) :
  Calls Tryz.prog 78 #[.int .u8 c] w fun e w' => e = .returned (.bool (Tx.ltr c)) ∧ w = w' := by
 go_enter Tryz.func78, Tryz.ntmps78
 go_wp2
 all_goals
  go_ret
  exact ⟨lret_bool (by rw [Bool.eq_iff_iff]; simp [Tx.ltr]; omega), rfl⟩
theorem digit_any (c : Int) (w : World) :
  Calls Tryz.prog 79 #[.int .u8 c] w fun e w' => e = .returned (.bool (Tx.dgt c)) ∧ w = w' := by
 go_enter Tryz.func79, Tryz.ntmps79
 go_wp2
 all_goals
  go_ret
  exact ⟨lret_bool (by rw [Bool.eq_iff_iff]; simp [Tx.dgt]; omega), rfl⟩
end Go.Proofs.YtmhpaacjioeknaaGreat
namespace Go.Proofs.YtmhpaacjioeknaaGreat
open Go.RowKit
theorem val_take (s : ByteArray) (k : Nat) (h : k < s.size) : Tx.val (s.data.toList.take (k + 1)) = 10 * Tx.val (s.data.toList.take k) + (s[k].toNat - 48) := by
 rw [List.take_succ_eq_append_getElem (by rw [Tx.len_eq]; exact h)]
 unfold Tx.val
 rw [List.foldl_append]
 rfl
/-- All of a list's bytes are digits. -/
def digs (l : List UInt8) : Prop := ∀ b ∈ l, Tx.dgt (b.toNat : Int) = true
theorem digs_at {s : ByteArray} (h : digs s.data.toList) (k : Nat) (hk : k < s.size) : 48 ≤ s[k].toNat ∧ s[k].toNat ≤ 57 := by
 have := h s[k] (by
  have : s[k] = s.data.toList[k]'(by rw [Tx.len_eq]; exact hk) := by simp; rfl
  rw [this]; exact List.getElem_mem _)
 unfold Tx.dgt at this
 simp at this
 omega
theorem val_bd (s : ByteArray) (h : digs s.data.toList) : ∀ k, k ≤ s.size → 0 ≤ Tx.val (s.data.toList.take k) ∧ Tx.val (s.data.toList.take k) < 10 ^ k
 | 0, _ => by simp [Tx.val]
 | k + 1, hk => by
  have ih := val_bd s h k (by omega)
  have hd := digs_at h k (by omega)
  rw [val_take s k (by omega)]
  have : (10 : Int) ^ (k + 1) = 10 * 10 ^ k := by rw [Int.pow_succ]; omega
  omega
theorem val_small (s : ByteArray) (h : digs s.data.toList) (h9 : s.size ≤ 9) (k : Nat) (hk : k ≤ s.size) : 0 ≤ Tx.val (s.data.toList.take k) ∧ Tx.val (s.data.toList.take k) < 1000000000 := by
 have h1 := val_bd s h k hk
 have h2 : (10 : Int) ^ k ≤ 10 ^ 9 := by
  have : (10 : Nat) ^ k ≤ 10 ^ 9 := Nat.pow_le_pow_right (by decide) (by omega)
  have := Int.ofNat_le.2 this
  simpa using this
 have h3 : (10 : Int) ^ 9 = 1000000000 := by decide
 omega
end Go.Proofs.YtmhpaacjioeknaaGreat
namespace Go.Proofs.YtmhpaacjioeknaaGreat
open Go.RowKit
/-- The Marks of two bytes. -/
def Tx.pw : List (List UInt8) := [[45, 62], [61, 61], [33, 61], [62, 61]]
def Tx.prAt (k : Nat) : ByteArray := ⟨(Tx.pw.getD k []).toArray⟩
/-- The tables lie as the program's text lays them. -/
structure Gl (w : World) : Prop where
 key : ∀ k, k < 10 → w.cell? ⟨2, k, none⟩ = some (.string (Tx.keyAt k))
 pair : ∀ k, k < 4 → w.cell? ⟨1, k, none⟩ = some (.string (Tx.prAt k))
 two : 3 ≤ w.heap.size
theorem Gl.below {w w' : World} {B : Nat} (h : Gl w) (hb : Below B w w') (h2 : 3 ≤ B) : Gl w' :=
 ⟨fun k hk => (hb.cell (p := ⟨2, k, none⟩) (by show 2 < B; omega)).trans (h.key k hk), fun k hk => (hb.cell (p := ⟨1, k, none⟩) (by show 1 < B; omega)).trans (h.pair k hk), Nat.le_trans h.two hb.size⟩
theorem beq_swap (a b : List UInt8) : (a == b) = (b == a) := by rw [Bool.eq_iff_iff, beq_iff_eq, beq_iff_eq]; exact eq_comm
theorem isKeyRef_any (s : ByteArray) (w : World) :
  Calls Tryz.prog 80 #[.string s] w fun e w' => e = .returned (.bool (Tx.isKey s)) ∧ Below w.heap.size w w' := by
 go_enter Tryz.func80, Tryz.ntmps80
 go_wp2
 go_loopw [4] (fun i wr => ∃ k : Nat, k ≤ 10 ∧ i = .int .i64 k ∧ Hid (∀ j, j < 10 → wr.cell? ⟨w.heap.size, j, none⟩ = some (.string (Tx.keyAt j))) ∧ Hid (Below w.heap.size w wr) ∧ Hid (∀ j, j < k → (s.data.toList == (Tx.keyAt j).data.toList) = false)) (fun i _ => 10 - (Lib.intOf i).toNat)
 case atStart =>
  refine ⟨0, Nat.zero_le _, rfl, hdn ?_, hdn ((Below.refl _ _).alloc (Nat.le_refl _) _), hdn (fun j hj => absurd hj (by omega))⟩
  intro k hk
  rcases (show k = 0 ∨ k = 1 ∨ k = 2 ∨ k = 3 ∨ k = 4 ∨ k = 5 ∨ k = 6 ∨ k = 7 ∨ k = 8 ∨ k = 9 by omega) with rfl | rfl | rfl | rfl | rfl | rfl | rfl | rfl | rfl | rfl <;> (rw [World.cell?_alloc_new]; rfl)
 case round =>
  obtain ⟨k, hk, rfl, HC, HB, HR⟩ := hrel
  by_cases hlt : k < 10
  ·have hx := HC.out k hlt
   cases he : (s.toList == (Tx.keyAt k).toList)
   ·have HE : (s.data.toList == (Tx.keyAt k).data.toList) = false := by rw [← Lib.toList_data, ← Lib.toList_data]; exact he
    replace HE := hdn HE
    have he' : ((Tx.keyAt k).toList == s.toList) = false := by rw [beq_swap]; exact he
    clear he
    go_wp2
    go_roundw
    case rel => exact ⟨k + 1, by omega, by go_num, HC, HB, hdn (fun j hj => by
     rcases Nat.lt_or_ge j k with h | h
     ·exact HR.out j h
     ·obtain rfl : j = k := by omega
      exact HE.out)⟩
    case measure => simp [Lib.intOf]; omega
   ·have HE : (s.data.toList == (Tx.keyAt k).data.toList) = true := by rw [← Lib.toList_data, ← Lib.toList_data]; exact he
    replace HE := hdn HE
    have he' : ((Tx.keyAt k).toList == s.toList) = true := by rw [beq_swap]; exact he
    clear he
    go_wp2
    go_ret
    exact ⟨lret_bool (Tx.isKey_hit s k hlt HE.out).symm, HB.out⟩
  ·go_wp2
   go_ret
   exact ⟨lret_bool (Tx.isKey_miss s (fun j hj => HR.out j (by omega))).symm, HB.out⟩
end Go.Proofs.YtmhpaacjioeknaaGreat
namespace Go.Proofs.YtmhpaacjioeknaaGreat
open Go.RowKit
theorem part_list (s : ByteArray) (a b : Nat) : (s.extract a b).data.toList = (s.data.toList.drop a).take (b - a) := by
 rw [← Lib.toList_data, Lib.extract_toList]
/-- A byte's case: a blank, a stroke, another. -/
theorem byte_case (c : Int) : (Tx.blk c = true ∧ ((c == 32) = true ∨ ((c == 32) = false ∧ (c == 9) = true) ∨ ((c == 32) = false ∧ (c == 9) = false ∧ (c == 10) = true) ∨ ((c == 32) = false ∧ (c == 9) = false ∧ (c == 10) = false ∧ (c == 13) = true)))
  ∨ (Tx.blk c = false ∧ (c == 32) = false ∧ (c == 9) = false ∧ (c == 10) = false ∧ (c == 13) = false ∧ ((c == 47) = true ∨ (c == 47) = false)) := by
 unfold Tx.blk; simp; omega
end Go.Proofs.YtmhpaacjioeknaaGreat
namespace Go.Proofs.YtmhpaacjioeknaaGreat
open Go.RowKit
theorem ne_of (c d : Int) (b : Bool) (h : (c == d) = b) : (c != d) = !b := by rw [bne, h]
theorem blank_any (s : ByteArray) (i : Nat) (w : World) (hs : s.size ≤ 5000000) (hi : i ≤ s.size) :
  Calls Tryz.prog 77 #[.string s, .int .i64 i] w fun e w' => e = .returned (.int .i64 (Tx.skp s i)) ∧ w = w' := by
 go_enter Tryz.func77, Tryz.ntmps77
 go_wp2
 go_loopg [1] (s.size - i) (fun g v wr => ∃ k : Nat, k ≤ s.size ∧ s.size - k ≤ g ∧ v = .int .i64 k ∧ w = wr ∧ Hid (Tx.skp s k = Tx.skp s i))
 case atStart => exact ⟨i, hi, Nat.le_refl _, rfl, rfl, rfl⟩
 case round =>
  obtain ⟨k, hk, hgk, rfl, rfl, HR⟩ := hrel
  obtain ⟨g0, rfl⟩ : ∃ g0, g0 = gk := ⟨gk, rfl⟩
  by_cases hlt : k < s.size
  ·rcases byte_case (s[k].toNat : Int) with ⟨hb, hc⟩ | ⟨hb, h1, h2, h3, h4, hc⟩
   ·have HE := hdn (Tx.skp_blank s k hlt hb)
    clear hb
    rcases hc with h1 | ⟨h1, h2⟩ | ⟨h1, h2, h3⟩ | ⟨h1, h2, h3, h4⟩
    all_goals
     go_wp2_with fail
     go_roundg (g0 - 1)
     case rel => exact ⟨k + 1, by omega, by omega, by go_num, rfl, HE.out.trans HR.out⟩
     case measure => omega
   ·rcases hc with h5 | h5
    ·have n5 := ne_of _ _ _ h5
     by_cases h6 : k + 1 < s.size
     ·cases h7 : ((s[k + 1].toNat : Int) == 47)
      ·have n7 := ne_of _ _ _ h7
       have HE := hdn (Tx.skp_stop s k hlt hb (by rintro ⟨_, _, a⟩; rw [a] at h7; simp at h7))
       clear hb
       go_wp2_with fail
       go_ret
       exact ⟨lret_int (by rw [← HR.out, HE.out]), rfl⟩
      ·have n7 := ne_of _ _ _ h7
       have HE := hdn (Tx.skp_rem s k h6 (by simp at h5; omega) (by simp at h7; omega))
       have HG : Hid (k + 1 ≤ Tx.wend Tx.inl s k) := hdn (by
        rw [← Tx.wend_in Tx.inl s k hlt (by unfold Tx.inl; simp at h5 ⊢; omega)]; exact Tx.wend_ge _ _ _)
       clear hb
       go_wp2_with fail
       clear h1 h2 h3 h4 h5 h7 n5 n7 h6
       go_loopg [1] (s.size - k) (fun g v wr => ∃ j : Nat, j ≤ s.size ∧ s.size - j ≤ g ∧ v = .int .i64 j ∧ w = wr ∧ k ≤ j ∧ Hid (Tx.wend Tx.inl s j = Tx.wend Tx.inl s k))
       case atStart => exact ⟨k, hk, Nat.le_refl _, rfl, rfl, Nat.le_refl _, rfl⟩
       case round =>
        obtain ⟨j, hj, hgj, rfl, rfl, hkj, HW⟩ := hrel
        by_cases hjt : j < s.size
        ·cases n10 : ((s[j].toNat : Int) != 10)
         ·have HO := hdn (Tx.wend_out Tx.inl s j hjt (by unfold Tx.inl; simpa using n10))
          go_wp2_with fail
          go_roundg (g0 - 1)
          case rel =>
           have e1 := HG.out
           have e2 := HW.out
           have e3 := HO.out
           rw [e3] at e2
           exact ⟨j, hj, by omega, rfl, rfl, hdn (by rw [e2]; exact HE.out.trans HR.out)⟩
          case measure =>
           have e1 := HG.out
           have e2 := HW.out
           have e3 := HO.out
           omega
         ·have HO := hdn (Tx.wend_in Tx.inl s j hjt (by unfold Tx.inl; simpa using n10))
          go_wp2_with fail
          go_roundg (gk - 1)
          case rel => exact ⟨j + 1, by omega, by omega, by go_num, rfl, by omega, HO.out.trans HW.out⟩
          case measure => omega
        ·have HO := hdn (Tx.wend_end Tx.inl s j (by omega))
         go_wp2_with fail
         go_roundg (g0 - 1)
         case rel =>
          have e1 := HG.out
          have e2 := HW.out
          have e3 := HO.out
          rw [e3] at e2
          exact ⟨j, hj, by omega, rfl, rfl, hdn (by rw [e2]; exact HE.out.trans HR.out)⟩
         case measure =>
          have e1 := HG.out
          have e2 := HW.out
          have e3 := HO.out
          omega
     ·have HE := hdn (Tx.skp_stop s k hlt hb (by rintro ⟨_, a, _⟩; exact h6 a))
      clear hb
      go_wp2_with fail
      go_ret
      exact ⟨lret_int (by rw [← HR.out, HE.out]), rfl⟩
    ·have n5 := ne_of _ _ _ h5
     have HE := hdn (Tx.skp_stop s k hlt hb (by rintro ⟨a, _⟩; rw [a] at h5; simp at h5))
     clear hb
     go_wp2_with fail
     go_ret
     exact ⟨lret_int (by rw [← HR.out, HE.out]), rfl⟩
  ·have HE := hdn (Tx.skp_end s k (by omega))
   go_wp2_with fail
   go_ret
   exact ⟨lret_int (by rw [← HR.out, HE.out]), rfl⟩
end Go.Proofs.YtmhpaacjioeknaaGreat
namespace Go.Proofs.YtmhpaacjioeknaaGreat
open Go.RowKit
theorem bcell {W w1 : World} (hb : Below W.heap.size W w1) : (∀ b o, b < W.heap.size → w1.cell? ⟨b, o, none⟩ = W.cell? ⟨b, o, none⟩) ∧ (∀ b o, b < W.heap.size → w1.frozen? ⟨b, o, none⟩ = W.frozen? ⟨b, o, none⟩) :=
 ⟨fun b o h => hb.cell (p := ⟨b, o, none⟩) h, fun b o h => hb.frozen (p := ⟨b, o, none⟩) h⟩
theorem Gl.alloc {w : World} (h : Gl w) (o : Obj) : Gl (w.alloc o) := h.below ((Below.refl w.heap.size w).alloc (Nat.le_refl _) o) h.two
end Go.Proofs.YtmhpaacjioeknaaGreat
namespace Go.Proofs.YtmhpaacjioeknaaGreat
open Go.RowKit
theorem run_take (p : Int → Bool) : ∀ l : List UInt8, ∀ b ∈ l.take (Tx.run p l), p (b.toNat : Int) = true
 | [], b, h => by simp at h
 | a :: l, b, h => by
  by_cases ha : p (a.toNat : Int) = true
  ·simp only [Tx.run, ha, if_true, List.take_succ_cons, List.mem_cons] at h
   rcases h with rfl | h
   ·exact ha
   ·exact run_take p l b h
  ·simp only [Tx.run, ha, Bool.false_eq_true, if_false, List.take_zero, List.not_mem_nil] at h
theorem wend_part (p : Int → Bool) (s : ByteArray) (i : Nat) : (s.extract i (Tx.wend p s i)).data.toList = (s.data.toList.drop i).take (Tx.run p (s.data.toList.drop i)) := by
 rw [part_list]; unfold Tx.wend; rw [show i + Tx.run p (s.data.toList.drop i) - i = Tx.run p (s.data.toList.drop i) by omega]
theorem digs_part (s : ByteArray) (i : Nat) : digs (s.extract i (Tx.wend Tx.dgt s i)).data.toList := by
 rw [wend_part]; exact run_take Tx.dgt _
theorem part_size (s : ByteArray) (a b : Nat) (hb : b ≤ s.size) : (s.extract a b).size = b - a := by
 rw [ByteArray.size_extract]; omega
end Go.Proofs.YtmhpaacjioeknaaGreat
namespace Go.Proofs.YtmhpaacjioeknaaGreat
open Go.RowKit
end Go.Proofs.YtmhpaacjioeknaaGreat
namespace Go.Proofs.YtmhpaacjioeknaaGreat
open Go.RowKit
def sgL : List Int := [123, 125, 40, 41, 59, 44, 42, 61, 60, 43, 45, 63]
def sgAt (k : Nat) : Int := sgL.getD k 0
theorem one_hit (c : Int) (k : Nat) (hk : k < 12) (h : (sgAt k == c) = true) : Tx.one c = true := by
 rw [beq_iff_eq] at h
 subst h
 rcases (show k = 0 ∨ k = 1 ∨ k = 2 ∨ k = 3 ∨ k = 4 ∨ k = 5 ∨ k = 6 ∨ k = 7 ∨ k = 8 ∨ k = 9 ∨ k = 10 ∨ k = 11 by omega) with rfl | rfl | rfl | rfl | rfl | rfl | rfl | rfl | rfl | rfl | rfl | rfl <;> rfl
theorem one_miss (c : Int) (h : ∀ k, k < 12 → (sgAt k == c) = false) : Tx.one c = false := by
 have h' : ∀ k, k < 12 → sgAt k ≠ c := fun k hk e => by have := h k hk; rw [e] at this; simp at this
 have a0 := h' 0 (by decide); have a1 := h' 1 (by decide); have a2 := h' 2 (by decide); have a3 := h' 3 (by decide)
 have a4 := h' 4 (by decide); have a5 := h' 5 (by decide); have a6 := h' 6 (by decide); have a7 := h' 7 (by decide)
 have a8 := h' 8 (by decide); have a9 := h' 9 (by decide); have a10 := h' 10 (by decide); have a11 := h' 11 (by decide)
 simp only [sgAt, sgL, List.getD_cons_zero, List.getD_cons_succ] at a0 a1 a2 a3 a4 a5 a6 a7 a8 a9 a10 a11
 unfold Tx.one
 rw [decide_eq_false_iff_not]
 omega
theorem sg_index : ∀ k : Nat, k < 12 → ∀ w : World, (Instr.index 9 (.string ⟨#[123, 125, 40, 41, 59, 44, 42, 61, 60, 43, 45, 63]⟩) (.int .i64 (k : Int))).run Tryz.prog w = .ok (.int .u8 (sgAt k)) w := by
 have x0 : ∀ w : World, (Instr.index 9 (.string ⟨#[123, 125, 40, 41, 59, 44, 42, 61, 60, 43, 45, 63]⟩) (.int .i64 ((0 : Nat) : Int))).run Tryz.prog w = .ok (.int .u8 (sgAt 0)) w := fun _ => by kernel_rfl
 have x1 : ∀ w : World, (Instr.index 9 (.string ⟨#[123, 125, 40, 41, 59, 44, 42, 61, 60, 43, 45, 63]⟩) (.int .i64 ((1 : Nat) : Int))).run Tryz.prog w = .ok (.int .u8 (sgAt 1)) w := fun _ => by kernel_rfl
 have x2 : ∀ w : World, (Instr.index 9 (.string ⟨#[123, 125, 40, 41, 59, 44, 42, 61, 60, 43, 45, 63]⟩) (.int .i64 ((2 : Nat) : Int))).run Tryz.prog w = .ok (.int .u8 (sgAt 2)) w := fun _ => by kernel_rfl
 have x3 : ∀ w : World, (Instr.index 9 (.string ⟨#[123, 125, 40, 41, 59, 44, 42, 61, 60, 43, 45, 63]⟩) (.int .i64 ((3 : Nat) : Int))).run Tryz.prog w = .ok (.int .u8 (sgAt 3)) w := fun _ => by kernel_rfl
 have x4 : ∀ w : World, (Instr.index 9 (.string ⟨#[123, 125, 40, 41, 59, 44, 42, 61, 60, 43, 45, 63]⟩) (.int .i64 ((4 : Nat) : Int))).run Tryz.prog w = .ok (.int .u8 (sgAt 4)) w := fun _ => by kernel_rfl
 have x5 : ∀ w : World, (Instr.index 9 (.string ⟨#[123, 125, 40, 41, 59, 44, 42, 61, 60, 43, 45, 63]⟩) (.int .i64 ((5 : Nat) : Int))).run Tryz.prog w = .ok (.int .u8 (sgAt 5)) w := fun _ => by kernel_rfl
 have x6 : ∀ w : World, (Instr.index 9 (.string ⟨#[123, 125, 40, 41, 59, 44, 42, 61, 60, 43, 45, 63]⟩) (.int .i64 ((6 : Nat) : Int))).run Tryz.prog w = .ok (.int .u8 (sgAt 6)) w := fun _ => by kernel_rfl
 have x7 : ∀ w : World, (Instr.index 9 (.string ⟨#[123, 125, 40, 41, 59, 44, 42, 61, 60, 43, 45, 63]⟩) (.int .i64 ((7 : Nat) : Int))).run Tryz.prog w = .ok (.int .u8 (sgAt 7)) w := fun _ => by kernel_rfl
 have x8 : ∀ w : World, (Instr.index 9 (.string ⟨#[123, 125, 40, 41, 59, 44, 42, 61, 60, 43, 45, 63]⟩) (.int .i64 ((8 : Nat) : Int))).run Tryz.prog w = .ok (.int .u8 (sgAt 8)) w := fun _ => by kernel_rfl
 have x9 : ∀ w : World, (Instr.index 9 (.string ⟨#[123, 125, 40, 41, 59, 44, 42, 61, 60, 43, 45, 63]⟩) (.int .i64 ((9 : Nat) : Int))).run Tryz.prog w = .ok (.int .u8 (sgAt 9)) w := fun _ => by kernel_rfl
 have x10 : ∀ w : World, (Instr.index 9 (.string ⟨#[123, 125, 40, 41, 59, 44, 42, 61, 60, 43, 45, 63]⟩) (.int .i64 ((10 : Nat) : Int))).run Tryz.prog w = .ok (.int .u8 (sgAt 10)) w := fun _ => by kernel_rfl
 have x11 : ∀ w : World, (Instr.index 9 (.string ⟨#[123, 125, 40, 41, 59, 44, 42, 61, 60, 43, 45, 63]⟩) (.int .i64 ((11 : Nat) : Int))).run Tryz.prog w = .ok (.int .u8 (sgAt 11)) w := fun _ => by kernel_rfl
 intro k hk w
 rcases (show k = 0 ∨ k = 1 ∨ k = 2 ∨ k = 3 ∨ k = 4 ∨ k = 5 ∨ k = 6 ∨ k = 7 ∨ k = 8 ∨ k = 9 ∨ k = 10 ∨ k = 11 by omega) with rfl | rfl | rfl | rfl | rfl | rfl | rfl | rfl | rfl | rfl | rfl | rfl
 ·exact x0 w
 ·exact x1 w
 ·exact x2 w
 ·exact x3 w
 ·exact x4 w
 ·exact x5 w
 ·exact x6 w
 ·exact x7 w
 ·exact x8 w
 ·exact x9 w
 ·exact x10 w
 ·exact x11 w
/-- Two bytes of a text. -/
theorem two_bytes (s : ByteArray) (i : Nat) (h : i + 1 < s.size) : (s.extract i (i + 2)).toList = [s[i], s[i + 1]] := by
 rw [Lib.extract_toList, Tx.drop_at s i (by omega), Tx.drop_at s (i + 1) h]
 rw [show i + 2 - i = 2 by omega]; rfl
theorem bytes_is (s : ByteArray) (i : Nat) (h : i + 1 < s.size) (a b : UInt8) : ((s.extract i (i + 2)).toList == [a, b]) = decide ((s[i].toNat : Int) = a.toNat ∧ (s[i + 1].toNat : Int) = b.toNat) := by
 rw [two_bytes s i h, Bool.eq_iff_iff, beq_iff_eq, decide_eq_true_iff]
 simp only [List.cons.injEq, and_true]
 constructor
 ·rintro ⟨e1, e2⟩; rw [e1, e2]; exact ⟨rfl, rfl⟩
 ·rintro ⟨e1, e2⟩; exact ⟨UInt8.toNat_inj.1 (by omega), UInt8.toNat_inj.1 (by omega)⟩
theorem two_case (s : ByteArray) (i : Nat) (h : i + 1 < s.size) :
  (Tx.two s[i].toNat s[i + 1].toNat = true ∧ (((s.extract i (i + 2)).toList == [45, 62]) = true ∨ (((s.extract i (i + 2)).toList == [45, 62]) = false ∧ ((s.extract i (i + 2)).toList == [61, 61]) = true) ∨
   (((s.extract i (i + 2)).toList == [45, 62]) = false ∧ ((s.extract i (i + 2)).toList == [61, 61]) = false ∧ ((s.extract i (i + 2)).toList == [33, 61]) = true) ∨
   (((s.extract i (i + 2)).toList == [45, 62]) = false ∧ ((s.extract i (i + 2)).toList == [61, 61]) = false ∧ ((s.extract i (i + 2)).toList == [33, 61]) = false ∧ ((s.extract i (i + 2)).toList == [62, 61]) = true))) ∨
  (Tx.two s[i].toNat s[i + 1].toNat = false ∧ ((s.extract i (i + 2)).toList == [45, 62]) = false ∧ ((s.extract i (i + 2)).toList == [61, 61]) = false ∧ ((s.extract i (i + 2)).toList == [33, 61]) = false ∧ ((s.extract i (i + 2)).toList == [62, 61]) = false) := by
 rw [bytes_is s i h 45 62, bytes_is s i h 61 61, bytes_is s i h 33 61, bytes_is s i h 62 61]
 unfold Tx.two
 simp only [decide_eq_true_iff, decide_eq_false_iff_not, show (45 : UInt8).toNat = 45 from rfl, show (62 : UInt8).toNat = 62 from rfl, show (61 : UInt8).toNat = 61 from rfl, show (33 : UInt8).toNat = 33 from rfl]
 omega
theorem refMark_any (s : ByteArray) (i : Nat) (w : World) (hs : s.size ≤ 5000000) (hi : i < s.size) :
  Calls Tryz.prog 81 #[.string s, .int .i64 i] w fun e w' => e = .returned (.int .i64 (Tx.mrk s i)) ∧ ∃ m, w' = w.drewN m := by
 generalize hmm : Tx.mrk s i = mm
 have HMM := hdn hmm
 clear hmm
 by_cases h1 : i + 1 < s.size
 ·rcases two_case s i h1 with ⟨h2, hq⟩ | ⟨h2, q1, q2, q3, q4⟩
  ·have HM := hdn (Tx.mrk_two s i h1 h2)
   clear h2
   rcases hq with q1 | ⟨q1, q2⟩ | ⟨q1, q2, q3⟩ | ⟨q1, q2, q3, q4⟩
   all_goals
    go_enter Tryz.func81, Tryz.ntmps81
    go_wp2_with fail
    go_ret
    exact ⟨lret_int (by rw [← HMM.out, HM.out]; rfl), 0, rfl⟩
  ·have HM := hdn (Tx.mrk_one s i hi (fun _ => h2))
   clear h2
   go_enter Tryz.func81, Tryz.ntmps81
   go_wp2_with fail
   clear q1 q2 q3 q4
   go_loopw [7] (fun v wr => ∃ k : Nat, k ≤ 12 ∧ v = .int .i64 k ∧ (∃ m, wr = w.drewN m) ∧ Hid (∀ j, j < k → (sgAt j == (s[i].toNat : Int)) = false)) (fun v _ => 12 - (Lib.intOf v).toNat)
   case atStart => exact ⟨0, Nat.zero_le _, rfl, ⟨0, rfl⟩, hdn (fun j hj => absurd hj (by omega))⟩
   case round =>
    obtain ⟨k, hk, rfl, ⟨m, rfl⟩, HR⟩ := hrel
    by_cases hlt : k < 12
    ·have hx := sg_index k hlt
     cases he : (sgAt k == (s[i].toNat : Int))
     ·have HE := hdn he
      go_wp2_with fail
      go_quiet (fail)
      go_wp2_with fail
      go_roundw
      case rel => exact ⟨k + 1, by omega, by go_num, ⟨_, rfl⟩, hdn (fun j hj => by
       rcases Nat.lt_or_ge j k with h | h
       ·exact HR.out j h
       ·obtain rfl : j = k := by omega
        exact HE.out)⟩
      case measure => simp [Lib.intOf]; omega
     ·have HE := hdn he
      go_wp2_with fail
      go_quiet (fail)
      go_wp2_with fail
      go_ret
      exact ⟨lret_int (by rw [← HMM.out, HM.out, one_hit _ k hlt HE.out]; rfl), _, World.drewN_drewN _ _ _⟩
    ·go_wp2_with fail
     go_ret
     exact ⟨lret_int (by rw [← HMM.out, HM.out, one_miss _ (fun j hj => HR.out j (by omega))]; rfl), _, rfl⟩
 ·have HM := hdn (Tx.mrk_one s i hi (fun h => absurd h h1))
  go_enter Tryz.func81, Tryz.ntmps81
  go_wp2_with fail
  go_loopw [7] (fun v wr => ∃ k : Nat, k ≤ 12 ∧ v = .int .i64 k ∧ (∃ m, wr = w.drewN m) ∧ Hid (∀ j, j < k → (sgAt j == (s[i].toNat : Int)) = false)) (fun v _ => 12 - (Lib.intOf v).toNat)
  case atStart => exact ⟨0, Nat.zero_le _, rfl, ⟨0, rfl⟩, hdn (fun j hj => absurd hj (by omega))⟩
  case round =>
   obtain ⟨k, hk, rfl, ⟨m, rfl⟩, HR⟩ := hrel
   by_cases hlt : k < 12
   ·have hx := sg_index k hlt
    cases he : (sgAt k == (s[i].toNat : Int))
    ·have HE := hdn he
     go_wp2_with fail
     go_quiet (fail)
     go_wp2_with fail
     go_roundw
     case rel => exact ⟨k + 1, by omega, by go_num, ⟨_, rfl⟩, hdn (fun j hj => by
      rcases Nat.lt_or_ge j k with h | h
      ·exact HR.out j h
      ·obtain rfl : j = k := by omega
       exact HE.out)⟩
     case measure => simp [Lib.intOf]; omega
    ·have HE := hdn he
     go_wp2_with fail
     go_quiet (fail)
     go_wp2_with fail
     go_ret
     exact ⟨lret_int (by rw [← HMM.out, HM.out, one_hit _ k hlt HE.out]; rfl), _, World.drewN_drewN _ _ _⟩
   ·go_wp2_with fail
    go_ret
    exact ⟨lret_int (by rw [← HMM.out, HM.out, one_miss _ (fun j hj => HR.out j (by omega))]; rfl), _, rfl⟩
end Go.Proofs.YtmhpaacjioeknaaGreat
namespace Go.Proofs.YtmhpaacjioeknaaGreat
open Go.RowKit
theorem Tx.empty_of (s : ByteArray) (h : s.size = 0) : s = ByteArray.empty := ByteArray.size_eq_zero_iff.1 h
/-- A place held from nought to the text's end. -/
def held (s : ByteArray) (i : Int) : Nat := if i < 0 then 0 else if s.size < i then s.size else i.toNat
theorem held_le (s : ByteArray) (i : Int) : held s i ≤ s.size := by unfold held; split; omega; split <;> omega
theorem held_of (s : ByteArray) (k : Nat) (h : k ≤ s.size) : held s k = k := by unfold held; rw [if_neg (by omega), if_neg (by omega)]; rfl
theorem max_min (s : ByteArray) (i : Int) : max 0 (min i (s.size : Int)) = (held s i : Nat) := by unfold held; split; omega; split <;> omega
theorem blankHeld_any (s : ByteArray) (i : Int) (w : World) (hs : s.size ≤ 5000000) :
  Calls Tryz.prog 77 #[.string s, .int .i64 (max 0 (min i (s.size : Int)))] w fun e w' => e = .returned (.int .i64 (Tx.skp s (held s i))) ∧ w = w' := by
 rw [max_min]; exact blank_any s _ w hs (held_le s i)
theorem cut_none (s : ByteArray) (k : Nat) : s.extract k k = ByteArray.empty := by
 apply Tx.empty_of; rw [ByteArray.size_extract]; omega
theorem tok_end (s : ByteArray) (k : Nat) (h : ¬ k < s.size) : Tx.tok s k = Tx.An.bad k 0 := by unfold Tx.tok; rw [dif_neg h]
theorem tok_word (s : ByteArray) (k : Nat) (h : k < s.size) (hl : Tx.ltr (s[k].toNat : Int) = true) : Tx.tok s k = Tx.wordA s k := by unfold Tx.tok; rw [dif_pos h, hl]; rfl
theorem tok_num (s : ByteArray) (k : Nat) (h : k < s.size) (hl : Tx.ltr (s[k].toNat : Int) = false) (hd : Tx.dgt (s[k].toNat : Int) = true) : Tx.tok s k = Tx.numA s k := by unfold Tx.tok; rw [dif_pos h, hl, hd]; rfl
theorem tok_mark (s : ByteArray) (k : Nat) (h : k < s.size) (hl : Tx.ltr (s[k].toNat : Int) = false) (hd : Tx.dgt (s[k].toNat : Int) = false) : Tx.tok s k = Tx.markA s k := by unfold Tx.tok; rw [dif_pos h, hl, hd]; rfl
end Go.Proofs.YtmhpaacjioeknaaGreat
