/-
  The walks of the document's "may it be?": statements. The walks of the document's "may it be?": a call; any statement; lists.
-/
import Derived.Test.YtdlchhimkelinaaGreatDoorP08
import Derived.Test.YtdlchhimkelinaaGreatDoorP10
import Derived.Test.YtdlchhimkelinaaGreatDoorP07
set_option maxHeartbeats 6400000
set_option maxRecDepth 100000
namespace Go.Proofs.YtdlchhimkelinaaGreatDoor
open Go.RowKit Go.Sort
/-- A struct's value out of the middle of a block, its cells as an array, where the operation has a guard. -/
theorem wpList_load_arr_g {P : Program} {ops : Array Oper} {rest : List Oper} {op : Oper} {a : Act} {w : World} {Q : Exit → Act → World → Prop} (ty : TypeId) (x : Operand) (hw : Region.wanted op (yielded ops a.tmps) = true) (ho : op.op = .load ty x)
  (b o : Nat) (hx : a.eval x = .pointer (some ⟨b, o, none⟩)) (cs : Array Value) (d : TypeDesc) (hc : w.rangeAt b o cs.toList)
  (hu : P.underlying ty = some d) (hd : d.isRow = true) (hi : (P.info? ty).map (·.size) = some cs.size)
  (h : wpList P ops Q rest (a.put op.dst (.agg cs)) w) : wpList P ops Q (op :: rest) a w :=
 wpList_step fun K hK => by rw [if_pos hw]; exact wp_load_mid ty x ho b o hx cs.toList d hc hu hd (by simpa using hi) (hK _ _ (by simpa using h))
theorem stmt0 (x : It) (cx : Array Value) (hcx : cx = x.cells.toArray) (w : World) (rx : itLies w x) (k : x.h.kind = 0) (p1 : (x.h.place.name.toList == []) = true) (p2 : x.h.place.hops.l.length = 0) (ov : Pn.noVal x.h.value = true) (oc : Pn.noCond x.h.cond = true) (n1 : (x.h.name.toList == []) = true) (n2 : x.h.args.l.length = 0) (t0 : x.t.len = 0) (e0 : x.e.len = 0) (b0 : x.h.both = false) :
  Calls Tryz.prog 107 #[.agg cx] w fun e w' => e = .returned (.bool true) ∧ Below w.heap.size w w' := by
 have Z_k := hdn k
 clear k
 have Z_p1 := hdn p1
 clear p1
 have Z_p2 := hdn p2
 clear p2
 have Z_ov := hdn ov
 clear ov
 have Z_oc := hdn oc
 clear oc
 have Z_n1 := hdn n1
 clear n1
 have Z_n2 := hdn n2
 clear n2
 have Z_t0 := hdn t0
 clear t0
 have Z_e0 := hdn e0
 clear e0
 have Z_b0 := hdn b0
 clear b0
 obtain ⟨wA, hwA⟩ : ∃ wA : World, wA = w.alloc (.cells cx 54) := ⟨_, rfl⟩
 have HBA : Hid (Below w.heap.size w wA) := hdn (by rw [hwA]; exact (Below.refl _ _).alloc (Nat.le_refl _) _)
 have HR0 : Hid (wA.rangeAt w.heap.size 0 x.cells) := hdn (by rw [hwA]; exact range_blockS (by rw [← hcx]; exact heap_alloc_new _ _))
 have HIT : Hid (itLies wA x) := hdn (itLies_below rx HBA.out)
 have HCX := hdn hcx
 clear rx hcx
 go_enter Tryz.func107, Tryz.ntmps107
 go_upto_region 1 with fail
 rw [← hwA]
 clear hwA
 obtain ⟨A, hA⟩ : ∃ A, A = w.heap.size := ⟨_, rfl⟩
 rw [← hA] at HR0 ⊢
 clear hA
 have HC : Hid (∀ w', Below wA.heap.size wA w' → ∀ j v, x.cells[j]? = some v → w'.cell? ⟨A, j, none⟩ = some v) := hdn (fun w' hb j v hv => by have := rangeAt_below HR0.out hb j v hv; rwa [Nat.zero_add] at this)
 have k := Z_k.out
 have p1 := Z_p1.out
 have p2 := Z_p2.out
 have n1 := Z_n1.out
 have n2 := Z_n2.out
 have t0 := Z_t0.out
 have e0 := Z_e0.out
 have b0 := Z_b0.out
 have c0 : wA.cell? ⟨A, 0, none⟩ = some (.int .i64 x.h.kind) := HC.out wA (Below.refl _ _) 0 _ rfl
 have c2 : wA.cell? ⟨A, 2, none⟩ = some (.string x.h.place.name) := HC.out wA (Below.refl _ _) 2 _ rfl
 have c4 : wA.cell? ⟨A, 4, none⟩ = some (.slice x.h.place.hops.p x.h.place.hops.l.length x.h.place.hops.cap) := HC.out wA (Below.refl _ _) 4 _ rfl
 have c43 : wA.cell? ⟨A, 43, none⟩ = some (.string x.h.name) := HC.out wA (Below.refl _ _) 43 _ rfl
 have c44 : wA.cell? ⟨A, 44, none⟩ = some (.slice x.h.args.p x.h.args.l.length x.h.args.cap) := HC.out wA (Below.refl _ _) 44 _ rfl
 have c45 : wA.cell? ⟨A, 45, none⟩ = some (.slice x.tp x.t.len x.tc) := HC.out wA (Below.refl _ _) 45 _ rfl
 have c46 : wA.cell? ⟨A, 46, none⟩ = some (.slice x.ep x.e.len x.ec) := HC.out wA (Below.refl _ _) 46 _ rfl
 have c47 : wA.cell? ⟨A, 47, none⟩ = some (.bool x.h.both) := HC.out wA (Below.refl _ _) 47 _ rfl
 have HV : Hid (∀ w', Below wA.heap.size wA w' → w'.rangeAt A 5 (#[.int .i64 x.h.value.kind, .int .i64 x.h.value.pos, .string x.h.value.path.name, .int .i64 x.h.value.path.pos, .slice x.h.value.path.hops.p x.h.value.path.hops.l.length x.h.value.path.hops.cap, .string x.h.value.type, .string x.h.value.left.name, .int .i64 x.h.value.left.n, .int .i64 x.h.value.left.pos, .string x.h.value.right.name, .int .i64 x.h.value.right.n, .int .i64 x.h.value.right.pos] : Array Value).toList) := hdn (fun w' hb => by have := rangeAt_sub (rangeAt_below HR0.out hb) 5 12 rfl; rwa [Nat.zero_add] at this)
 have HD : Hid (∀ w', Below wA.heap.size wA w' → w'.rangeAt A 17 (#[.int .i64 x.h.cond.kind, .int .i64 x.h.cond.pos, .int .i64 x.h.cond.left.kind, .int .i64 x.h.cond.left.pos, .string x.h.cond.left.path.name, .int .i64 x.h.cond.left.path.pos, .slice x.h.cond.left.path.hops.p x.h.cond.left.path.hops.l.length x.h.cond.left.path.hops.cap, .string x.h.cond.left.type, .string x.h.cond.left.left.name, .int .i64 x.h.cond.left.left.n, .int .i64 x.h.cond.left.left.pos, .string x.h.cond.left.right.name, .int .i64 x.h.cond.left.right.n, .int .i64 x.h.cond.left.right.pos, .int .i64 x.h.cond.right.kind, .int .i64 x.h.cond.right.pos, .string x.h.cond.right.path.name, .int .i64 x.h.cond.right.path.pos, .slice x.h.cond.right.path.hops.p x.h.cond.right.path.hops.l.length x.h.cond.right.path.hops.cap, .string x.h.cond.right.type, .string x.h.cond.right.left.name, .int .i64 x.h.cond.right.left.n, .int .i64 x.h.cond.right.left.pos, .string x.h.cond.right.right.name, .int .i64 x.h.cond.right.right.n, .int .i64 x.h.cond.right.right.pos] : Array Value).toList) := hdn (fun w' hb => by have := rangeAt_sub (rangeAt_below HR0.out hb) 17 26 rfl; rwa [Nat.zero_add] at this)
 go_upto_region 3 with fail
 go_quiet (fail)
 have HBX := hdn (below_drewN_ (Below.refl wA.heap.size wA) nq)
 generalize wA.drewN nq = w2 at HBX ⊢
 clear c0
 clear c2
 clear c4
 clear c43
 clear c44
 clear c45
 clear c46
 clear c47
 have c0 : w2.cell? ⟨A, 0, none⟩ = some (.int .i64 x.h.kind) := HC.out w2 HBX.out 0 _ rfl
 go_wp2_with (first | ((with_reducible show wpList _ _ _ (Oper.mk (some 48) (Op.load 49 _) _ _ _ _ :: _) _ _); refine wpList_load_arr_g 49 (.tmp 47) rfl rfl A 5 rfl #[.int .i64 x.h.value.kind, .int .i64 x.h.value.pos, .string x.h.value.path.name, .int .i64 x.h.value.path.pos, .slice x.h.value.path.hops.p x.h.value.path.hops.l.length x.h.value.path.hops.cap, .string x.h.value.type, .string x.h.value.left.name, .int .i64 x.h.value.left.n, .int .i64 x.h.value.left.pos, .string x.h.value.right.name, .int .i64 x.h.value.right.n, .int .i64 x.h.value.right.pos] _ (HV.out _ HBX.out) Tryz.underlying49 rfl size52 ?_) | ((with_reducible show wpList _ _ _ (Oper.mk (some 53) (Op.load 51 _) _ _ _ _ :: _) _ _); refine wpList_load_arr_g 51 (.tmp 52) rfl rfl A 17 rfl #[.int .i64 x.h.cond.kind, .int .i64 x.h.cond.pos, .int .i64 x.h.cond.left.kind, .int .i64 x.h.cond.left.pos, .string x.h.cond.left.path.name, .int .i64 x.h.cond.left.path.pos, .slice x.h.cond.left.path.hops.p x.h.cond.left.path.hops.l.length x.h.cond.left.path.hops.cap, .string x.h.cond.left.type, .string x.h.cond.left.left.name, .int .i64 x.h.cond.left.left.n, .int .i64 x.h.cond.left.left.pos, .string x.h.cond.left.right.name, .int .i64 x.h.cond.left.right.n, .int .i64 x.h.cond.left.right.pos, .int .i64 x.h.cond.right.kind, .int .i64 x.h.cond.right.pos, .string x.h.cond.right.path.name, .int .i64 x.h.cond.right.path.pos, .slice x.h.cond.right.path.hops.p x.h.cond.right.path.hops.l.length x.h.cond.right.path.hops.cap, .string x.h.cond.right.type, .string x.h.cond.right.left.name, .int .i64 x.h.cond.right.left.n, .int .i64 x.h.cond.right.left.pos, .string x.h.cond.right.right.name, .int .i64 x.h.cond.right.right.n, .int .i64 x.h.cond.right.right.pos] _ (HD.out _ HB3.out) Tryz.underlying51 rfl size49 ?_) | (go_at_call 141; refine (zeroVal_any x.h.value _ ((hdLies_below HIT.out.1 HBX.out).2.1) Z_ov.out).mono ?_; rintro e w3 ⟨rfl, hb⟩; have HB3 := hdn (HBX.out.trans (hb.mono HBX.out.size)); clear hb) | (go_at_call 142; refine (zeroCond_any x.h.cond _ ((hdLies_below HIT.out.1 HB3.out).2.2.1) ((hdLies_below HIT.out.1 HB3.out).2.2.2.1) Z_oc.out).mono ?_; rintro e w4 ⟨rfl, hb⟩; have HB4 := hdn (HB3.out.trans (hb.mono HB3.out.size)); clear hb))
 go_ret
 exact ⟨rfl, HBA.out.trans (HB4.out.mono HBA.out.size)⟩
theorem stmt1 (x : It) (cx : Array Value) (hcx : cx = x.cells.toArray) (w : World) (rx : itLies w x) (k : x.h.kind = 1) (p1 : (x.h.place.name.toList == []) = false) (op : Pn.okPath x.h.place = true) (ov : Pn.okVal x.h.value = true) (oc : Pn.noCond x.h.cond = true) (n1 : (x.h.name.toList == []) = true) (n2 : x.h.args.l.length = 0) (t0 : x.t.len = 0) (e0 : x.e.len = 0) (b0 : x.h.both = false) :
  Calls Tryz.prog 107 #[.agg cx] w fun e w' => e = .returned (.bool true) ∧ Below w.heap.size w w' := by
 have Z_k := hdn k
 clear k
 have Z_p1 := hdn p1
 clear p1
 have Z_op := hdn op
 clear op
 have Z_ov := hdn ov
 clear ov
 have Z_oc := hdn oc
 clear oc
 have Z_n1 := hdn n1
 clear n1
 have Z_n2 := hdn n2
 clear n2
 have Z_t0 := hdn t0
 clear t0
 have Z_e0 := hdn e0
 clear e0
 have Z_b0 := hdn b0
 clear b0
 obtain ⟨wA, hwA⟩ : ∃ wA : World, wA = w.alloc (.cells cx 54) := ⟨_, rfl⟩
 have HBA : Hid (Below w.heap.size w wA) := hdn (by rw [hwA]; exact (Below.refl _ _).alloc (Nat.le_refl _) _)
 have HR0 : Hid (wA.rangeAt w.heap.size 0 x.cells) := hdn (by rw [hwA]; exact range_blockS (by rw [← hcx]; exact heap_alloc_new _ _))
 have HIT : Hid (itLies wA x) := hdn (itLies_below rx HBA.out)
 have HCX := hdn hcx
 clear rx hcx
 go_enter Tryz.func107, Tryz.ntmps107
 go_upto_region 1 with fail
 rw [← hwA]
 clear hwA
 obtain ⟨A, hA⟩ : ∃ A, A = w.heap.size := ⟨_, rfl⟩
 rw [← hA] at HR0 ⊢
 clear hA
 have HC : Hid (∀ w', Below wA.heap.size wA w' → ∀ j v, x.cells[j]? = some v → w'.cell? ⟨A, j, none⟩ = some v) := hdn (fun w' hb j v hv => by have := rangeAt_below HR0.out hb j v hv; rwa [Nat.zero_add] at this)
 have k := Z_k.out
 have p1 := Z_p1.out
 have n1 := Z_n1.out
 have n2 := Z_n2.out
 have t0 := Z_t0.out
 have e0 := Z_e0.out
 have b0 := Z_b0.out
 have c0 : wA.cell? ⟨A, 0, none⟩ = some (.int .i64 x.h.kind) := HC.out wA (Below.refl _ _) 0 _ rfl
 have c2 : wA.cell? ⟨A, 2, none⟩ = some (.string x.h.place.name) := HC.out wA (Below.refl _ _) 2 _ rfl
 have c4 : wA.cell? ⟨A, 4, none⟩ = some (.slice x.h.place.hops.p x.h.place.hops.l.length x.h.place.hops.cap) := HC.out wA (Below.refl _ _) 4 _ rfl
 have c43 : wA.cell? ⟨A, 43, none⟩ = some (.string x.h.name) := HC.out wA (Below.refl _ _) 43 _ rfl
 have c44 : wA.cell? ⟨A, 44, none⟩ = some (.slice x.h.args.p x.h.args.l.length x.h.args.cap) := HC.out wA (Below.refl _ _) 44 _ rfl
 have c45 : wA.cell? ⟨A, 45, none⟩ = some (.slice x.tp x.t.len x.tc) := HC.out wA (Below.refl _ _) 45 _ rfl
 have c46 : wA.cell? ⟨A, 46, none⟩ = some (.slice x.ep x.e.len x.ec) := HC.out wA (Below.refl _ _) 46 _ rfl
 have c47 : wA.cell? ⟨A, 47, none⟩ = some (.bool x.h.both) := HC.out wA (Below.refl _ _) 47 _ rfl
 have HV : Hid (∀ w', Below wA.heap.size wA w' → w'.rangeAt A 5 (#[.int .i64 x.h.value.kind, .int .i64 x.h.value.pos, .string x.h.value.path.name, .int .i64 x.h.value.path.pos, .slice x.h.value.path.hops.p x.h.value.path.hops.l.length x.h.value.path.hops.cap, .string x.h.value.type, .string x.h.value.left.name, .int .i64 x.h.value.left.n, .int .i64 x.h.value.left.pos, .string x.h.value.right.name, .int .i64 x.h.value.right.n, .int .i64 x.h.value.right.pos] : Array Value).toList) := hdn (fun w' hb => by have := rangeAt_sub (rangeAt_below HR0.out hb) 5 12 rfl; rwa [Nat.zero_add] at this)
 have HD : Hid (∀ w', Below wA.heap.size wA w' → w'.rangeAt A 17 (#[.int .i64 x.h.cond.kind, .int .i64 x.h.cond.pos, .int .i64 x.h.cond.left.kind, .int .i64 x.h.cond.left.pos, .string x.h.cond.left.path.name, .int .i64 x.h.cond.left.path.pos, .slice x.h.cond.left.path.hops.p x.h.cond.left.path.hops.l.length x.h.cond.left.path.hops.cap, .string x.h.cond.left.type, .string x.h.cond.left.left.name, .int .i64 x.h.cond.left.left.n, .int .i64 x.h.cond.left.left.pos, .string x.h.cond.left.right.name, .int .i64 x.h.cond.left.right.n, .int .i64 x.h.cond.left.right.pos, .int .i64 x.h.cond.right.kind, .int .i64 x.h.cond.right.pos, .string x.h.cond.right.path.name, .int .i64 x.h.cond.right.path.pos, .slice x.h.cond.right.path.hops.p x.h.cond.right.path.hops.l.length x.h.cond.right.path.hops.cap, .string x.h.cond.right.type, .string x.h.cond.right.left.name, .int .i64 x.h.cond.right.left.n, .int .i64 x.h.cond.right.left.pos, .string x.h.cond.right.right.name, .int .i64 x.h.cond.right.right.n, .int .i64 x.h.cond.right.right.pos] : Array Value).toList) := hdn (fun w' hb => by have := rangeAt_sub (rangeAt_below HR0.out hb) 17 26 rfl; rwa [Nat.zero_add] at this)
 go_upto_region 3 with fail
 go_quiet (fail)
 have HBX := hdn (below_drewN_ (Below.refl wA.heap.size wA) nq)
 generalize wA.drewN nq = w2 at HBX ⊢
 clear c0
 clear c2
 clear c4
 clear c43
 clear c44
 clear c45
 clear c46
 clear c47
 have c0 : w2.cell? ⟨A, 0, none⟩ = some (.int .i64 x.h.kind) := HC.out w2 HBX.out 0 _ rfl
 have c2 : w2.cell? ⟨A, 2, none⟩ = some (.string x.h.place.name) := HC.out w2 HBX.out 2 _ rfl
 have c3 : w2.cell? ⟨A, 3, none⟩ = some (.int .i64 x.h.place.pos) := HC.out w2 HBX.out 3 _ rfl
 have c4 : w2.cell? ⟨A, 4, none⟩ = some (.slice x.h.place.hops.p x.h.place.hops.l.length x.h.place.hops.cap) := HC.out w2 HBX.out 4 _ rfl
 go_wp2_with (first | ((with_reducible show wpList _ _ _ (Oper.mk (some 72) (Op.load 49 _) _ _ _ _ :: _) _ _); refine wpList_load_arr_g 49 (.tmp 71) rfl rfl A 5 rfl #[.int .i64 x.h.value.kind, .int .i64 x.h.value.pos, .string x.h.value.path.name, .int .i64 x.h.value.path.pos, .slice x.h.value.path.hops.p x.h.value.path.hops.l.length x.h.value.path.hops.cap, .string x.h.value.type, .string x.h.value.left.name, .int .i64 x.h.value.left.n, .int .i64 x.h.value.left.pos, .string x.h.value.right.name, .int .i64 x.h.value.right.n, .int .i64 x.h.value.right.pos] _ (HV.out _ HB3.out) Tryz.underlying49 rfl size52 ?_) | ((with_reducible show wpList _ _ _ (Oper.mk (some 77) (Op.load 51 _) _ _ _ _ :: _) _ _); refine wpList_load_arr_g 51 (.tmp 76) rfl rfl A 17 rfl #[.int .i64 x.h.cond.kind, .int .i64 x.h.cond.pos, .int .i64 x.h.cond.left.kind, .int .i64 x.h.cond.left.pos, .string x.h.cond.left.path.name, .int .i64 x.h.cond.left.path.pos, .slice x.h.cond.left.path.hops.p x.h.cond.left.path.hops.l.length x.h.cond.left.path.hops.cap, .string x.h.cond.left.type, .string x.h.cond.left.left.name, .int .i64 x.h.cond.left.left.n, .int .i64 x.h.cond.left.left.pos, .string x.h.cond.left.right.name, .int .i64 x.h.cond.left.right.n, .int .i64 x.h.cond.left.right.pos, .int .i64 x.h.cond.right.kind, .int .i64 x.h.cond.right.pos, .string x.h.cond.right.path.name, .int .i64 x.h.cond.right.path.pos, .slice x.h.cond.right.path.hops.p x.h.cond.right.path.hops.l.length x.h.cond.right.path.hops.cap, .string x.h.cond.right.type, .string x.h.cond.right.left.name, .int .i64 x.h.cond.right.left.n, .int .i64 x.h.cond.right.left.pos, .string x.h.cond.right.right.name, .int .i64 x.h.cond.right.right.n, .int .i64 x.h.cond.right.right.pos] _ (HD.out _ HB4.out) Tryz.underlying51 rfl size49 ?_) | (go_at_call 143; refine (okPath_any x.h.place _ (pthLies_of ((hdLies_below HIT.out.1 HBX.out).1)) Z_op.out).mono ?_; rintro e w3 ⟨rfl, hb⟩; have HB3 := hdn (HBX.out.trans (hb.mono HBX.out.size)); clear hb) | (go_at_call 144; refine (bare_any x.h.value _ ((hdLies_below HIT.out.1 HB3.out).2.1) Z_ov.out).mono ?_; rintro e w4 ⟨rfl, hb⟩; have HB4 := hdn (HB3.out.trans (hb.mono HB3.out.size)); clear hb) | (go_at_call 142; refine (zeroCond_any x.h.cond _ ((hdLies_below HIT.out.1 HB4.out).2.2.1) ((hdLies_below HIT.out.1 HB4.out).2.2.2.1) Z_oc.out).mono ?_; rintro e w5 ⟨rfl, hb⟩; have HB5 := hdn (HB4.out.trans (hb.mono HB4.out.size)); clear hb))
 go_ret
 exact ⟨rfl, HBA.out.trans (HB5.out.mono HBA.out.size)⟩
theorem stmt2 (x : It) (cx : Array Value) (hcx : cx = x.cells.toArray) (w : World) (rx : itLies w x) (k : x.h.kind = 2) (p1 : (x.h.place.name.toList == []) = false) (op : Pn.okPath x.h.place = true) (ov : Pn.noVal x.h.value = true) (oc : Pn.noCond x.h.cond = true) (n1 : (x.h.name.toList == []) = true) (n2 : x.h.args.l.length = 0) (t0 : x.t.len = 0) (e0 : x.e.len = 0) (b0 : x.h.both = false) :
  Calls Tryz.prog 107 #[.agg cx] w fun e w' => e = .returned (.bool true) ∧ Below w.heap.size w w' := by
 have Z_k := hdn k
 clear k
 have Z_p1 := hdn p1
 clear p1
 have Z_op := hdn op
 clear op
 have Z_ov := hdn ov
 clear ov
 have Z_oc := hdn oc
 clear oc
 have Z_n1 := hdn n1
 clear n1
 have Z_n2 := hdn n2
 clear n2
 have Z_t0 := hdn t0
 clear t0
 have Z_e0 := hdn e0
 clear e0
 have Z_b0 := hdn b0
 clear b0
 obtain ⟨wA, hwA⟩ : ∃ wA : World, wA = w.alloc (.cells cx 54) := ⟨_, rfl⟩
 have HBA : Hid (Below w.heap.size w wA) := hdn (by rw [hwA]; exact (Below.refl _ _).alloc (Nat.le_refl _) _)
 have HR0 : Hid (wA.rangeAt w.heap.size 0 x.cells) := hdn (by rw [hwA]; exact range_blockS (by rw [← hcx]; exact heap_alloc_new _ _))
 have HIT : Hid (itLies wA x) := hdn (itLies_below rx HBA.out)
 have HCX := hdn hcx
 clear rx hcx
 go_enter Tryz.func107, Tryz.ntmps107
 go_upto_region 1 with fail
 rw [← hwA]
 clear hwA
 obtain ⟨A, hA⟩ : ∃ A, A = w.heap.size := ⟨_, rfl⟩
 rw [← hA] at HR0 ⊢
 clear hA
 have HC : Hid (∀ w', Below wA.heap.size wA w' → ∀ j v, x.cells[j]? = some v → w'.cell? ⟨A, j, none⟩ = some v) := hdn (fun w' hb j v hv => by have := rangeAt_below HR0.out hb j v hv; rwa [Nat.zero_add] at this)
 have k := Z_k.out
 have p1 := Z_p1.out
 have n1 := Z_n1.out
 have n2 := Z_n2.out
 have t0 := Z_t0.out
 have e0 := Z_e0.out
 have b0 := Z_b0.out
 have c0 : wA.cell? ⟨A, 0, none⟩ = some (.int .i64 x.h.kind) := HC.out wA (Below.refl _ _) 0 _ rfl
 have c2 : wA.cell? ⟨A, 2, none⟩ = some (.string x.h.place.name) := HC.out wA (Below.refl _ _) 2 _ rfl
 have c4 : wA.cell? ⟨A, 4, none⟩ = some (.slice x.h.place.hops.p x.h.place.hops.l.length x.h.place.hops.cap) := HC.out wA (Below.refl _ _) 4 _ rfl
 have c43 : wA.cell? ⟨A, 43, none⟩ = some (.string x.h.name) := HC.out wA (Below.refl _ _) 43 _ rfl
 have c44 : wA.cell? ⟨A, 44, none⟩ = some (.slice x.h.args.p x.h.args.l.length x.h.args.cap) := HC.out wA (Below.refl _ _) 44 _ rfl
 have c45 : wA.cell? ⟨A, 45, none⟩ = some (.slice x.tp x.t.len x.tc) := HC.out wA (Below.refl _ _) 45 _ rfl
 have c46 : wA.cell? ⟨A, 46, none⟩ = some (.slice x.ep x.e.len x.ec) := HC.out wA (Below.refl _ _) 46 _ rfl
 have c47 : wA.cell? ⟨A, 47, none⟩ = some (.bool x.h.both) := HC.out wA (Below.refl _ _) 47 _ rfl
 have HV : Hid (∀ w', Below wA.heap.size wA w' → w'.rangeAt A 5 (#[.int .i64 x.h.value.kind, .int .i64 x.h.value.pos, .string x.h.value.path.name, .int .i64 x.h.value.path.pos, .slice x.h.value.path.hops.p x.h.value.path.hops.l.length x.h.value.path.hops.cap, .string x.h.value.type, .string x.h.value.left.name, .int .i64 x.h.value.left.n, .int .i64 x.h.value.left.pos, .string x.h.value.right.name, .int .i64 x.h.value.right.n, .int .i64 x.h.value.right.pos] : Array Value).toList) := hdn (fun w' hb => by have := rangeAt_sub (rangeAt_below HR0.out hb) 5 12 rfl; rwa [Nat.zero_add] at this)
 have HD : Hid (∀ w', Below wA.heap.size wA w' → w'.rangeAt A 17 (#[.int .i64 x.h.cond.kind, .int .i64 x.h.cond.pos, .int .i64 x.h.cond.left.kind, .int .i64 x.h.cond.left.pos, .string x.h.cond.left.path.name, .int .i64 x.h.cond.left.path.pos, .slice x.h.cond.left.path.hops.p x.h.cond.left.path.hops.l.length x.h.cond.left.path.hops.cap, .string x.h.cond.left.type, .string x.h.cond.left.left.name, .int .i64 x.h.cond.left.left.n, .int .i64 x.h.cond.left.left.pos, .string x.h.cond.left.right.name, .int .i64 x.h.cond.left.right.n, .int .i64 x.h.cond.left.right.pos, .int .i64 x.h.cond.right.kind, .int .i64 x.h.cond.right.pos, .string x.h.cond.right.path.name, .int .i64 x.h.cond.right.path.pos, .slice x.h.cond.right.path.hops.p x.h.cond.right.path.hops.l.length x.h.cond.right.path.hops.cap, .string x.h.cond.right.type, .string x.h.cond.right.left.name, .int .i64 x.h.cond.right.left.n, .int .i64 x.h.cond.right.left.pos, .string x.h.cond.right.right.name, .int .i64 x.h.cond.right.right.n, .int .i64 x.h.cond.right.right.pos] : Array Value).toList) := hdn (fun w' hb => by have := rangeAt_sub (rangeAt_below HR0.out hb) 17 26 rfl; rwa [Nat.zero_add] at this)
 go_upto_region 3 with fail
 go_quiet (fail)
 have HBX := hdn (below_drewN_ (Below.refl wA.heap.size wA) nq)
 generalize wA.drewN nq = w2 at HBX ⊢
 clear c0
 clear c2
 clear c4
 clear c43
 clear c44
 clear c45
 clear c46
 clear c47
 have c0 : w2.cell? ⟨A, 0, none⟩ = some (.int .i64 x.h.kind) := HC.out w2 HBX.out 0 _ rfl
 have c2 : w2.cell? ⟨A, 2, none⟩ = some (.string x.h.place.name) := HC.out w2 HBX.out 2 _ rfl
 have c3 : w2.cell? ⟨A, 3, none⟩ = some (.int .i64 x.h.place.pos) := HC.out w2 HBX.out 3 _ rfl
 have c4 : w2.cell? ⟨A, 4, none⟩ = some (.slice x.h.place.hops.p x.h.place.hops.l.length x.h.place.hops.cap) := HC.out w2 HBX.out 4 _ rfl
 go_wp2_with (first | ((with_reducible show wpList _ _ _ (Oper.mk (some 96) (Op.load 49 _) _ _ _ _ :: _) _ _); refine wpList_load_arr_g 49 (.tmp 95) rfl rfl A 5 rfl #[.int .i64 x.h.value.kind, .int .i64 x.h.value.pos, .string x.h.value.path.name, .int .i64 x.h.value.path.pos, .slice x.h.value.path.hops.p x.h.value.path.hops.l.length x.h.value.path.hops.cap, .string x.h.value.type, .string x.h.value.left.name, .int .i64 x.h.value.left.n, .int .i64 x.h.value.left.pos, .string x.h.value.right.name, .int .i64 x.h.value.right.n, .int .i64 x.h.value.right.pos] _ (HV.out _ HB3.out) Tryz.underlying49 rfl size52 ?_) | ((with_reducible show wpList _ _ _ (Oper.mk (some 101) (Op.load 51 _) _ _ _ _ :: _) _ _); refine wpList_load_arr_g 51 (.tmp 100) rfl rfl A 17 rfl #[.int .i64 x.h.cond.kind, .int .i64 x.h.cond.pos, .int .i64 x.h.cond.left.kind, .int .i64 x.h.cond.left.pos, .string x.h.cond.left.path.name, .int .i64 x.h.cond.left.path.pos, .slice x.h.cond.left.path.hops.p x.h.cond.left.path.hops.l.length x.h.cond.left.path.hops.cap, .string x.h.cond.left.type, .string x.h.cond.left.left.name, .int .i64 x.h.cond.left.left.n, .int .i64 x.h.cond.left.left.pos, .string x.h.cond.left.right.name, .int .i64 x.h.cond.left.right.n, .int .i64 x.h.cond.left.right.pos, .int .i64 x.h.cond.right.kind, .int .i64 x.h.cond.right.pos, .string x.h.cond.right.path.name, .int .i64 x.h.cond.right.path.pos, .slice x.h.cond.right.path.hops.p x.h.cond.right.path.hops.l.length x.h.cond.right.path.hops.cap, .string x.h.cond.right.type, .string x.h.cond.right.left.name, .int .i64 x.h.cond.right.left.n, .int .i64 x.h.cond.right.left.pos, .string x.h.cond.right.right.name, .int .i64 x.h.cond.right.right.n, .int .i64 x.h.cond.right.right.pos] _ (HD.out _ HB4.out) Tryz.underlying51 rfl size49 ?_) | (go_at_call 143; refine (okPath_any x.h.place _ (pthLies_of ((hdLies_below HIT.out.1 HBX.out).1)) Z_op.out).mono ?_; rintro e w3 ⟨rfl, hb⟩; have HB3 := hdn (HBX.out.trans (hb.mono HBX.out.size)); clear hb) | (go_at_call 141; refine (zeroVal_any x.h.value _ ((hdLies_below HIT.out.1 HB3.out).2.1) Z_ov.out).mono ?_; rintro e w4 ⟨rfl, hb⟩; have HB4 := hdn (HB3.out.trans (hb.mono HB3.out.size)); clear hb) | (go_at_call 142; refine (zeroCond_any x.h.cond _ ((hdLies_below HIT.out.1 HB4.out).2.2.1) ((hdLies_below HIT.out.1 HB4.out).2.2.2.1) Z_oc.out).mono ?_; rintro e w5 ⟨rfl, hb⟩; have HB5 := hdn (HB4.out.trans (hb.mono HB4.out.size)); clear hb))
 go_ret
 exact ⟨rfl, HBA.out.trans (HB5.out.mono HBA.out.size)⟩
theorem stmt4a (x : It) (cx : Array Value) (hcx : cx = x.cells.toArray) (w : World) (rx : itLies w x) (k : x.h.kind = 4) (p1 : (x.h.place.name.toList == []) = true) (p2 : x.h.place.hops.l.length = 0) (ov : Pn.noVal x.h.value = true) (oc : Pn.okCond x.h.cond = true) (n1 : (x.h.name.toList == []) = true) (n2 : x.h.args.l.length = 0) (e0 : x.e.len = 0) (b0 : x.h.both = true) :
  Calls Tryz.prog 107 #[.agg cx] w fun e w' => e = .returned (.bool true) ∧ Below w.heap.size w w' := by
 have Z_k := hdn k
 clear k
 have Z_p1 := hdn p1
 clear p1
 have Z_p2 := hdn p2
 clear p2
 have Z_ov := hdn ov
 clear ov
 have Z_oc := hdn oc
 clear oc
 have Z_n1 := hdn n1
 clear n1
 have Z_n2 := hdn n2
 clear n2
 have Z_e0 := hdn e0
 clear e0
 have Z_b0 := hdn b0
 clear b0
 obtain ⟨wA, hwA⟩ : ∃ wA : World, wA = w.alloc (.cells cx 54) := ⟨_, rfl⟩
 have HBA : Hid (Below w.heap.size w wA) := hdn (by rw [hwA]; exact (Below.refl _ _).alloc (Nat.le_refl _) _)
 have HR0 : Hid (wA.rangeAt w.heap.size 0 x.cells) := hdn (by rw [hwA]; exact range_blockS (by rw [← hcx]; exact heap_alloc_new _ _))
 have HIT : Hid (itLies wA x) := hdn (itLies_below rx HBA.out)
 have HCX := hdn hcx
 clear rx hcx
 go_enter Tryz.func107, Tryz.ntmps107
 go_upto_region 1 with fail
 rw [← hwA]
 clear hwA
 obtain ⟨A, hA⟩ : ∃ A, A = w.heap.size := ⟨_, rfl⟩
 rw [← hA] at HR0 ⊢
 clear hA
 have HC : Hid (∀ w', Below wA.heap.size wA w' → ∀ j v, x.cells[j]? = some v → w'.cell? ⟨A, j, none⟩ = some v) := hdn (fun w' hb j v hv => by have := rangeAt_below HR0.out hb j v hv; rwa [Nat.zero_add] at this)
 have k := Z_k.out
 have p1 := Z_p1.out
 have p2 := Z_p2.out
 have n1 := Z_n1.out
 have n2 := Z_n2.out
 have e0 := Z_e0.out
 have b0 := Z_b0.out
 have c0 : wA.cell? ⟨A, 0, none⟩ = some (.int .i64 x.h.kind) := HC.out wA (Below.refl _ _) 0 _ rfl
 have c2 : wA.cell? ⟨A, 2, none⟩ = some (.string x.h.place.name) := HC.out wA (Below.refl _ _) 2 _ rfl
 have c4 : wA.cell? ⟨A, 4, none⟩ = some (.slice x.h.place.hops.p x.h.place.hops.l.length x.h.place.hops.cap) := HC.out wA (Below.refl _ _) 4 _ rfl
 have c43 : wA.cell? ⟨A, 43, none⟩ = some (.string x.h.name) := HC.out wA (Below.refl _ _) 43 _ rfl
 have c44 : wA.cell? ⟨A, 44, none⟩ = some (.slice x.h.args.p x.h.args.l.length x.h.args.cap) := HC.out wA (Below.refl _ _) 44 _ rfl
 have c45 : wA.cell? ⟨A, 45, none⟩ = some (.slice x.tp x.t.len x.tc) := HC.out wA (Below.refl _ _) 45 _ rfl
 have c46 : wA.cell? ⟨A, 46, none⟩ = some (.slice x.ep x.e.len x.ec) := HC.out wA (Below.refl _ _) 46 _ rfl
 have c47 : wA.cell? ⟨A, 47, none⟩ = some (.bool x.h.both) := HC.out wA (Below.refl _ _) 47 _ rfl
 have HV : Hid (∀ w', Below wA.heap.size wA w' → w'.rangeAt A 5 (#[.int .i64 x.h.value.kind, .int .i64 x.h.value.pos, .string x.h.value.path.name, .int .i64 x.h.value.path.pos, .slice x.h.value.path.hops.p x.h.value.path.hops.l.length x.h.value.path.hops.cap, .string x.h.value.type, .string x.h.value.left.name, .int .i64 x.h.value.left.n, .int .i64 x.h.value.left.pos, .string x.h.value.right.name, .int .i64 x.h.value.right.n, .int .i64 x.h.value.right.pos] : Array Value).toList) := hdn (fun w' hb => by have := rangeAt_sub (rangeAt_below HR0.out hb) 5 12 rfl; rwa [Nat.zero_add] at this)
 have HD : Hid (∀ w', Below wA.heap.size wA w' → w'.rangeAt A 17 (#[.int .i64 x.h.cond.kind, .int .i64 x.h.cond.pos, .int .i64 x.h.cond.left.kind, .int .i64 x.h.cond.left.pos, .string x.h.cond.left.path.name, .int .i64 x.h.cond.left.path.pos, .slice x.h.cond.left.path.hops.p x.h.cond.left.path.hops.l.length x.h.cond.left.path.hops.cap, .string x.h.cond.left.type, .string x.h.cond.left.left.name, .int .i64 x.h.cond.left.left.n, .int .i64 x.h.cond.left.left.pos, .string x.h.cond.left.right.name, .int .i64 x.h.cond.left.right.n, .int .i64 x.h.cond.left.right.pos, .int .i64 x.h.cond.right.kind, .int .i64 x.h.cond.right.pos, .string x.h.cond.right.path.name, .int .i64 x.h.cond.right.path.pos, .slice x.h.cond.right.path.hops.p x.h.cond.right.path.hops.l.length x.h.cond.right.path.hops.cap, .string x.h.cond.right.type, .string x.h.cond.right.left.name, .int .i64 x.h.cond.right.left.n, .int .i64 x.h.cond.right.left.pos, .string x.h.cond.right.right.name, .int .i64 x.h.cond.right.right.n, .int .i64 x.h.cond.right.right.pos] : Array Value).toList) := hdn (fun w' hb => by have := rangeAt_sub (rangeAt_below HR0.out hb) 17 26 rfl; rwa [Nat.zero_add] at this)
 go_upto_region 3 with fail
 go_quiet (fail)
 have HBX := hdn (below_drewN_ (Below.refl wA.heap.size wA) nq)
 generalize wA.drewN nq = w2 at HBX ⊢
 clear c0
 clear c2
 clear c4
 clear c43
 clear c44
 clear c45
 clear c46
 clear c47
 have c0 : w2.cell? ⟨A, 0, none⟩ = some (.int .i64 x.h.kind) := HC.out w2 HBX.out 0 _ rfl
 go_wp2_with (first | ((with_reducible show wpList _ _ _ (Oper.mk (some 157) (Op.load 49 _) _ _ _ _ :: _) _ _); refine wpList_load_arr_g 49 (.tmp 156) rfl rfl A 5 rfl #[.int .i64 x.h.value.kind, .int .i64 x.h.value.pos, .string x.h.value.path.name, .int .i64 x.h.value.path.pos, .slice x.h.value.path.hops.p x.h.value.path.hops.l.length x.h.value.path.hops.cap, .string x.h.value.type, .string x.h.value.left.name, .int .i64 x.h.value.left.n, .int .i64 x.h.value.left.pos, .string x.h.value.right.name, .int .i64 x.h.value.right.n, .int .i64 x.h.value.right.pos] _ (HV.out _ HBX.out) Tryz.underlying49 rfl size52 ?_) | ((with_reducible show wpList _ _ _ (Oper.mk (some 162) (Op.load 51 _) _ _ _ _ :: _) _ _); refine wpList_load_arr_g 51 (.tmp 161) rfl rfl A 17 rfl #[.int .i64 x.h.cond.kind, .int .i64 x.h.cond.pos, .int .i64 x.h.cond.left.kind, .int .i64 x.h.cond.left.pos, .string x.h.cond.left.path.name, .int .i64 x.h.cond.left.path.pos, .slice x.h.cond.left.path.hops.p x.h.cond.left.path.hops.l.length x.h.cond.left.path.hops.cap, .string x.h.cond.left.type, .string x.h.cond.left.left.name, .int .i64 x.h.cond.left.left.n, .int .i64 x.h.cond.left.left.pos, .string x.h.cond.left.right.name, .int .i64 x.h.cond.left.right.n, .int .i64 x.h.cond.left.right.pos, .int .i64 x.h.cond.right.kind, .int .i64 x.h.cond.right.pos, .string x.h.cond.right.path.name, .int .i64 x.h.cond.right.path.pos, .slice x.h.cond.right.path.hops.p x.h.cond.right.path.hops.l.length x.h.cond.right.path.hops.cap, .string x.h.cond.right.type, .string x.h.cond.right.left.name, .int .i64 x.h.cond.right.left.n, .int .i64 x.h.cond.right.left.pos, .string x.h.cond.right.right.name, .int .i64 x.h.cond.right.right.n, .int .i64 x.h.cond.right.right.pos] _ (HD.out _ HB3.out) Tryz.underlying51 rfl size49 ?_) | (go_at_call 141; refine (zeroVal_any x.h.value _ ((hdLies_below HIT.out.1 HBX.out).2.1) Z_ov.out).mono ?_; rintro e w3 ⟨rfl, hb⟩; have HB3 := hdn (HBX.out.trans (hb.mono HBX.out.size)); have c46 : w3.cell? ⟨A, 46, none⟩ = some (.slice x.ep x.e.len x.ec) := HC.out w3 HB3.out 46 _ rfl; have c47 : w3.cell? ⟨A, 47, none⟩ = some (.bool x.h.both) := HC.out w3 HB3.out 47 _ rfl; clear hb) | (go_at_call 146; refine (cond_may x.h.cond _ ((hdLies_below HIT.out.1 HB3.out).2.2.1) ((hdLies_below HIT.out.1 HB3.out).2.2.2.1) Z_oc.out).mono ?_; rintro e w4 ⟨rfl, hb⟩; have HB4 := hdn (HB3.out.trans (hb.mono HB3.out.size)); have c46 : w4.cell? ⟨A, 46, none⟩ = some (.slice x.ep x.e.len x.ec) := HC.out w4 HB4.out 46 _ rfl; have c47 : w4.cell? ⟨A, 47, none⟩ = some (.bool x.h.both) := HC.out w4 HB4.out 47 _ rfl; clear hb))
 go_ret
 exact ⟨rfl, HBA.out.trans (HB4.out.mono HBA.out.size)⟩
theorem stmt4b (x : It) (cx : Array Value) (hcx : cx = x.cells.toArray) (w : World) (rx : itLies w x) (k : x.h.kind = 4) (p1 : (x.h.place.name.toList == []) = true) (p2 : x.h.place.hops.l.length = 0) (ov : Pn.noVal x.h.value = true) (oc : Pn.okCond x.h.cond = true) (n1 : (x.h.name.toList == []) = true) (n2 : x.h.args.l.length = 0) (e0 : x.e.len ≠ 0) (b0 : x.h.both = true) :
  Calls Tryz.prog 107 #[.agg cx] w fun e w' => e = .returned (.bool true) ∧ Below w.heap.size w w' := by
 have Z_k := hdn k
 clear k
 have Z_p1 := hdn p1
 clear p1
 have Z_p2 := hdn p2
 clear p2
 have Z_ov := hdn ov
 clear ov
 have Z_oc := hdn oc
 clear oc
 have Z_n1 := hdn n1
 clear n1
 have Z_n2 := hdn n2
 clear n2
 have Z_e0 := hdn e0
 clear e0
 have Z_b0 := hdn b0
 clear b0
 obtain ⟨wA, hwA⟩ : ∃ wA : World, wA = w.alloc (.cells cx 54) := ⟨_, rfl⟩
 have HBA : Hid (Below w.heap.size w wA) := hdn (by rw [hwA]; exact (Below.refl _ _).alloc (Nat.le_refl _) _)
 have HR0 : Hid (wA.rangeAt w.heap.size 0 x.cells) := hdn (by rw [hwA]; exact range_blockS (by rw [← hcx]; exact heap_alloc_new _ _))
 have HIT : Hid (itLies wA x) := hdn (itLies_below rx HBA.out)
 have HCX := hdn hcx
 clear rx hcx
 go_enter Tryz.func107, Tryz.ntmps107
 go_upto_region 1 with fail
 rw [← hwA]
 clear hwA
 obtain ⟨A, hA⟩ : ∃ A, A = w.heap.size := ⟨_, rfl⟩
 rw [← hA] at HR0 ⊢
 clear hA
 have HC : Hid (∀ w', Below wA.heap.size wA w' → ∀ j v, x.cells[j]? = some v → w'.cell? ⟨A, j, none⟩ = some v) := hdn (fun w' hb j v hv => by have := rangeAt_below HR0.out hb j v hv; rwa [Nat.zero_add] at this)
 have k := Z_k.out
 have p1 := Z_p1.out
 have p2 := Z_p2.out
 have n1 := Z_n1.out
 have n2 := Z_n2.out
 have e0 := Z_e0.out
 have b0 := Z_b0.out
 have c0 : wA.cell? ⟨A, 0, none⟩ = some (.int .i64 x.h.kind) := HC.out wA (Below.refl _ _) 0 _ rfl
 have c2 : wA.cell? ⟨A, 2, none⟩ = some (.string x.h.place.name) := HC.out wA (Below.refl _ _) 2 _ rfl
 have c4 : wA.cell? ⟨A, 4, none⟩ = some (.slice x.h.place.hops.p x.h.place.hops.l.length x.h.place.hops.cap) := HC.out wA (Below.refl _ _) 4 _ rfl
 have c43 : wA.cell? ⟨A, 43, none⟩ = some (.string x.h.name) := HC.out wA (Below.refl _ _) 43 _ rfl
 have c44 : wA.cell? ⟨A, 44, none⟩ = some (.slice x.h.args.p x.h.args.l.length x.h.args.cap) := HC.out wA (Below.refl _ _) 44 _ rfl
 have c45 : wA.cell? ⟨A, 45, none⟩ = some (.slice x.tp x.t.len x.tc) := HC.out wA (Below.refl _ _) 45 _ rfl
 have c46 : wA.cell? ⟨A, 46, none⟩ = some (.slice x.ep x.e.len x.ec) := HC.out wA (Below.refl _ _) 46 _ rfl
 have c47 : wA.cell? ⟨A, 47, none⟩ = some (.bool x.h.both) := HC.out wA (Below.refl _ _) 47 _ rfl
 have HV : Hid (∀ w', Below wA.heap.size wA w' → w'.rangeAt A 5 (#[.int .i64 x.h.value.kind, .int .i64 x.h.value.pos, .string x.h.value.path.name, .int .i64 x.h.value.path.pos, .slice x.h.value.path.hops.p x.h.value.path.hops.l.length x.h.value.path.hops.cap, .string x.h.value.type, .string x.h.value.left.name, .int .i64 x.h.value.left.n, .int .i64 x.h.value.left.pos, .string x.h.value.right.name, .int .i64 x.h.value.right.n, .int .i64 x.h.value.right.pos] : Array Value).toList) := hdn (fun w' hb => by have := rangeAt_sub (rangeAt_below HR0.out hb) 5 12 rfl; rwa [Nat.zero_add] at this)
 have HD : Hid (∀ w', Below wA.heap.size wA w' → w'.rangeAt A 17 (#[.int .i64 x.h.cond.kind, .int .i64 x.h.cond.pos, .int .i64 x.h.cond.left.kind, .int .i64 x.h.cond.left.pos, .string x.h.cond.left.path.name, .int .i64 x.h.cond.left.path.pos, .slice x.h.cond.left.path.hops.p x.h.cond.left.path.hops.l.length x.h.cond.left.path.hops.cap, .string x.h.cond.left.type, .string x.h.cond.left.left.name, .int .i64 x.h.cond.left.left.n, .int .i64 x.h.cond.left.left.pos, .string x.h.cond.left.right.name, .int .i64 x.h.cond.left.right.n, .int .i64 x.h.cond.left.right.pos, .int .i64 x.h.cond.right.kind, .int .i64 x.h.cond.right.pos, .string x.h.cond.right.path.name, .int .i64 x.h.cond.right.path.pos, .slice x.h.cond.right.path.hops.p x.h.cond.right.path.hops.l.length x.h.cond.right.path.hops.cap, .string x.h.cond.right.type, .string x.h.cond.right.left.name, .int .i64 x.h.cond.right.left.n, .int .i64 x.h.cond.right.left.pos, .string x.h.cond.right.right.name, .int .i64 x.h.cond.right.right.n, .int .i64 x.h.cond.right.right.pos] : Array Value).toList) := hdn (fun w' hb => by have := rangeAt_sub (rangeAt_below HR0.out hb) 17 26 rfl; rwa [Nat.zero_add] at this)
 go_upto_region 3 with fail
 go_quiet (fail)
 have HBX := hdn (below_drewN_ (Below.refl wA.heap.size wA) nq)
 generalize wA.drewN nq = w2 at HBX ⊢
 clear c0
 clear c2
 clear c4
 clear c43
 clear c44
 clear c45
 clear c46
 clear c47
 have c0 : w2.cell? ⟨A, 0, none⟩ = some (.int .i64 x.h.kind) := HC.out w2 HBX.out 0 _ rfl
 go_wp2_with (first | ((with_reducible show wpList _ _ _ (Oper.mk (some 157) (Op.load 49 _) _ _ _ _ :: _) _ _); refine wpList_load_arr_g 49 (.tmp 156) rfl rfl A 5 rfl #[.int .i64 x.h.value.kind, .int .i64 x.h.value.pos, .string x.h.value.path.name, .int .i64 x.h.value.path.pos, .slice x.h.value.path.hops.p x.h.value.path.hops.l.length x.h.value.path.hops.cap, .string x.h.value.type, .string x.h.value.left.name, .int .i64 x.h.value.left.n, .int .i64 x.h.value.left.pos, .string x.h.value.right.name, .int .i64 x.h.value.right.n, .int .i64 x.h.value.right.pos] _ (HV.out _ HBX.out) Tryz.underlying49 rfl size52 ?_) | ((with_reducible show wpList _ _ _ (Oper.mk (some 162) (Op.load 51 _) _ _ _ _ :: _) _ _); refine wpList_load_arr_g 51 (.tmp 161) rfl rfl A 17 rfl #[.int .i64 x.h.cond.kind, .int .i64 x.h.cond.pos, .int .i64 x.h.cond.left.kind, .int .i64 x.h.cond.left.pos, .string x.h.cond.left.path.name, .int .i64 x.h.cond.left.path.pos, .slice x.h.cond.left.path.hops.p x.h.cond.left.path.hops.l.length x.h.cond.left.path.hops.cap, .string x.h.cond.left.type, .string x.h.cond.left.left.name, .int .i64 x.h.cond.left.left.n, .int .i64 x.h.cond.left.left.pos, .string x.h.cond.left.right.name, .int .i64 x.h.cond.left.right.n, .int .i64 x.h.cond.left.right.pos, .int .i64 x.h.cond.right.kind, .int .i64 x.h.cond.right.pos, .string x.h.cond.right.path.name, .int .i64 x.h.cond.right.path.pos, .slice x.h.cond.right.path.hops.p x.h.cond.right.path.hops.l.length x.h.cond.right.path.hops.cap, .string x.h.cond.right.type, .string x.h.cond.right.left.name, .int .i64 x.h.cond.right.left.n, .int .i64 x.h.cond.right.left.pos, .string x.h.cond.right.right.name, .int .i64 x.h.cond.right.right.n, .int .i64 x.h.cond.right.right.pos] _ (HD.out _ HB3.out) Tryz.underlying51 rfl size49 ?_) | (go_at_call 141; refine (zeroVal_any x.h.value _ ((hdLies_below HIT.out.1 HBX.out).2.1) Z_ov.out).mono ?_; rintro e w3 ⟨rfl, hb⟩; have HB3 := hdn (HBX.out.trans (hb.mono HBX.out.size)); have c46 : w3.cell? ⟨A, 46, none⟩ = some (.slice x.ep x.e.len x.ec) := HC.out w3 HB3.out 46 _ rfl; have c47 : w3.cell? ⟨A, 47, none⟩ = some (.bool x.h.both) := HC.out w3 HB3.out 47 _ rfl; clear hb) | (go_at_call 146; refine (cond_may x.h.cond _ ((hdLies_below HIT.out.1 HB3.out).2.2.1) ((hdLies_below HIT.out.1 HB3.out).2.2.2.1) Z_oc.out).mono ?_; rintro e w4 ⟨rfl, hb⟩; have HB4 := hdn (HB3.out.trans (hb.mono HB3.out.size)); have c46 : w4.cell? ⟨A, 46, none⟩ = some (.slice x.ep x.e.len x.ec) := HC.out w4 HB4.out 46 _ rfl; have c47 : w4.cell? ⟨A, 47, none⟩ = some (.bool x.h.both) := HC.out w4 HB4.out 47 _ rfl; clear hb))
 go_ret
 exact ⟨rfl, HBA.out.trans (HB4.out.mono HBA.out.size)⟩
theorem stmt4c (x : It) (cx : Array Value) (hcx : cx = x.cells.toArray) (w : World) (rx : itLies w x) (k : x.h.kind = 4) (p1 : (x.h.place.name.toList == []) = true) (p2 : x.h.place.hops.l.length = 0) (ov : Pn.noVal x.h.value = true) (oc : Pn.okCond x.h.cond = true) (n1 : (x.h.name.toList == []) = true) (n2 : x.h.args.l.length = 0) (e0 : x.e.len = 0) (b0 : x.h.both = false) :
  Calls Tryz.prog 107 #[.agg cx] w fun e w' => e = .returned (.bool true) ∧ Below w.heap.size w w' := by
 have Z_k := hdn k
 clear k
 have Z_p1 := hdn p1
 clear p1
 have Z_p2 := hdn p2
 clear p2
 have Z_ov := hdn ov
 clear ov
 have Z_oc := hdn oc
 clear oc
 have Z_n1 := hdn n1
 clear n1
 have Z_n2 := hdn n2
 clear n2
 have Z_e0 := hdn e0
 clear e0
 have Z_b0 := hdn b0
 clear b0
 obtain ⟨wA, hwA⟩ : ∃ wA : World, wA = w.alloc (.cells cx 54) := ⟨_, rfl⟩
 have HBA : Hid (Below w.heap.size w wA) := hdn (by rw [hwA]; exact (Below.refl _ _).alloc (Nat.le_refl _) _)
 have HR0 : Hid (wA.rangeAt w.heap.size 0 x.cells) := hdn (by rw [hwA]; exact range_blockS (by rw [← hcx]; exact heap_alloc_new _ _))
 have HIT : Hid (itLies wA x) := hdn (itLies_below rx HBA.out)
 have HCX := hdn hcx
 clear rx hcx
 go_enter Tryz.func107, Tryz.ntmps107
 go_upto_region 1 with fail
 rw [← hwA]
 clear hwA
 obtain ⟨A, hA⟩ : ∃ A, A = w.heap.size := ⟨_, rfl⟩
 rw [← hA] at HR0 ⊢
 clear hA
 have HC : Hid (∀ w', Below wA.heap.size wA w' → ∀ j v, x.cells[j]? = some v → w'.cell? ⟨A, j, none⟩ = some v) := hdn (fun w' hb j v hv => by have := rangeAt_below HR0.out hb j v hv; rwa [Nat.zero_add] at this)
 have k := Z_k.out
 have p1 := Z_p1.out
 have p2 := Z_p2.out
 have n1 := Z_n1.out
 have n2 := Z_n2.out
 have e0 := Z_e0.out
 have b0 := Z_b0.out
 have c0 : wA.cell? ⟨A, 0, none⟩ = some (.int .i64 x.h.kind) := HC.out wA (Below.refl _ _) 0 _ rfl
 have c2 : wA.cell? ⟨A, 2, none⟩ = some (.string x.h.place.name) := HC.out wA (Below.refl _ _) 2 _ rfl
 have c4 : wA.cell? ⟨A, 4, none⟩ = some (.slice x.h.place.hops.p x.h.place.hops.l.length x.h.place.hops.cap) := HC.out wA (Below.refl _ _) 4 _ rfl
 have c43 : wA.cell? ⟨A, 43, none⟩ = some (.string x.h.name) := HC.out wA (Below.refl _ _) 43 _ rfl
 have c44 : wA.cell? ⟨A, 44, none⟩ = some (.slice x.h.args.p x.h.args.l.length x.h.args.cap) := HC.out wA (Below.refl _ _) 44 _ rfl
 have c45 : wA.cell? ⟨A, 45, none⟩ = some (.slice x.tp x.t.len x.tc) := HC.out wA (Below.refl _ _) 45 _ rfl
 have c46 : wA.cell? ⟨A, 46, none⟩ = some (.slice x.ep x.e.len x.ec) := HC.out wA (Below.refl _ _) 46 _ rfl
 have c47 : wA.cell? ⟨A, 47, none⟩ = some (.bool x.h.both) := HC.out wA (Below.refl _ _) 47 _ rfl
 have HV : Hid (∀ w', Below wA.heap.size wA w' → w'.rangeAt A 5 (#[.int .i64 x.h.value.kind, .int .i64 x.h.value.pos, .string x.h.value.path.name, .int .i64 x.h.value.path.pos, .slice x.h.value.path.hops.p x.h.value.path.hops.l.length x.h.value.path.hops.cap, .string x.h.value.type, .string x.h.value.left.name, .int .i64 x.h.value.left.n, .int .i64 x.h.value.left.pos, .string x.h.value.right.name, .int .i64 x.h.value.right.n, .int .i64 x.h.value.right.pos] : Array Value).toList) := hdn (fun w' hb => by have := rangeAt_sub (rangeAt_below HR0.out hb) 5 12 rfl; rwa [Nat.zero_add] at this)
 have HD : Hid (∀ w', Below wA.heap.size wA w' → w'.rangeAt A 17 (#[.int .i64 x.h.cond.kind, .int .i64 x.h.cond.pos, .int .i64 x.h.cond.left.kind, .int .i64 x.h.cond.left.pos, .string x.h.cond.left.path.name, .int .i64 x.h.cond.left.path.pos, .slice x.h.cond.left.path.hops.p x.h.cond.left.path.hops.l.length x.h.cond.left.path.hops.cap, .string x.h.cond.left.type, .string x.h.cond.left.left.name, .int .i64 x.h.cond.left.left.n, .int .i64 x.h.cond.left.left.pos, .string x.h.cond.left.right.name, .int .i64 x.h.cond.left.right.n, .int .i64 x.h.cond.left.right.pos, .int .i64 x.h.cond.right.kind, .int .i64 x.h.cond.right.pos, .string x.h.cond.right.path.name, .int .i64 x.h.cond.right.path.pos, .slice x.h.cond.right.path.hops.p x.h.cond.right.path.hops.l.length x.h.cond.right.path.hops.cap, .string x.h.cond.right.type, .string x.h.cond.right.left.name, .int .i64 x.h.cond.right.left.n, .int .i64 x.h.cond.right.left.pos, .string x.h.cond.right.right.name, .int .i64 x.h.cond.right.right.n, .int .i64 x.h.cond.right.right.pos] : Array Value).toList) := hdn (fun w' hb => by have := rangeAt_sub (rangeAt_below HR0.out hb) 17 26 rfl; rwa [Nat.zero_add] at this)
 go_upto_region 3 with fail
 go_quiet (fail)
 have HBX := hdn (below_drewN_ (Below.refl wA.heap.size wA) nq)
 generalize wA.drewN nq = w2 at HBX ⊢
 clear c0
 clear c2
 clear c4
 clear c43
 clear c44
 clear c45
 clear c46
 clear c47
 have c0 : w2.cell? ⟨A, 0, none⟩ = some (.int .i64 x.h.kind) := HC.out w2 HBX.out 0 _ rfl
 go_wp2_with (first | ((with_reducible show wpList _ _ _ (Oper.mk (some 157) (Op.load 49 _) _ _ _ _ :: _) _ _); refine wpList_load_arr_g 49 (.tmp 156) rfl rfl A 5 rfl #[.int .i64 x.h.value.kind, .int .i64 x.h.value.pos, .string x.h.value.path.name, .int .i64 x.h.value.path.pos, .slice x.h.value.path.hops.p x.h.value.path.hops.l.length x.h.value.path.hops.cap, .string x.h.value.type, .string x.h.value.left.name, .int .i64 x.h.value.left.n, .int .i64 x.h.value.left.pos, .string x.h.value.right.name, .int .i64 x.h.value.right.n, .int .i64 x.h.value.right.pos] _ (HV.out _ HBX.out) Tryz.underlying49 rfl size52 ?_) | ((with_reducible show wpList _ _ _ (Oper.mk (some 162) (Op.load 51 _) _ _ _ _ :: _) _ _); refine wpList_load_arr_g 51 (.tmp 161) rfl rfl A 17 rfl #[.int .i64 x.h.cond.kind, .int .i64 x.h.cond.pos, .int .i64 x.h.cond.left.kind, .int .i64 x.h.cond.left.pos, .string x.h.cond.left.path.name, .int .i64 x.h.cond.left.path.pos, .slice x.h.cond.left.path.hops.p x.h.cond.left.path.hops.l.length x.h.cond.left.path.hops.cap, .string x.h.cond.left.type, .string x.h.cond.left.left.name, .int .i64 x.h.cond.left.left.n, .int .i64 x.h.cond.left.left.pos, .string x.h.cond.left.right.name, .int .i64 x.h.cond.left.right.n, .int .i64 x.h.cond.left.right.pos, .int .i64 x.h.cond.right.kind, .int .i64 x.h.cond.right.pos, .string x.h.cond.right.path.name, .int .i64 x.h.cond.right.path.pos, .slice x.h.cond.right.path.hops.p x.h.cond.right.path.hops.l.length x.h.cond.right.path.hops.cap, .string x.h.cond.right.type, .string x.h.cond.right.left.name, .int .i64 x.h.cond.right.left.n, .int .i64 x.h.cond.right.left.pos, .string x.h.cond.right.right.name, .int .i64 x.h.cond.right.right.n, .int .i64 x.h.cond.right.right.pos] _ (HD.out _ HB3.out) Tryz.underlying51 rfl size49 ?_) | (go_at_call 141; refine (zeroVal_any x.h.value _ ((hdLies_below HIT.out.1 HBX.out).2.1) Z_ov.out).mono ?_; rintro e w3 ⟨rfl, hb⟩; have HB3 := hdn (HBX.out.trans (hb.mono HBX.out.size)); have c46 : w3.cell? ⟨A, 46, none⟩ = some (.slice x.ep x.e.len x.ec) := HC.out w3 HB3.out 46 _ rfl; have c47 : w3.cell? ⟨A, 47, none⟩ = some (.bool x.h.both) := HC.out w3 HB3.out 47 _ rfl; clear hb) | (go_at_call 146; refine (cond_may x.h.cond _ ((hdLies_below HIT.out.1 HB3.out).2.2.1) ((hdLies_below HIT.out.1 HB3.out).2.2.2.1) Z_oc.out).mono ?_; rintro e w4 ⟨rfl, hb⟩; have HB4 := hdn (HB3.out.trans (hb.mono HB3.out.size)); have c46 : w4.cell? ⟨A, 46, none⟩ = some (.slice x.ep x.e.len x.ec) := HC.out w4 HB4.out 46 _ rfl; have c47 : w4.cell? ⟨A, 47, none⟩ = some (.bool x.h.both) := HC.out w4 HB4.out 47 _ rfl; clear hb))
 go_ret
 exact ⟨rfl, HBA.out.trans (HB4.out.mono HBA.out.size)⟩
theorem stmt5 (x : It) (cx : Array Value) (hcx : cx = x.cells.toArray) (w : World) (rx : itLies w x) (k : x.h.kind = 5) (p1 : (x.h.place.name.toList == []) = true) (p2 : x.h.place.hops.l.length = 0) (ov : Pn.noVal x.h.value = true) (oc : Pn.okCond x.h.cond = true) (n1 : (x.h.name.toList == []) = true) (n2 : x.h.args.l.length = 0) (e0 : x.e.len = 0) (b0 : x.h.both = false) :
  Calls Tryz.prog 107 #[.agg cx] w fun e w' => e = .returned (.bool true) ∧ Below w.heap.size w w' := by
 have Z_k := hdn k
 clear k
 have Z_p1 := hdn p1
 clear p1
 have Z_p2 := hdn p2
 clear p2
 have Z_ov := hdn ov
 clear ov
 have Z_oc := hdn oc
 clear oc
 have Z_n1 := hdn n1
 clear n1
 have Z_n2 := hdn n2
 clear n2
 have Z_e0 := hdn e0
 clear e0
 have Z_b0 := hdn b0
 clear b0
 obtain ⟨wA, hwA⟩ : ∃ wA : World, wA = w.alloc (.cells cx 54) := ⟨_, rfl⟩
 have HBA : Hid (Below w.heap.size w wA) := hdn (by rw [hwA]; exact (Below.refl _ _).alloc (Nat.le_refl _) _)
 have HR0 : Hid (wA.rangeAt w.heap.size 0 x.cells) := hdn (by rw [hwA]; exact range_blockS (by rw [← hcx]; exact heap_alloc_new _ _))
 have HIT : Hid (itLies wA x) := hdn (itLies_below rx HBA.out)
 have HCX := hdn hcx
 clear rx hcx
 go_enter Tryz.func107, Tryz.ntmps107
 go_upto_region 1 with fail
 rw [← hwA]
 clear hwA
 obtain ⟨A, hA⟩ : ∃ A, A = w.heap.size := ⟨_, rfl⟩
 rw [← hA] at HR0 ⊢
 clear hA
 have HC : Hid (∀ w', Below wA.heap.size wA w' → ∀ j v, x.cells[j]? = some v → w'.cell? ⟨A, j, none⟩ = some v) := hdn (fun w' hb j v hv => by have := rangeAt_below HR0.out hb j v hv; rwa [Nat.zero_add] at this)
 have k := Z_k.out
 have p1 := Z_p1.out
 have p2 := Z_p2.out
 have n1 := Z_n1.out
 have n2 := Z_n2.out
 have e0 := Z_e0.out
 have b0 := Z_b0.out
 have c0 : wA.cell? ⟨A, 0, none⟩ = some (.int .i64 x.h.kind) := HC.out wA (Below.refl _ _) 0 _ rfl
 have c2 : wA.cell? ⟨A, 2, none⟩ = some (.string x.h.place.name) := HC.out wA (Below.refl _ _) 2 _ rfl
 have c4 : wA.cell? ⟨A, 4, none⟩ = some (.slice x.h.place.hops.p x.h.place.hops.l.length x.h.place.hops.cap) := HC.out wA (Below.refl _ _) 4 _ rfl
 have c43 : wA.cell? ⟨A, 43, none⟩ = some (.string x.h.name) := HC.out wA (Below.refl _ _) 43 _ rfl
 have c44 : wA.cell? ⟨A, 44, none⟩ = some (.slice x.h.args.p x.h.args.l.length x.h.args.cap) := HC.out wA (Below.refl _ _) 44 _ rfl
 have c45 : wA.cell? ⟨A, 45, none⟩ = some (.slice x.tp x.t.len x.tc) := HC.out wA (Below.refl _ _) 45 _ rfl
 have c46 : wA.cell? ⟨A, 46, none⟩ = some (.slice x.ep x.e.len x.ec) := HC.out wA (Below.refl _ _) 46 _ rfl
 have c47 : wA.cell? ⟨A, 47, none⟩ = some (.bool x.h.both) := HC.out wA (Below.refl _ _) 47 _ rfl
 have HV : Hid (∀ w', Below wA.heap.size wA w' → w'.rangeAt A 5 (#[.int .i64 x.h.value.kind, .int .i64 x.h.value.pos, .string x.h.value.path.name, .int .i64 x.h.value.path.pos, .slice x.h.value.path.hops.p x.h.value.path.hops.l.length x.h.value.path.hops.cap, .string x.h.value.type, .string x.h.value.left.name, .int .i64 x.h.value.left.n, .int .i64 x.h.value.left.pos, .string x.h.value.right.name, .int .i64 x.h.value.right.n, .int .i64 x.h.value.right.pos] : Array Value).toList) := hdn (fun w' hb => by have := rangeAt_sub (rangeAt_below HR0.out hb) 5 12 rfl; rwa [Nat.zero_add] at this)
 have HD : Hid (∀ w', Below wA.heap.size wA w' → w'.rangeAt A 17 (#[.int .i64 x.h.cond.kind, .int .i64 x.h.cond.pos, .int .i64 x.h.cond.left.kind, .int .i64 x.h.cond.left.pos, .string x.h.cond.left.path.name, .int .i64 x.h.cond.left.path.pos, .slice x.h.cond.left.path.hops.p x.h.cond.left.path.hops.l.length x.h.cond.left.path.hops.cap, .string x.h.cond.left.type, .string x.h.cond.left.left.name, .int .i64 x.h.cond.left.left.n, .int .i64 x.h.cond.left.left.pos, .string x.h.cond.left.right.name, .int .i64 x.h.cond.left.right.n, .int .i64 x.h.cond.left.right.pos, .int .i64 x.h.cond.right.kind, .int .i64 x.h.cond.right.pos, .string x.h.cond.right.path.name, .int .i64 x.h.cond.right.path.pos, .slice x.h.cond.right.path.hops.p x.h.cond.right.path.hops.l.length x.h.cond.right.path.hops.cap, .string x.h.cond.right.type, .string x.h.cond.right.left.name, .int .i64 x.h.cond.right.left.n, .int .i64 x.h.cond.right.left.pos, .string x.h.cond.right.right.name, .int .i64 x.h.cond.right.right.n, .int .i64 x.h.cond.right.right.pos] : Array Value).toList) := hdn (fun w' hb => by have := rangeAt_sub (rangeAt_below HR0.out hb) 17 26 rfl; rwa [Nat.zero_add] at this)
 go_upto_region 3 with fail
 go_quiet (fail)
 have HBX := hdn (below_drewN_ (Below.refl wA.heap.size wA) nq)
 generalize wA.drewN nq = w2 at HBX ⊢
 clear c0
 clear c2
 clear c4
 clear c43
 clear c44
 clear c45
 clear c46
 clear c47
 have c0 : w2.cell? ⟨A, 0, none⟩ = some (.int .i64 x.h.kind) := HC.out w2 HBX.out 0 _ rfl
 go_wp2_with (first | ((with_reducible show wpList _ _ _ (Oper.mk (some 183) (Op.load 49 _) _ _ _ _ :: _) _ _); refine wpList_load_arr_g 49 (.tmp 182) rfl rfl A 5 rfl #[.int .i64 x.h.value.kind, .int .i64 x.h.value.pos, .string x.h.value.path.name, .int .i64 x.h.value.path.pos, .slice x.h.value.path.hops.p x.h.value.path.hops.l.length x.h.value.path.hops.cap, .string x.h.value.type, .string x.h.value.left.name, .int .i64 x.h.value.left.n, .int .i64 x.h.value.left.pos, .string x.h.value.right.name, .int .i64 x.h.value.right.n, .int .i64 x.h.value.right.pos] _ (HV.out _ HBX.out) Tryz.underlying49 rfl size52 ?_) | ((with_reducible show wpList _ _ _ (Oper.mk (some 188) (Op.load 51 _) _ _ _ _ :: _) _ _); refine wpList_load_arr_g 51 (.tmp 187) rfl rfl A 17 rfl #[.int .i64 x.h.cond.kind, .int .i64 x.h.cond.pos, .int .i64 x.h.cond.left.kind, .int .i64 x.h.cond.left.pos, .string x.h.cond.left.path.name, .int .i64 x.h.cond.left.path.pos, .slice x.h.cond.left.path.hops.p x.h.cond.left.path.hops.l.length x.h.cond.left.path.hops.cap, .string x.h.cond.left.type, .string x.h.cond.left.left.name, .int .i64 x.h.cond.left.left.n, .int .i64 x.h.cond.left.left.pos, .string x.h.cond.left.right.name, .int .i64 x.h.cond.left.right.n, .int .i64 x.h.cond.left.right.pos, .int .i64 x.h.cond.right.kind, .int .i64 x.h.cond.right.pos, .string x.h.cond.right.path.name, .int .i64 x.h.cond.right.path.pos, .slice x.h.cond.right.path.hops.p x.h.cond.right.path.hops.l.length x.h.cond.right.path.hops.cap, .string x.h.cond.right.type, .string x.h.cond.right.left.name, .int .i64 x.h.cond.right.left.n, .int .i64 x.h.cond.right.left.pos, .string x.h.cond.right.right.name, .int .i64 x.h.cond.right.right.n, .int .i64 x.h.cond.right.right.pos] _ (HD.out _ HB3.out) Tryz.underlying51 rfl size49 ?_) | (go_at_call 141; refine (zeroVal_any x.h.value _ ((hdLies_below HIT.out.1 HBX.out).2.1) Z_ov.out).mono ?_; rintro e w3 ⟨rfl, hb⟩; have HB3 := hdn (HBX.out.trans (hb.mono HBX.out.size)); clear hb) | (go_at_call 146; refine (cond_may x.h.cond _ ((hdLies_below HIT.out.1 HB3.out).2.2.1) ((hdLies_below HIT.out.1 HB3.out).2.2.2.1) Z_oc.out).mono ?_; rintro e w4 ⟨rfl, hb⟩; have HB4 := hdn (HB3.out.trans (hb.mono HB3.out.size)); clear hb))
 go_ret
 exact ⟨rfl, HBA.out.trans (HB4.out.mono HBA.out.size)⟩
theorem stmt6 (x : It) (cx : Array Value) (hcx : cx = x.cells.toArray) (w : World) (rx : itLies w x) (k : x.h.kind = 6) (p1 : (x.h.place.name.toList == []) = true) (p2 : x.h.place.hops.l.length = 0) (ov : Pn.noVal x.h.value = true) (oc : Pn.noCond x.h.cond = true) (n1 : (x.h.name.toList == []) = true) (n2 : x.h.args.l.length = 0) (e0 : x.e.len = 0) (b0 : x.h.both = false) :
  Calls Tryz.prog 107 #[.agg cx] w fun e w' => e = .returned (.bool true) ∧ Below w.heap.size w w' := by
 have Z_k := hdn k
 clear k
 have Z_p1 := hdn p1
 clear p1
 have Z_p2 := hdn p2
 clear p2
 have Z_ov := hdn ov
 clear ov
 have Z_oc := hdn oc
 clear oc
 have Z_n1 := hdn n1
 clear n1
 have Z_n2 := hdn n2
 clear n2
 have Z_e0 := hdn e0
 clear e0
 have Z_b0 := hdn b0
 clear b0
 obtain ⟨wA, hwA⟩ : ∃ wA : World, wA = w.alloc (.cells cx 54) := ⟨_, rfl⟩
 have HBA : Hid (Below w.heap.size w wA) := hdn (by rw [hwA]; exact (Below.refl _ _).alloc (Nat.le_refl _) _)
 have HR0 : Hid (wA.rangeAt w.heap.size 0 x.cells) := hdn (by rw [hwA]; exact range_blockS (by rw [← hcx]; exact heap_alloc_new _ _))
 have HIT : Hid (itLies wA x) := hdn (itLies_below rx HBA.out)
 have HCX := hdn hcx
 clear rx hcx
 go_enter Tryz.func107, Tryz.ntmps107
 go_upto_region 1 with fail
 rw [← hwA]
 clear hwA
 obtain ⟨A, hA⟩ : ∃ A, A = w.heap.size := ⟨_, rfl⟩
 rw [← hA] at HR0 ⊢
 clear hA
 have HC : Hid (∀ w', Below wA.heap.size wA w' → ∀ j v, x.cells[j]? = some v → w'.cell? ⟨A, j, none⟩ = some v) := hdn (fun w' hb j v hv => by have := rangeAt_below HR0.out hb j v hv; rwa [Nat.zero_add] at this)
 have k := Z_k.out
 have p1 := Z_p1.out
 have p2 := Z_p2.out
 have n1 := Z_n1.out
 have n2 := Z_n2.out
 have e0 := Z_e0.out
 have b0 := Z_b0.out
 have c0 : wA.cell? ⟨A, 0, none⟩ = some (.int .i64 x.h.kind) := HC.out wA (Below.refl _ _) 0 _ rfl
 have c2 : wA.cell? ⟨A, 2, none⟩ = some (.string x.h.place.name) := HC.out wA (Below.refl _ _) 2 _ rfl
 have c4 : wA.cell? ⟨A, 4, none⟩ = some (.slice x.h.place.hops.p x.h.place.hops.l.length x.h.place.hops.cap) := HC.out wA (Below.refl _ _) 4 _ rfl
 have c43 : wA.cell? ⟨A, 43, none⟩ = some (.string x.h.name) := HC.out wA (Below.refl _ _) 43 _ rfl
 have c44 : wA.cell? ⟨A, 44, none⟩ = some (.slice x.h.args.p x.h.args.l.length x.h.args.cap) := HC.out wA (Below.refl _ _) 44 _ rfl
 have c45 : wA.cell? ⟨A, 45, none⟩ = some (.slice x.tp x.t.len x.tc) := HC.out wA (Below.refl _ _) 45 _ rfl
 have c46 : wA.cell? ⟨A, 46, none⟩ = some (.slice x.ep x.e.len x.ec) := HC.out wA (Below.refl _ _) 46 _ rfl
 have c47 : wA.cell? ⟨A, 47, none⟩ = some (.bool x.h.both) := HC.out wA (Below.refl _ _) 47 _ rfl
 have HV : Hid (∀ w', Below wA.heap.size wA w' → w'.rangeAt A 5 (#[.int .i64 x.h.value.kind, .int .i64 x.h.value.pos, .string x.h.value.path.name, .int .i64 x.h.value.path.pos, .slice x.h.value.path.hops.p x.h.value.path.hops.l.length x.h.value.path.hops.cap, .string x.h.value.type, .string x.h.value.left.name, .int .i64 x.h.value.left.n, .int .i64 x.h.value.left.pos, .string x.h.value.right.name, .int .i64 x.h.value.right.n, .int .i64 x.h.value.right.pos] : Array Value).toList) := hdn (fun w' hb => by have := rangeAt_sub (rangeAt_below HR0.out hb) 5 12 rfl; rwa [Nat.zero_add] at this)
 have HD : Hid (∀ w', Below wA.heap.size wA w' → w'.rangeAt A 17 (#[.int .i64 x.h.cond.kind, .int .i64 x.h.cond.pos, .int .i64 x.h.cond.left.kind, .int .i64 x.h.cond.left.pos, .string x.h.cond.left.path.name, .int .i64 x.h.cond.left.path.pos, .slice x.h.cond.left.path.hops.p x.h.cond.left.path.hops.l.length x.h.cond.left.path.hops.cap, .string x.h.cond.left.type, .string x.h.cond.left.left.name, .int .i64 x.h.cond.left.left.n, .int .i64 x.h.cond.left.left.pos, .string x.h.cond.left.right.name, .int .i64 x.h.cond.left.right.n, .int .i64 x.h.cond.left.right.pos, .int .i64 x.h.cond.right.kind, .int .i64 x.h.cond.right.pos, .string x.h.cond.right.path.name, .int .i64 x.h.cond.right.path.pos, .slice x.h.cond.right.path.hops.p x.h.cond.right.path.hops.l.length x.h.cond.right.path.hops.cap, .string x.h.cond.right.type, .string x.h.cond.right.left.name, .int .i64 x.h.cond.right.left.n, .int .i64 x.h.cond.right.left.pos, .string x.h.cond.right.right.name, .int .i64 x.h.cond.right.right.n, .int .i64 x.h.cond.right.right.pos] : Array Value).toList) := hdn (fun w' hb => by have := rangeAt_sub (rangeAt_below HR0.out hb) 17 26 rfl; rwa [Nat.zero_add] at this)
 go_upto_region 3 with fail
 go_quiet (fail)
 have HBX := hdn (below_drewN_ (Below.refl wA.heap.size wA) nq)
 generalize wA.drewN nq = w2 at HBX ⊢
 clear c0
 clear c2
 clear c4
 clear c43
 clear c44
 clear c45
 clear c46
 clear c47
 have c0 : w2.cell? ⟨A, 0, none⟩ = some (.int .i64 x.h.kind) := HC.out w2 HBX.out 0 _ rfl
 go_wp2_with (first | ((with_reducible show wpList _ _ _ (Oper.mk (some 202) (Op.load 49 _) _ _ _ _ :: _) _ _); refine wpList_load_arr_g 49 (.tmp 201) rfl rfl A 5 rfl #[.int .i64 x.h.value.kind, .int .i64 x.h.value.pos, .string x.h.value.path.name, .int .i64 x.h.value.path.pos, .slice x.h.value.path.hops.p x.h.value.path.hops.l.length x.h.value.path.hops.cap, .string x.h.value.type, .string x.h.value.left.name, .int .i64 x.h.value.left.n, .int .i64 x.h.value.left.pos, .string x.h.value.right.name, .int .i64 x.h.value.right.n, .int .i64 x.h.value.right.pos] _ (HV.out _ HBX.out) Tryz.underlying49 rfl size52 ?_) | ((with_reducible show wpList _ _ _ (Oper.mk (some 207) (Op.load 51 _) _ _ _ _ :: _) _ _); refine wpList_load_arr_g 51 (.tmp 206) rfl rfl A 17 rfl #[.int .i64 x.h.cond.kind, .int .i64 x.h.cond.pos, .int .i64 x.h.cond.left.kind, .int .i64 x.h.cond.left.pos, .string x.h.cond.left.path.name, .int .i64 x.h.cond.left.path.pos, .slice x.h.cond.left.path.hops.p x.h.cond.left.path.hops.l.length x.h.cond.left.path.hops.cap, .string x.h.cond.left.type, .string x.h.cond.left.left.name, .int .i64 x.h.cond.left.left.n, .int .i64 x.h.cond.left.left.pos, .string x.h.cond.left.right.name, .int .i64 x.h.cond.left.right.n, .int .i64 x.h.cond.left.right.pos, .int .i64 x.h.cond.right.kind, .int .i64 x.h.cond.right.pos, .string x.h.cond.right.path.name, .int .i64 x.h.cond.right.path.pos, .slice x.h.cond.right.path.hops.p x.h.cond.right.path.hops.l.length x.h.cond.right.path.hops.cap, .string x.h.cond.right.type, .string x.h.cond.right.left.name, .int .i64 x.h.cond.right.left.n, .int .i64 x.h.cond.right.left.pos, .string x.h.cond.right.right.name, .int .i64 x.h.cond.right.right.n, .int .i64 x.h.cond.right.right.pos] _ (HD.out _ HB3.out) Tryz.underlying51 rfl size49 ?_) | (go_at_call 141; refine (zeroVal_any x.h.value _ ((hdLies_below HIT.out.1 HBX.out).2.1) Z_ov.out).mono ?_; rintro e w3 ⟨rfl, hb⟩; have HB3 := hdn (HBX.out.trans (hb.mono HBX.out.size)); clear hb) | (go_at_call 142; refine (zeroCond_any x.h.cond _ ((hdLies_below HIT.out.1 HB3.out).2.2.1) ((hdLies_below HIT.out.1 HB3.out).2.2.2.1) Z_oc.out).mono ?_; rintro e w4 ⟨rfl, hb⟩; have HB4 := hdn (HB3.out.trans (hb.mono HB3.out.size)); clear hb))
 go_ret
 exact ⟨rfl, HBA.out.trans (HB4.out.mono HBA.out.size)⟩
end Go.Proofs.YtdlchhimkelinaaGreatDoor
namespace Go.Proofs.YtdlchhimkelinaaGreatDoor
open Go.RowKit Go.Sort
theorem stmt3 (x : It) (cx : Array Value) (hcx : cx = x.cells.toArray) (w : World) (rx : itLies w x) (k : x.h.kind = 3) (p1 : (x.h.place.name.toList == []) = true) (p2 : x.h.place.hops.l.length = 0) (oa : x.h.args.l.all Pn.okSide = true) (ov : Pn.noVal x.h.value = true) (oc : Pn.noCond x.h.cond = true) (on : Pn.okN x.h.name = true) (n1 : (x.h.name.toList == []) = false) (t0 : x.t.len = 0) (e0 : x.e.len = 0) (b0 : x.h.both = false) :
  Calls Tryz.prog 107 #[.agg cx] w fun e w' => e = .returned (.bool true) ∧ Below w.heap.size w w' := by
 have Z_k := hdn k
 clear k
 have Z_p1 := hdn p1
 clear p1
 have Z_p2 := hdn p2
 clear p2
 have Z_oa := hdn oa
 clear oa
 have Z_ov := hdn ov
 clear ov
 have Z_oc := hdn oc
 clear oc
 have Z_on := hdn on
 clear on
 have Z_n1 := hdn n1
 clear n1
 have Z_t0 := hdn t0
 clear t0
 have Z_e0 := hdn e0
 clear e0
 have Z_b0 := hdn b0
 clear b0
 obtain ⟨wA, hwA⟩ : ∃ wA : World, wA = w.alloc (.cells cx 54) := ⟨_, rfl⟩
 have HBA : Hid (Below w.heap.size w wA) := hdn (by rw [hwA]; exact (Below.refl _ _).alloc (Nat.le_refl _) _)
 have HR0 : Hid (wA.rangeAt w.heap.size 0 x.cells) := hdn (by rw [hwA]; exact range_blockS (by rw [← hcx]; exact heap_alloc_new _ _))
 have HIT : Hid (itLies wA x) := hdn (itLies_below rx HBA.out)
 have HCX := hdn hcx
 clear rx hcx
 go_enter Tryz.func107, Tryz.ntmps107
 go_upto_region 1 with fail
 rw [← hwA]
 clear hwA
 obtain ⟨A, hA⟩ : ∃ A, A = w.heap.size := ⟨_, rfl⟩
 rw [← hA] at HR0 ⊢
 clear hA
 have HC : Hid (∀ w', Below wA.heap.size wA w' → ∀ j v, x.cells[j]? = some v → w'.cell? ⟨A, j, none⟩ = some v) := hdn (fun w' hb j v hv => by have := rangeAt_below HR0.out hb j v hv; rwa [Nat.zero_add] at this)
 have k := Z_k.out
 have p1 := Z_p1.out
 have p2 := Z_p2.out
 have n1 := Z_n1.out
 have t0 := Z_t0.out
 have e0 := Z_e0.out
 have b0 := Z_b0.out
 have c0 : wA.cell? ⟨A, 0, none⟩ = some (.int .i64 x.h.kind) := HC.out wA (Below.refl _ _) 0 _ rfl
 have c2 : wA.cell? ⟨A, 2, none⟩ = some (.string x.h.place.name) := HC.out wA (Below.refl _ _) 2 _ rfl
 have c4 : wA.cell? ⟨A, 4, none⟩ = some (.slice x.h.place.hops.p x.h.place.hops.l.length x.h.place.hops.cap) := HC.out wA (Below.refl _ _) 4 _ rfl
 have c43 : wA.cell? ⟨A, 43, none⟩ = some (.string x.h.name) := HC.out wA (Below.refl _ _) 43 _ rfl
 have c44 : wA.cell? ⟨A, 44, none⟩ = some (.slice x.h.args.p x.h.args.l.length x.h.args.cap) := HC.out wA (Below.refl _ _) 44 _ rfl
 have c45 : wA.cell? ⟨A, 45, none⟩ = some (.slice x.tp x.t.len x.tc) := HC.out wA (Below.refl _ _) 45 _ rfl
 have c46 : wA.cell? ⟨A, 46, none⟩ = some (.slice x.ep x.e.len x.ec) := HC.out wA (Below.refl _ _) 46 _ rfl
 have c47 : wA.cell? ⟨A, 47, none⟩ = some (.bool x.h.both) := HC.out wA (Below.refl _ _) 47 _ rfl
 have HV : Hid (∀ w', Below wA.heap.size wA w' → w'.rangeAt A 5 (#[.int .i64 x.h.value.kind, .int .i64 x.h.value.pos, .string x.h.value.path.name, .int .i64 x.h.value.path.pos, .slice x.h.value.path.hops.p x.h.value.path.hops.l.length x.h.value.path.hops.cap, .string x.h.value.type, .string x.h.value.left.name, .int .i64 x.h.value.left.n, .int .i64 x.h.value.left.pos, .string x.h.value.right.name, .int .i64 x.h.value.right.n, .int .i64 x.h.value.right.pos] : Array Value).toList) := hdn (fun w' hb => by have := rangeAt_sub (rangeAt_below HR0.out hb) 5 12 rfl; rwa [Nat.zero_add] at this)
 have HD : Hid (∀ w', Below wA.heap.size wA w' → w'.rangeAt A 17 (#[.int .i64 x.h.cond.kind, .int .i64 x.h.cond.pos, .int .i64 x.h.cond.left.kind, .int .i64 x.h.cond.left.pos, .string x.h.cond.left.path.name, .int .i64 x.h.cond.left.path.pos, .slice x.h.cond.left.path.hops.p x.h.cond.left.path.hops.l.length x.h.cond.left.path.hops.cap, .string x.h.cond.left.type, .string x.h.cond.left.left.name, .int .i64 x.h.cond.left.left.n, .int .i64 x.h.cond.left.left.pos, .string x.h.cond.left.right.name, .int .i64 x.h.cond.left.right.n, .int .i64 x.h.cond.left.right.pos, .int .i64 x.h.cond.right.kind, .int .i64 x.h.cond.right.pos, .string x.h.cond.right.path.name, .int .i64 x.h.cond.right.path.pos, .slice x.h.cond.right.path.hops.p x.h.cond.right.path.hops.l.length x.h.cond.right.path.hops.cap, .string x.h.cond.right.type, .string x.h.cond.right.left.name, .int .i64 x.h.cond.right.left.n, .int .i64 x.h.cond.right.left.pos, .string x.h.cond.right.right.name, .int .i64 x.h.cond.right.right.n, .int .i64 x.h.cond.right.right.pos] : Array Value).toList) := hdn (fun w' hb => by have := rangeAt_sub (rangeAt_below HR0.out hb) 17 26 rfl; rwa [Nat.zero_add] at this)
 go_upto_region 3 with fail
 go_quiet (fail)
 have HBX := hdn (below_drewN_ (Below.refl wA.heap.size wA) nq)
 generalize wA.drewN nq = w2 at HBX ⊢
 clear c0
 clear c2
 clear c4
 clear c43
 clear c44
 clear c45
 clear c46
 clear c47
 have c0 : w2.cell? ⟨A, 0, none⟩ = some (.int .i64 x.h.kind) := HC.out w2 HBX.out 0 _ rfl
 go_wp2_with fail
 clear c0
 have HAR := hdn (Lay.of_sl (hdLies_below HIT.out.1 HBX.out).2.2.2.2.1 (by decide))
 go_loopw [7] (fun i wr => ∃ n : Nat, n ≤ x.h.args.l.length ∧ i = .int .i64 n ∧ Hid (Below w2.heap.size w2 wr)) (fun i _ => x.h.args.l.length - (intOf i).toNat)
 case atStart => exact ⟨0, Nat.zero_le _, rfl, hdn (Below.refl _ _)⟩
 case round =>
  obtain ⟨n, hn, rfl, HBR⟩ := hrel
  have hlim := HAR.out.1
  have HBW := hdn (HBX.out.trans (HBR.out.mono HBX.out.size))
  have c44 : wr.cell? ⟨A, 44, none⟩ = some (.slice x.h.args.p x.h.args.l.length x.h.args.cap) := HC.out wr HBW.out 44 _ rfl
  by_cases hnl : n < x.h.args.l.length
  ·obtain ⟨b1, o1, hp, hx⟩ : ∃ b o, x.h.args.p = some ⟨b, o, none⟩ ∧ ∀ k v, x.h.args.l[k]? = some v → w2.rangeAt b (o + k * 12) (Vl.cells v) ∧ vlLies w2 v := by
    rcases HAR.out.2 with h | h
    ·rw [h] at hnl; simp at hnl
    ·exact h
   have hxn := hx n x.h.args.l[n] (List.getElem?_eq_getElem hnl)
   have hok := List.all_eq_true.1 Z_oa.out x.h.args.l[n] (List.getElem_mem hnl)
   generalize x.h.args.l[n] = v at hxn hok
   have HRG : Hid (wr.rangeAt b1 (o1 + n * 12) (#[.int .i64 v.kind, .int .i64 v.pos, .string v.path.name, .int .i64 v.path.pos, .slice v.path.hops.p v.path.hops.l.length v.path.hops.cap, .string v.type, .string v.left.name, .int .i64 v.left.n, .int .i64 v.left.pos, .string v.right.name, .int .i64 v.right.n, .int .i64 v.right.pos] : Array Value).toList) := hdn (rangeAt_below hxn.1 HBR.out)
   have HVL := hdn (vlLies_below hxn.2 HBR.out)
   have HOK := hdn hok
   clear hx hxn hok
   rw [hp] at c44
   have hn0 : (0 : Int) ≤ (n : Int) := Int.natCast_nonneg _
   have hn1 : (n : Int) < (x.h.args.l.length : Int) := by omega
   go_wp2_with (first | ((with_reducible show wpList _ _ _ (Oper.mk (some 126) (Op.load 49 _) _ _ _ _ :: _) _ _); refine wpList_load_arr rfl 49 (.tmp 125) rfl b1 (o1 + n * 12) rfl #[.int .i64 v.kind, .int .i64 v.pos, .string v.path.name, .int .i64 v.path.pos, .slice v.path.hops.p v.path.hops.l.length v.path.hops.cap, .string v.type, .string v.left.name, .int .i64 v.left.n, .int .i64 v.left.pos, .string v.right.name, .int .i64 v.right.n, .int .i64 v.right.pos] _ HRG.out Tryz.underlying49 rfl size52 ?_) | (go_at_call 145; refine (okSide_any v _ HVL.out HOK.out).mono ?_; rintro e w3 ⟨rfl, hb⟩; have HB3 := hdn (HBR.out.trans (hb.mono HBR.out.size)); clear hb))
   go_roundw
   case rel => exact ⟨n + 1, by omega, by go_num, HB3⟩
   case measure => simp [intOf]; omega
  ·obtain rfl : n = x.h.args.l.length := by omega
   have HBX := HBW
   go_wp2_with (first | ((with_reducible show wpList _ _ _ (Oper.mk (some 132) (Op.load 49 _) _ _ _ _ :: _) _ _); refine wpList_load_arr_g 49 (.tmp 131) rfl rfl A 5 rfl #[.int .i64 x.h.value.kind, .int .i64 x.h.value.pos, .string x.h.value.path.name, .int .i64 x.h.value.path.pos, .slice x.h.value.path.hops.p x.h.value.path.hops.l.length x.h.value.path.hops.cap, .string x.h.value.type, .string x.h.value.left.name, .int .i64 x.h.value.left.n, .int .i64 x.h.value.left.pos, .string x.h.value.right.name, .int .i64 x.h.value.right.n, .int .i64 x.h.value.right.pos] _ (HV.out _ HBX.out) Tryz.underlying49 rfl size52 ?_) | ((with_reducible show wpList _ _ _ (Oper.mk (some 137) (Op.load 51 _) _ _ _ _ :: _) _ _); refine wpList_load_arr_g 51 (.tmp 136) rfl rfl A 17 rfl #[.int .i64 x.h.cond.kind, .int .i64 x.h.cond.pos, .int .i64 x.h.cond.left.kind, .int .i64 x.h.cond.left.pos, .string x.h.cond.left.path.name, .int .i64 x.h.cond.left.path.pos, .slice x.h.cond.left.path.hops.p x.h.cond.left.path.hops.l.length x.h.cond.left.path.hops.cap, .string x.h.cond.left.type, .string x.h.cond.left.left.name, .int .i64 x.h.cond.left.left.n, .int .i64 x.h.cond.left.left.pos, .string x.h.cond.left.right.name, .int .i64 x.h.cond.left.right.n, .int .i64 x.h.cond.left.right.pos, .int .i64 x.h.cond.right.kind, .int .i64 x.h.cond.right.pos, .string x.h.cond.right.path.name, .int .i64 x.h.cond.right.path.pos, .slice x.h.cond.right.path.hops.p x.h.cond.right.path.hops.l.length x.h.cond.right.path.hops.cap, .string x.h.cond.right.type, .string x.h.cond.right.left.name, .int .i64 x.h.cond.right.left.n, .int .i64 x.h.cond.right.left.pos, .string x.h.cond.right.right.name, .int .i64 x.h.cond.right.right.n, .int .i64 x.h.cond.right.right.pos] _ (HD.out _ HB3.out) Tryz.underlying51 rfl size49 ?_) | (go_at_call 141; refine (zeroVal_any x.h.value _ ((hdLies_below HIT.out.1 HBX.out).2.1) Z_ov.out).mono ?_; rintro e w3 ⟨rfl, hb⟩; have HB3 := hdn (HBX.out.trans (hb.mono HBX.out.size)); clear hb) | (go_at_call 142; refine (zeroCond_any x.h.cond _ ((hdLies_below HIT.out.1 HB3.out).2.2.1) ((hdLies_below HIT.out.1 HB3.out).2.2.2.1) Z_oc.out).mono ?_; rintro e w4 ⟨rfl, hb⟩; have HB4 := hdn (HB3.out.trans (hb.mono HB3.out.size)); have c43 : w4.cell? ⟨A, 43, none⟩ = some (.string x.h.name) := HC.out w4 HB4.out 43 _ rfl; clear hb) | (go_at_call 63; refine (names_any x.h.name _ _ Z_on.out (by simp [go_sem])).mono ?_; rintro e w5 ⟨rfl, hb0⟩; have hb := below_new hb0; have HB5 := hdn (HB4.out.trans (hb.mono HB4.out.size)); clear hb))
   go_ret
   exact ⟨rfl, HBA.out.trans (HB5.out.mono HBA.out.size)⟩
theorem nil_len {l : SL} (h : Pn.isNil l = true) : l.len = 0 := by cases l <;> first | rfl | cases h
theorem okN_ne {y : ByteArray} (h : Pn.okN y = true) : (y.toList == []) = false := by
 rw [Bool.eq_false_iff]; intro e
 have e2 : Pn.txt y = [] := by rw [beq_iff_eq, Lib.toList_data] at e; exact e
 unfold Pn.okN at h
 rw [e2] at h
 cases h
theorem stmt_may (x : It) (cx : Array Value) (hcx : cx = x.cells.toArray) (w : World) (rx : itLies w x) (ho : Pn.okStmt x.h (Pn.isNil x.t) (Pn.isNil x.e) = true) :
  Calls Tryz.prog 107 #[.agg cx] w fun e w' => e = .returned (.bool true) ∧ Below w.heap.size w w' := by
 unfold Pn.okStmt at ho
 split at ho
 ·rename_i k
  simp only [Bool.and_eq_true, Pn.noP, Pn.noCall, decide_eq_true_eq, Bool.not_eq_true'] at ho
  obtain ⟨⟨⟨⟨⟨⟨⟨p1, p2⟩, ov⟩, oc⟩, n1, n2⟩, t0⟩, e0⟩, b0⟩ := ho
  exact stmt0 x cx hcx w rx k (e_txt p1) (by rw [p2]; rfl) ov oc (e_txt n1) (by rw [n2]; rfl) (nil_len t0) (nil_len e0) b0
 split at ho
 ·rename_i k
  simp only [Bool.and_eq_true, Pn.noCall, decide_eq_true_eq, Bool.not_eq_true'] at ho
  obtain ⟨⟨⟨⟨⟨⟨op, ov⟩, oc⟩, n1, n2⟩, t0⟩, e0⟩, b0⟩ := ho
  have hp : Pn.okN x.h.place.name = true := by unfold Pn.okPath at op; simp only [Bool.and_eq_true] at op; exact op.1.1
  exact stmt1 x cx hcx w rx k (okN_ne hp) op ov oc (e_txt n1) (by rw [n2]; rfl) (nil_len t0) (nil_len e0) b0
 split at ho
 ·rename_i k
  simp only [Bool.and_eq_true, Pn.noCall, decide_eq_true_eq, Bool.not_eq_true'] at ho
  obtain ⟨⟨⟨⟨⟨⟨op, ov⟩, oc⟩, n1, n2⟩, t0⟩, e0⟩, b0⟩ := ho
  have hp : Pn.okN x.h.place.name = true := by unfold Pn.okPath at op; simp only [Bool.and_eq_true] at op; exact op.1.1
  exact stmt2 x cx hcx w rx k (okN_ne hp) op ov oc (e_txt n1) (by rw [n2]; rfl) (nil_len t0) (nil_len e0) b0
 split at ho
 ·rename_i k
  simp only [Bool.and_eq_true, Pn.noP, decide_eq_true_eq, Bool.not_eq_true'] at ho
  obtain ⟨⟨⟨⟨⟨⟨⟨oa, p1, p2⟩, ov⟩, oc⟩, on⟩, t0⟩, e0⟩, b0⟩ := ho
  exact stmt3 x cx hcx w rx k (e_txt p1) (by rw [p2]; rfl) oa ov oc on (okN_ne on) (nil_len t0) (nil_len e0) b0
 split at ho
 ·rename_i k
  simp only [Bool.and_eq_true, Bool.or_eq_true, Pn.noP, Pn.noCall, decide_eq_true_eq] at ho
  obtain ⟨⟨⟨⟨⟨p1, p2⟩, ov⟩, oc⟩, n1, n2⟩, hb⟩ := ho
  cases hbo : x.h.both
  ·rcases hb with hb | hb
   ·rw [hbo] at hb; cases hb
   ·exact stmt4c x cx hcx w rx k (e_txt p1) (by rw [p2]; rfl) ov oc (e_txt n1) (by rw [n2]; rfl) (nil_len hb) hbo
  ·by_cases he : x.e.len = 0
   ·exact stmt4a x cx hcx w rx k (e_txt p1) (by rw [p2]; rfl) ov oc (e_txt n1) (by rw [n2]; rfl) he hbo
   ·exact stmt4b x cx hcx w rx k (e_txt p1) (by rw [p2]; rfl) ov oc (e_txt n1) (by rw [n2]; rfl) he hbo
 split at ho
 ·rename_i k
  simp only [Bool.and_eq_true, Pn.noP, Pn.noCall, decide_eq_true_eq, Bool.not_eq_true'] at ho
  obtain ⟨⟨⟨⟨⟨⟨p1, p2⟩, ov⟩, oc⟩, n1, n2⟩, e0⟩, b0⟩ := ho
  exact stmt5 x cx hcx w rx k (e_txt p1) (by rw [p2]; rfl) ov oc (e_txt n1) (by rw [n2]; rfl) (nil_len e0) b0
 split at ho
 ·rename_i k
  simp only [Bool.and_eq_true, Pn.noP, Pn.noCall, decide_eq_true_eq, Bool.not_eq_true'] at ho
  obtain ⟨⟨⟨⟨⟨⟨p1, p2⟩, ov⟩, oc⟩, n1, n2⟩, e0⟩, b0⟩ := ho
  exact stmt6 x cx hcx w rx k (e_txt p1) (by rw [p2]; rfl) ov oc (e_txt n1) (by rw [n2]; rfl) (nil_len e0) b0
 ·cases ho
end Go.Proofs.YtdlchhimkelinaaGreatDoor
