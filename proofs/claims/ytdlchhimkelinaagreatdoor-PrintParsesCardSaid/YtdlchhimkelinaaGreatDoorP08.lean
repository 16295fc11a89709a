/-
  The walks of the document's "may it be?": sums; values. The walks of the document's "may it be?": sides, conditions.
-/
import Derived.Test.YtdlchhimkelinaaGreatDoorP07
set_option maxHeartbeats 6400000
set_option maxRecDepth 100000
namespace Go.Proofs.YtdlchhimkelinaaGreatDoor
open Go.RowKit Go.Sort
theorem bare5truetrue (x : Vl) (w : World) (hl : Pn.okTerm x.left = true) (hr : Pn.okTerm x.right = true) (k : x.kind = 5) (p1 : (x.path.name.toList == []) = true) (p2 : x.path.hops.l.length = 0) (he : (x.left.name.toList == []) = true) (he2 : (x.right.name.toList == []) = true) (t1 : (x.type.toList == []) = true) :
  Calls Tryz.prog 144 #[.agg #[.int .i64 x.kind, .int .i64 x.pos, .string x.path.name, .int .i64 x.path.pos, .slice x.path.hops.p x.path.hops.l.length x.path.hops.cap, .string x.type, .string x.left.name, .int .i64 x.left.n, .int .i64 x.left.pos, .string x.right.name, .int .i64 x.right.n, .int .i64 x.right.pos]] w fun e w' => e = .returned (.bool true) ∧ Below w.heap.size w w' := by
 have HTL := hdn hl; have HTR := hdn hr
 clear hl hr
 have Z_k := hdn k
 clear k
 have Z_p1 := hdn p1
 clear p1
 have Z_p2 := hdn p2
 clear p2
 have Z_he := hdn he
 clear he
 have Z_he2 := hdn he2
 clear he2
 have Z_t1 := hdn t1
 clear t1
 obtain ⟨wA, hwA⟩ : ∃ wA : World, wA = w.alloc (.cells #[.int .i64 x.kind, .int .i64 x.pos, .string x.path.name, .int .i64 x.path.pos, .slice x.path.hops.p x.path.hops.l.length x.path.hops.cap, .string x.type, .string x.left.name, .int .i64 x.left.n, .int .i64 x.left.pos, .string x.right.name, .int .i64 x.right.n, .int .i64 x.right.pos] 49) := ⟨_, rfl⟩
 have HBA : Hid (Below w.heap.size w wA) := hdn (by rw [hwA]; exact (Below.refl _ _).alloc (Nat.le_refl _) _)
 have HK : Hid (Bk wA w.heap.size 49 #[.int .i64 x.kind, .int .i64 x.pos, .string x.path.name, .int .i64 x.path.pos, .slice x.path.hops.p x.path.hops.l.length x.path.hops.cap, .string x.type, .string x.left.name, .int .i64 x.left.n, .int .i64 x.left.pos, .string x.right.name, .int .i64 x.right.n, .int .i64 x.right.pos]) := hdn (by rw [hwA]; exact heap_alloc_new _ _)
 go_enter Tryz.func144, Tryz.ntmps144
 go_upto_region 1 with fail
 rw [← hwA]
 clear hwA
 obtain ⟨A, hA⟩ : ∃ A, A = w.heap.size := ⟨_, rfl⟩
 rw [← hA] at HK ⊢
 have HA := hdn hA
 clear hA
 have c0 : wA.cell? ⟨A, 0, none⟩ = some (.int .i64 x.kind) := HK.out.cell 0
 have c1 : wA.cell? ⟨A, 1, none⟩ = some (.int .i64 x.pos) := HK.out.cell 1
 have c2 : wA.cell? ⟨A, 2, none⟩ = some (.string x.path.name) := HK.out.cell 2
 have c3 : wA.cell? ⟨A, 3, none⟩ = some (.int .i64 x.path.pos) := HK.out.cell 3
 have c4 : wA.cell? ⟨A, 4, none⟩ = some (.slice x.path.hops.p x.path.hops.l.length x.path.hops.cap) := HK.out.cell 4
 have c5 : wA.cell? ⟨A, 5, none⟩ = some (.string x.type) := HK.out.cell 5
 have c6 : wA.cell? ⟨A, 6, none⟩ = some (.string x.left.name) := HK.out.cell 6
 have c7 : wA.cell? ⟨A, 7, none⟩ = some (.int .i64 x.left.n) := HK.out.cell 7
 have c8 : wA.cell? ⟨A, 8, none⟩ = some (.int .i64 x.left.pos) := HK.out.cell 8
 have c9 : wA.cell? ⟨A, 9, none⟩ = some (.string x.right.name) := HK.out.cell 9
 have c10 : wA.cell? ⟨A, 10, none⟩ = some (.int .i64 x.right.n) := HK.out.cell 10
 have c11 : wA.cell? ⟨A, 11, none⟩ = some (.int .i64 x.right.pos) := HK.out.cell 11
 have k := Z_k.out
 have p1 := Z_p1.out
 have p2 := Z_p2.out
 have he := Z_he.out
 have he2 := Z_he2.out
 have t1 := Z_t1.out
 go_wp2_with (first | (go_at_call 167; (with_reducible refine (okTerm_any x.left _ HTL.out).mono ?_); rintro e w1 ⟨rfl, hb⟩; have HB1 := hdn (HBA.out.trans (hb.mono HBA.out.size)); have HK1 := hdn (HK.out.below hb HK.out.lt); have d9 : w1.cell? ⟨A, 9, none⟩ = some (.string x.right.name) := HK1.out.cell 9; have d10 : w1.cell? ⟨A, 10, none⟩ = some (.int .i64 x.right.n) := HK1.out.cell 10; have d11 : w1.cell? ⟨A, 11, none⟩ = some (.int .i64 x.right.pos) := HK1.out.cell 11; clear hb) | (go_at_call 167; (with_reducible refine (okTerm_any x.right _ HTR.out).mono ?_); rintro e w2 ⟨rfl, hb⟩; have HB2 := hdn (HB1.out.trans (hb.mono HB1.out.size)); clear hb))
 go_ret
 exact ⟨rfl, HB2.out⟩
theorem bare5truefalse (x : Vl) (w : World) (hl : Pn.okTerm x.left = true) (hr : Pn.okTerm x.right = true) (k : x.kind = 5) (p1 : (x.path.name.toList == []) = true) (p2 : x.path.hops.l.length = 0) (he : (x.left.name.toList == []) = true) (he2 : (x.right.name.toList == []) = false) (t1 : (x.type.toList == []) = true) :
  Calls Tryz.prog 144 #[.agg #[.int .i64 x.kind, .int .i64 x.pos, .string x.path.name, .int .i64 x.path.pos, .slice x.path.hops.p x.path.hops.l.length x.path.hops.cap, .string x.type, .string x.left.name, .int .i64 x.left.n, .int .i64 x.left.pos, .string x.right.name, .int .i64 x.right.n, .int .i64 x.right.pos]] w fun e w' => e = .returned (.bool true) ∧ Below w.heap.size w w' := by
 have HTL := hdn hl; have HTR := hdn hr
 clear hl hr
 have Z_k := hdn k
 clear k
 have Z_p1 := hdn p1
 clear p1
 have Z_p2 := hdn p2
 clear p2
 have Z_he := hdn he
 clear he
 have Z_he2 := hdn he2
 clear he2
 have Z_t1 := hdn t1
 clear t1
 obtain ⟨wA, hwA⟩ : ∃ wA : World, wA = w.alloc (.cells #[.int .i64 x.kind, .int .i64 x.pos, .string x.path.name, .int .i64 x.path.pos, .slice x.path.hops.p x.path.hops.l.length x.path.hops.cap, .string x.type, .string x.left.name, .int .i64 x.left.n, .int .i64 x.left.pos, .string x.right.name, .int .i64 x.right.n, .int .i64 x.right.pos] 49) := ⟨_, rfl⟩
 have HBA : Hid (Below w.heap.size w wA) := hdn (by rw [hwA]; exact (Below.refl _ _).alloc (Nat.le_refl _) _)
 have HK : Hid (Bk wA w.heap.size 49 #[.int .i64 x.kind, .int .i64 x.pos, .string x.path.name, .int .i64 x.path.pos, .slice x.path.hops.p x.path.hops.l.length x.path.hops.cap, .string x.type, .string x.left.name, .int .i64 x.left.n, .int .i64 x.left.pos, .string x.right.name, .int .i64 x.right.n, .int .i64 x.right.pos]) := hdn (by rw [hwA]; exact heap_alloc_new _ _)
 go_enter Tryz.func144, Tryz.ntmps144
 go_upto_region 1 with fail
 rw [← hwA]
 clear hwA
 obtain ⟨A, hA⟩ : ∃ A, A = w.heap.size := ⟨_, rfl⟩
 rw [← hA] at HK ⊢
 have HA := hdn hA
 clear hA
 have c0 : wA.cell? ⟨A, 0, none⟩ = some (.int .i64 x.kind) := HK.out.cell 0
 have c1 : wA.cell? ⟨A, 1, none⟩ = some (.int .i64 x.pos) := HK.out.cell 1
 have c2 : wA.cell? ⟨A, 2, none⟩ = some (.string x.path.name) := HK.out.cell 2
 have c3 : wA.cell? ⟨A, 3, none⟩ = some (.int .i64 x.path.pos) := HK.out.cell 3
 have c4 : wA.cell? ⟨A, 4, none⟩ = some (.slice x.path.hops.p x.path.hops.l.length x.path.hops.cap) := HK.out.cell 4
 have c5 : wA.cell? ⟨A, 5, none⟩ = some (.string x.type) := HK.out.cell 5
 have c6 : wA.cell? ⟨A, 6, none⟩ = some (.string x.left.name) := HK.out.cell 6
 have c7 : wA.cell? ⟨A, 7, none⟩ = some (.int .i64 x.left.n) := HK.out.cell 7
 have c8 : wA.cell? ⟨A, 8, none⟩ = some (.int .i64 x.left.pos) := HK.out.cell 8
 have c9 : wA.cell? ⟨A, 9, none⟩ = some (.string x.right.name) := HK.out.cell 9
 have c10 : wA.cell? ⟨A, 10, none⟩ = some (.int .i64 x.right.n) := HK.out.cell 10
 have c11 : wA.cell? ⟨A, 11, none⟩ = some (.int .i64 x.right.pos) := HK.out.cell 11
 have k := Z_k.out
 have p1 := Z_p1.out
 have p2 := Z_p2.out
 have he := Z_he.out
 have he2 := Z_he2.out
 have t1 := Z_t1.out
 go_wp2_with (first | (go_at_call 167; (with_reducible refine (okTerm_any x.left _ HTL.out).mono ?_); rintro e w1 ⟨rfl, hb⟩; have HB1 := hdn (HBA.out.trans (hb.mono HBA.out.size)); have HK1 := hdn (HK.out.below hb HK.out.lt); have d9 : w1.cell? ⟨A, 9, none⟩ = some (.string x.right.name) := HK1.out.cell 9; have d10 : w1.cell? ⟨A, 10, none⟩ = some (.int .i64 x.right.n) := HK1.out.cell 10; have d11 : w1.cell? ⟨A, 11, none⟩ = some (.int .i64 x.right.pos) := HK1.out.cell 11; clear hb) | (go_at_call 167; (with_reducible refine (okTerm_any x.right _ HTR.out).mono ?_); rintro e w2 ⟨rfl, hb⟩; have HB2 := hdn (HB1.out.trans (hb.mono HB1.out.size)); clear hb))
 go_ret
 exact ⟨rfl, HB2.out⟩
theorem bare5falsetrue (x : Vl) (w : World) (hl : Pn.okTerm x.left = true) (hr : Pn.okTerm x.right = true) (k : x.kind = 5) (p1 : (x.path.name.toList == []) = true) (p2 : x.path.hops.l.length = 0) (he : (x.left.name.toList == []) = false) (he2 : (x.right.name.toList == []) = true) (t1 : (x.type.toList == []) = true) :
  Calls Tryz.prog 144 #[.agg #[.int .i64 x.kind, .int .i64 x.pos, .string x.path.name, .int .i64 x.path.pos, .slice x.path.hops.p x.path.hops.l.length x.path.hops.cap, .string x.type, .string x.left.name, .int .i64 x.left.n, .int .i64 x.left.pos, .string x.right.name, .int .i64 x.right.n, .int .i64 x.right.pos]] w fun e w' => e = .returned (.bool true) ∧ Below w.heap.size w w' := by
 have HTL := hdn hl; have HTR := hdn hr
 clear hl hr
 have Z_k := hdn k
 clear k
 have Z_p1 := hdn p1
 clear p1
 have Z_p2 := hdn p2
 clear p2
 have Z_he := hdn he
 clear he
 have Z_he2 := hdn he2
 clear he2
 have Z_t1 := hdn t1
 clear t1
 obtain ⟨wA, hwA⟩ : ∃ wA : World, wA = w.alloc (.cells #[.int .i64 x.kind, .int .i64 x.pos, .string x.path.name, .int .i64 x.path.pos, .slice x.path.hops.p x.path.hops.l.length x.path.hops.cap, .string x.type, .string x.left.name, .int .i64 x.left.n, .int .i64 x.left.pos, .string x.right.name, .int .i64 x.right.n, .int .i64 x.right.pos] 49) := ⟨_, rfl⟩
 have HBA : Hid (Below w.heap.size w wA) := hdn (by rw [hwA]; exact (Below.refl _ _).alloc (Nat.le_refl _) _)
 have HK : Hid (Bk wA w.heap.size 49 #[.int .i64 x.kind, .int .i64 x.pos, .string x.path.name, .int .i64 x.path.pos, .slice x.path.hops.p x.path.hops.l.length x.path.hops.cap, .string x.type, .string x.left.name, .int .i64 x.left.n, .int .i64 x.left.pos, .string x.right.name, .int .i64 x.right.n, .int .i64 x.right.pos]) := hdn (by rw [hwA]; exact heap_alloc_new _ _)
 go_enter Tryz.func144, Tryz.ntmps144
 go_upto_region 1 with fail
 rw [← hwA]
 clear hwA
 obtain ⟨A, hA⟩ : ∃ A, A = w.heap.size := ⟨_, rfl⟩
 rw [← hA] at HK ⊢
 have HA := hdn hA
 clear hA
 have c0 : wA.cell? ⟨A, 0, none⟩ = some (.int .i64 x.kind) := HK.out.cell 0
 have c1 : wA.cell? ⟨A, 1, none⟩ = some (.int .i64 x.pos) := HK.out.cell 1
 have c2 : wA.cell? ⟨A, 2, none⟩ = some (.string x.path.name) := HK.out.cell 2
 have c3 : wA.cell? ⟨A, 3, none⟩ = some (.int .i64 x.path.pos) := HK.out.cell 3
 have c4 : wA.cell? ⟨A, 4, none⟩ = some (.slice x.path.hops.p x.path.hops.l.length x.path.hops.cap) := HK.out.cell 4
 have c5 : wA.cell? ⟨A, 5, none⟩ = some (.string x.type) := HK.out.cell 5
 have c6 : wA.cell? ⟨A, 6, none⟩ = some (.string x.left.name) := HK.out.cell 6
 have c7 : wA.cell? ⟨A, 7, none⟩ = some (.int .i64 x.left.n) := HK.out.cell 7
 have c8 : wA.cell? ⟨A, 8, none⟩ = some (.int .i64 x.left.pos) := HK.out.cell 8
 have c9 : wA.cell? ⟨A, 9, none⟩ = some (.string x.right.name) := HK.out.cell 9
 have c10 : wA.cell? ⟨A, 10, none⟩ = some (.int .i64 x.right.n) := HK.out.cell 10
 have c11 : wA.cell? ⟨A, 11, none⟩ = some (.int .i64 x.right.pos) := HK.out.cell 11
 have k := Z_k.out
 have p1 := Z_p1.out
 have p2 := Z_p2.out
 have he := Z_he.out
 have he2 := Z_he2.out
 have t1 := Z_t1.out
 go_wp2_with (first | (go_at_call 167; (with_reducible refine (okTerm_any x.left _ HTL.out).mono ?_); rintro e w1 ⟨rfl, hb⟩; have HB1 := hdn (HBA.out.trans (hb.mono HBA.out.size)); have HK1 := hdn (HK.out.below hb HK.out.lt); have d9 : w1.cell? ⟨A, 9, none⟩ = some (.string x.right.name) := HK1.out.cell 9; have d10 : w1.cell? ⟨A, 10, none⟩ = some (.int .i64 x.right.n) := HK1.out.cell 10; have d11 : w1.cell? ⟨A, 11, none⟩ = some (.int .i64 x.right.pos) := HK1.out.cell 11; clear hb) | (go_at_call 167; (with_reducible refine (okTerm_any x.right _ HTR.out).mono ?_); rintro e w2 ⟨rfl, hb⟩; have HB2 := hdn (HB1.out.trans (hb.mono HB1.out.size)); clear hb))
 go_ret
 exact ⟨rfl, HB2.out⟩
theorem bare5falsefalse (x : Vl) (w : World) (hl : Pn.okTerm x.left = true) (hr : Pn.okTerm x.right = true) (k : x.kind = 5) (p1 : (x.path.name.toList == []) = true) (p2 : x.path.hops.l.length = 0) (he : (x.left.name.toList == []) = false) (he2 : (x.right.name.toList == []) = false) (t1 : (x.type.toList == []) = true) :
  Calls Tryz.prog 144 #[.agg #[.int .i64 x.kind, .int .i64 x.pos, .string x.path.name, .int .i64 x.path.pos, .slice x.path.hops.p x.path.hops.l.length x.path.hops.cap, .string x.type, .string x.left.name, .int .i64 x.left.n, .int .i64 x.left.pos, .string x.right.name, .int .i64 x.right.n, .int .i64 x.right.pos]] w fun e w' => e = .returned (.bool true) ∧ Below w.heap.size w w' := by
 have HTL := hdn hl; have HTR := hdn hr
 clear hl hr
 have Z_k := hdn k
 clear k
 have Z_p1 := hdn p1
 clear p1
 have Z_p2 := hdn p2
 clear p2
 have Z_he := hdn he
 clear he
 have Z_he2 := hdn he2
 clear he2
 have Z_t1 := hdn t1
 clear t1
 obtain ⟨wA, hwA⟩ : ∃ wA : World, wA = w.alloc (.cells #[.int .i64 x.kind, .int .i64 x.pos, .string x.path.name, .int .i64 x.path.pos, .slice x.path.hops.p x.path.hops.l.length x.path.hops.cap, .string x.type, .string x.left.name, .int .i64 x.left.n, .int .i64 x.left.pos, .string x.right.name, .int .i64 x.right.n, .int .i64 x.right.pos] 49) := ⟨_, rfl⟩
 have HBA : Hid (Below w.heap.size w wA) := hdn (by rw [hwA]; exact (Below.refl _ _).alloc (Nat.le_refl _) _)
 have HK : Hid (Bk wA w.heap.size 49 #[.int .i64 x.kind, .int .i64 x.pos, .string x.path.name, .int .i64 x.path.pos, .slice x.path.hops.p x.path.hops.l.length x.path.hops.cap, .string x.type, .string x.left.name, .int .i64 x.left.n, .int .i64 x.left.pos, .string x.right.name, .int .i64 x.right.n, .int .i64 x.right.pos]) := hdn (by rw [hwA]; exact heap_alloc_new _ _)
 go_enter Tryz.func144, Tryz.ntmps144
 go_upto_region 1 with fail
 rw [← hwA]
 clear hwA
 obtain ⟨A, hA⟩ : ∃ A, A = w.heap.size := ⟨_, rfl⟩
 rw [← hA] at HK ⊢
 have HA := hdn hA
 clear hA
 have c0 : wA.cell? ⟨A, 0, none⟩ = some (.int .i64 x.kind) := HK.out.cell 0
 have c1 : wA.cell? ⟨A, 1, none⟩ = some (.int .i64 x.pos) := HK.out.cell 1
 have c2 : wA.cell? ⟨A, 2, none⟩ = some (.string x.path.name) := HK.out.cell 2
 have c3 : wA.cell? ⟨A, 3, none⟩ = some (.int .i64 x.path.pos) := HK.out.cell 3
 have c4 : wA.cell? ⟨A, 4, none⟩ = some (.slice x.path.hops.p x.path.hops.l.length x.path.hops.cap) := HK.out.cell 4
 have c5 : wA.cell? ⟨A, 5, none⟩ = some (.string x.type) := HK.out.cell 5
 have c6 : wA.cell? ⟨A, 6, none⟩ = some (.string x.left.name) := HK.out.cell 6
 have c7 : wA.cell? ⟨A, 7, none⟩ = some (.int .i64 x.left.n) := HK.out.cell 7
 have c8 : wA.cell? ⟨A, 8, none⟩ = some (.int .i64 x.left.pos) := HK.out.cell 8
 have c9 : wA.cell? ⟨A, 9, none⟩ = some (.string x.right.name) := HK.out.cell 9
 have c10 : wA.cell? ⟨A, 10, none⟩ = some (.int .i64 x.right.n) := HK.out.cell 10
 have c11 : wA.cell? ⟨A, 11, none⟩ = some (.int .i64 x.right.pos) := HK.out.cell 11
 have k := Z_k.out
 have p1 := Z_p1.out
 have p2 := Z_p2.out
 have he := Z_he.out
 have he2 := Z_he2.out
 have t1 := Z_t1.out
 go_wp2_with (first | (go_at_call 167; (with_reducible refine (okTerm_any x.left _ HTL.out).mono ?_); rintro e w1 ⟨rfl, hb⟩; have HB1 := hdn (HBA.out.trans (hb.mono HBA.out.size)); have HK1 := hdn (HK.out.below hb HK.out.lt); have d9 : w1.cell? ⟨A, 9, none⟩ = some (.string x.right.name) := HK1.out.cell 9; have d10 : w1.cell? ⟨A, 10, none⟩ = some (.int .i64 x.right.n) := HK1.out.cell 10; have d11 : w1.cell? ⟨A, 11, none⟩ = some (.int .i64 x.right.pos) := HK1.out.cell 11; clear hb) | (go_at_call 167; (with_reducible refine (okTerm_any x.right _ HTR.out).mono ?_); rintro e w2 ⟨rfl, hb⟩; have HB2 := hdn (HB1.out.trans (hb.mono HB1.out.size)); clear hb))
 go_ret
 exact ⟨rfl, HB2.out⟩
theorem bare6truetrue (x : Vl) (w : World) (hl : Pn.okTerm x.left = true) (hr : Pn.okTerm x.right = true) (k : x.kind = 6) (p1 : (x.path.name.toList == []) = true) (p2 : x.path.hops.l.length = 0) (he : (x.left.name.toList == []) = true) (he2 : (x.right.name.toList == []) = true) (t1 : (x.type.toList == []) = true) :
  Calls Tryz.prog 144 #[.agg #[.int .i64 x.kind, .int .i64 x.pos, .string x.path.name, .int .i64 x.path.pos, .slice x.path.hops.p x.path.hops.l.length x.path.hops.cap, .string x.type, .string x.left.name, .int .i64 x.left.n, .int .i64 x.left.pos, .string x.right.name, .int .i64 x.right.n, .int .i64 x.right.pos]] w fun e w' => e = .returned (.bool true) ∧ Below w.heap.size w w' := by
 have HTL := hdn hl; have HTR := hdn hr
 clear hl hr
 have Z_k := hdn k
 clear k
 have Z_p1 := hdn p1
 clear p1
 have Z_p2 := hdn p2
 clear p2
 have Z_he := hdn he
 clear he
 have Z_he2 := hdn he2
 clear he2
 have Z_t1 := hdn t1
 clear t1
 obtain ⟨wA, hwA⟩ : ∃ wA : World, wA = w.alloc (.cells #[.int .i64 x.kind, .int .i64 x.pos, .string x.path.name, .int .i64 x.path.pos, .slice x.path.hops.p x.path.hops.l.length x.path.hops.cap, .string x.type, .string x.left.name, .int .i64 x.left.n, .int .i64 x.left.pos, .string x.right.name, .int .i64 x.right.n, .int .i64 x.right.pos] 49) := ⟨_, rfl⟩
 have HBA : Hid (Below w.heap.size w wA) := hdn (by rw [hwA]; exact (Below.refl _ _).alloc (Nat.le_refl _) _)
 have HK : Hid (Bk wA w.heap.size 49 #[.int .i64 x.kind, .int .i64 x.pos, .string x.path.name, .int .i64 x.path.pos, .slice x.path.hops.p x.path.hops.l.length x.path.hops.cap, .string x.type, .string x.left.name, .int .i64 x.left.n, .int .i64 x.left.pos, .string x.right.name, .int .i64 x.right.n, .int .i64 x.right.pos]) := hdn (by rw [hwA]; exact heap_alloc_new _ _)
 go_enter Tryz.func144, Tryz.ntmps144
 go_upto_region 1 with fail
 rw [← hwA]
 clear hwA
 obtain ⟨A, hA⟩ : ∃ A, A = w.heap.size := ⟨_, rfl⟩
 rw [← hA] at HK ⊢
 have HA := hdn hA
 clear hA
 have c0 : wA.cell? ⟨A, 0, none⟩ = some (.int .i64 x.kind) := HK.out.cell 0
 have c1 : wA.cell? ⟨A, 1, none⟩ = some (.int .i64 x.pos) := HK.out.cell 1
 have c2 : wA.cell? ⟨A, 2, none⟩ = some (.string x.path.name) := HK.out.cell 2
 have c3 : wA.cell? ⟨A, 3, none⟩ = some (.int .i64 x.path.pos) := HK.out.cell 3
 have c4 : wA.cell? ⟨A, 4, none⟩ = some (.slice x.path.hops.p x.path.hops.l.length x.path.hops.cap) := HK.out.cell 4
 have c5 : wA.cell? ⟨A, 5, none⟩ = some (.string x.type) := HK.out.cell 5
 have c6 : wA.cell? ⟨A, 6, none⟩ = some (.string x.left.name) := HK.out.cell 6
 have c7 : wA.cell? ⟨A, 7, none⟩ = some (.int .i64 x.left.n) := HK.out.cell 7
 have c8 : wA.cell? ⟨A, 8, none⟩ = some (.int .i64 x.left.pos) := HK.out.cell 8
 have c9 : wA.cell? ⟨A, 9, none⟩ = some (.string x.right.name) := HK.out.cell 9
 have c10 : wA.cell? ⟨A, 10, none⟩ = some (.int .i64 x.right.n) := HK.out.cell 10
 have c11 : wA.cell? ⟨A, 11, none⟩ = some (.int .i64 x.right.pos) := HK.out.cell 11
 have k := Z_k.out
 have p1 := Z_p1.out
 have p2 := Z_p2.out
 have he := Z_he.out
 have he2 := Z_he2.out
 have t1 := Z_t1.out
 go_wp2_with (first | (go_at_call 167; (with_reducible refine (okTerm_any x.left _ HTL.out).mono ?_); rintro e w1 ⟨rfl, hb⟩; have HB1 := hdn (HBA.out.trans (hb.mono HBA.out.size)); have HK1 := hdn (HK.out.below hb HK.out.lt); have d9 : w1.cell? ⟨A, 9, none⟩ = some (.string x.right.name) := HK1.out.cell 9; have d10 : w1.cell? ⟨A, 10, none⟩ = some (.int .i64 x.right.n) := HK1.out.cell 10; have d11 : w1.cell? ⟨A, 11, none⟩ = some (.int .i64 x.right.pos) := HK1.out.cell 11; clear hb) | (go_at_call 167; (with_reducible refine (okTerm_any x.right _ HTR.out).mono ?_); rintro e w2 ⟨rfl, hb⟩; have HB2 := hdn (HB1.out.trans (hb.mono HB1.out.size)); clear hb))
 go_ret
 exact ⟨rfl, HB2.out⟩
theorem bare6truefalse (x : Vl) (w : World) (hl : Pn.okTerm x.left = true) (hr : Pn.okTerm x.right = true) (k : x.kind = 6) (p1 : (x.path.name.toList == []) = true) (p2 : x.path.hops.l.length = 0) (he : (x.left.name.toList == []) = true) (he2 : (x.right.name.toList == []) = false) (t1 : (x.type.toList == []) = true) :
  Calls Tryz.prog 144 #[.agg #[.int .i64 x.kind, .int .i64 x.pos, .string x.path.name, .int .i64 x.path.pos, .slice x.path.hops.p x.path.hops.l.length x.path.hops.cap, .string x.type, .string x.left.name, .int .i64 x.left.n, .int .i64 x.left.pos, .string x.right.name, .int .i64 x.right.n, .int .i64 x.right.pos]] w fun e w' => e = .returned (.bool true) ∧ Below w.heap.size w w' := by
 have HTL := hdn hl; have HTR := hdn hr
 clear hl hr
 have Z_k := hdn k
 clear k
 have Z_p1 := hdn p1
 clear p1
 have Z_p2 := hdn p2
 clear p2
 have Z_he := hdn he
 clear he
 have Z_he2 := hdn he2
 clear he2
 have Z_t1 := hdn t1
 clear t1
 obtain ⟨wA, hwA⟩ : ∃ wA : World, wA = w.alloc (.cells #[.int .i64 x.kind, .int .i64 x.pos, .string x.path.name, .int .i64 x.path.pos, .slice x.path.hops.p x.path.hops.l.length x.path.hops.cap, .string x.type, .string x.left.name, .int .i64 x.left.n, .int .i64 x.left.pos, .string x.right.name, .int .i64 x.right.n, .int .i64 x.right.pos] 49) := ⟨_, rfl⟩
 have HBA : Hid (Below w.heap.size w wA) := hdn (by rw [hwA]; exact (Below.refl _ _).alloc (Nat.le_refl _) _)
 have HK : Hid (Bk wA w.heap.size 49 #[.int .i64 x.kind, .int .i64 x.pos, .string x.path.name, .int .i64 x.path.pos, .slice x.path.hops.p x.path.hops.l.length x.path.hops.cap, .string x.type, .string x.left.name, .int .i64 x.left.n, .int .i64 x.left.pos, .string x.right.name, .int .i64 x.right.n, .int .i64 x.right.pos]) := hdn (by rw [hwA]; exact heap_alloc_new _ _)
 go_enter Tryz.func144, Tryz.ntmps144
 go_upto_region 1 with fail
 rw [← hwA]
 clear hwA
 obtain ⟨A, hA⟩ : ∃ A, A = w.heap.size := ⟨_, rfl⟩
 rw [← hA] at HK ⊢
 have HA := hdn hA
 clear hA
 have c0 : wA.cell? ⟨A, 0, none⟩ = some (.int .i64 x.kind) := HK.out.cell 0
 have c1 : wA.cell? ⟨A, 1, none⟩ = some (.int .i64 x.pos) := HK.out.cell 1
 have c2 : wA.cell? ⟨A, 2, none⟩ = some (.string x.path.name) := HK.out.cell 2
 have c3 : wA.cell? ⟨A, 3, none⟩ = some (.int .i64 x.path.pos) := HK.out.cell 3
 have c4 : wA.cell? ⟨A, 4, none⟩ = some (.slice x.path.hops.p x.path.hops.l.length x.path.hops.cap) := HK.out.cell 4
 have c5 : wA.cell? ⟨A, 5, none⟩ = some (.string x.type) := HK.out.cell 5
 have c6 : wA.cell? ⟨A, 6, none⟩ = some (.string x.left.name) := HK.out.cell 6
 have c7 : wA.cell? ⟨A, 7, none⟩ = some (.int .i64 x.left.n) := HK.out.cell 7
 have c8 : wA.cell? ⟨A, 8, none⟩ = some (.int .i64 x.left.pos) := HK.out.cell 8
 have c9 : wA.cell? ⟨A, 9, none⟩ = some (.string x.right.name) := HK.out.cell 9
 have c10 : wA.cell? ⟨A, 10, none⟩ = some (.int .i64 x.right.n) := HK.out.cell 10
 have c11 : wA.cell? ⟨A, 11, none⟩ = some (.int .i64 x.right.pos) := HK.out.cell 11
 have k := Z_k.out
 have p1 := Z_p1.out
 have p2 := Z_p2.out
 have he := Z_he.out
 have he2 := Z_he2.out
 have t1 := Z_t1.out
 go_wp2_with (first | (go_at_call 167; (with_reducible refine (okTerm_any x.left _ HTL.out).mono ?_); rintro e w1 ⟨rfl, hb⟩; have HB1 := hdn (HBA.out.trans (hb.mono HBA.out.size)); have HK1 := hdn (HK.out.below hb HK.out.lt); have d9 : w1.cell? ⟨A, 9, none⟩ = some (.string x.right.name) := HK1.out.cell 9; have d10 : w1.cell? ⟨A, 10, none⟩ = some (.int .i64 x.right.n) := HK1.out.cell 10; have d11 : w1.cell? ⟨A, 11, none⟩ = some (.int .i64 x.right.pos) := HK1.out.cell 11; clear hb) | (go_at_call 167; (with_reducible refine (okTerm_any x.right _ HTR.out).mono ?_); rintro e w2 ⟨rfl, hb⟩; have HB2 := hdn (HB1.out.trans (hb.mono HB1.out.size)); clear hb))
 go_ret
 exact ⟨rfl, HB2.out⟩
theorem bare6falsetrue (x : Vl) (w : World) (hl : Pn.okTerm x.left = true) (hr : Pn.okTerm x.right = true) (k : x.kind = 6) (p1 : (x.path.name.toList == []) = true) (p2 : x.path.hops.l.length = 0) (he : (x.left.name.toList == []) = false) (he2 : (x.right.name.toList == []) = true) (t1 : (x.type.toList == []) = true) :
  Calls Tryz.prog 144 #[.agg #[.int .i64 x.kind, .int .i64 x.pos, .string x.path.name, .int .i64 x.path.pos, .slice x.path.hops.p x.path.hops.l.length x.path.hops.cap, .string x.type, .string x.left.name, .int .i64 x.left.n, .int .i64 x.left.pos, .string x.right.name, .int .i64 x.right.n, .int .i64 x.right.pos]] w fun e w' => e = .returned (.bool true) ∧ Below w.heap.size w w' := by
 have HTL := hdn hl; have HTR := hdn hr
 clear hl hr
 have Z_k := hdn k
 clear k
 have Z_p1 := hdn p1
 clear p1
 have Z_p2 := hdn p2
 clear p2
 have Z_he := hdn he
 clear he
 have Z_he2 := hdn he2
 clear he2
 have Z_t1 := hdn t1
 clear t1
 obtain ⟨wA, hwA⟩ : ∃ wA : World, wA = w.alloc (.cells #[.int .i64 x.kind, .int .i64 x.pos, .string x.path.name, .int .i64 x.path.pos, .slice x.path.hops.p x.path.hops.l.length x.path.hops.cap, .string x.type, .string x.left.name, .int .i64 x.left.n, .int .i64 x.left.pos, .string x.right.name, .int .i64 x.right.n, .int .i64 x.right.pos] 49) := ⟨_, rfl⟩
 have HBA : Hid (Below w.heap.size w wA) := hdn (by rw [hwA]; exact (Below.refl _ _).alloc (Nat.le_refl _) _)
 have HK : Hid (Bk wA w.heap.size 49 #[.int .i64 x.kind, .int .i64 x.pos, .string x.path.name, .int .i64 x.path.pos, .slice x.path.hops.p x.path.hops.l.length x.path.hops.cap, .string x.type, .string x.left.name, .int .i64 x.left.n, .int .i64 x.left.pos, .string x.right.name, .int .i64 x.right.n, .int .i64 x.right.pos]) := hdn (by rw [hwA]; exact heap_alloc_new _ _)
 go_enter Tryz.func144, Tryz.ntmps144
 go_upto_region 1 with fail
 rw [← hwA]
 clear hwA
 obtain ⟨A, hA⟩ : ∃ A, A = w.heap.size := ⟨_, rfl⟩
 rw [← hA] at HK ⊢
 have HA := hdn hA
 clear hA
 have c0 : wA.cell? ⟨A, 0, none⟩ = some (.int .i64 x.kind) := HK.out.cell 0
 have c1 : wA.cell? ⟨A, 1, none⟩ = some (.int .i64 x.pos) := HK.out.cell 1
 have c2 : wA.cell? ⟨A, 2, none⟩ = some (.string x.path.name) := HK.out.cell 2
 have c3 : wA.cell? ⟨A, 3, none⟩ = some (.int .i64 x.path.pos) := HK.out.cell 3
 have c4 : wA.cell? ⟨A, 4, none⟩ = some (.slice x.path.hops.p x.path.hops.l.length x.path.hops.cap) := HK.out.cell 4
 have c5 : wA.cell? ⟨A, 5, none⟩ = some (.string x.type) := HK.out.cell 5
 have c6 : wA.cell? ⟨A, 6, none⟩ = some (.string x.left.name) := HK.out.cell 6
 have c7 : wA.cell? ⟨A, 7, none⟩ = some (.int .i64 x.left.n) := HK.out.cell 7
 have c8 : wA.cell? ⟨A, 8, none⟩ = some (.int .i64 x.left.pos) := HK.out.cell 8
 have c9 : wA.cell? ⟨A, 9, none⟩ = some (.string x.right.name) := HK.out.cell 9
 have c10 : wA.cell? ⟨A, 10, none⟩ = some (.int .i64 x.right.n) := HK.out.cell 10
 have c11 : wA.cell? ⟨A, 11, none⟩ = some (.int .i64 x.right.pos) := HK.out.cell 11
 have k := Z_k.out
 have p1 := Z_p1.out
 have p2 := Z_p2.out
 have he := Z_he.out
 have he2 := Z_he2.out
 have t1 := Z_t1.out
 go_wp2_with (first | (go_at_call 167; (with_reducible refine (okTerm_any x.left _ HTL.out).mono ?_); rintro e w1 ⟨rfl, hb⟩; have HB1 := hdn (HBA.out.trans (hb.mono HBA.out.size)); have HK1 := hdn (HK.out.below hb HK.out.lt); have d9 : w1.cell? ⟨A, 9, none⟩ = some (.string x.right.name) := HK1.out.cell 9; have d10 : w1.cell? ⟨A, 10, none⟩ = some (.int .i64 x.right.n) := HK1.out.cell 10; have d11 : w1.cell? ⟨A, 11, none⟩ = some (.int .i64 x.right.pos) := HK1.out.cell 11; clear hb) | (go_at_call 167; (with_reducible refine (okTerm_any x.right _ HTR.out).mono ?_); rintro e w2 ⟨rfl, hb⟩; have HB2 := hdn (HB1.out.trans (hb.mono HB1.out.size)); clear hb))
 go_ret
 exact ⟨rfl, HB2.out⟩
theorem bare6falsefalse (x : Vl) (w : World) (hl : Pn.okTerm x.left = true) (hr : Pn.okTerm x.right = true) (k : x.kind = 6) (p1 : (x.path.name.toList == []) = true) (p2 : x.path.hops.l.length = 0) (he : (x.left.name.toList == []) = false) (he2 : (x.right.name.toList == []) = false) (t1 : (x.type.toList == []) = true) :
  Calls Tryz.prog 144 #[.agg #[.int .i64 x.kind, .int .i64 x.pos, .string x.path.name, .int .i64 x.path.pos, .slice x.path.hops.p x.path.hops.l.length x.path.hops.cap, .string x.type, .string x.left.name, .int .i64 x.left.n, .int .i64 x.left.pos, .string x.right.name, .int .i64 x.right.n, .int .i64 x.right.pos]] w fun e w' => e = .returned (.bool true) ∧ Below w.heap.size w w' := by
 have HTL := hdn hl; have HTR := hdn hr
 clear hl hr
 have Z_k := hdn k
 clear k
 have Z_p1 := hdn p1
 clear p1
 have Z_p2 := hdn p2
 clear p2
 have Z_he := hdn he
 clear he
 have Z_he2 := hdn he2
 clear he2
 have Z_t1 := hdn t1
 clear t1
 obtain ⟨wA, hwA⟩ : ∃ wA : World, wA = w.alloc (.cells #[.int .i64 x.kind, .int .i64 x.pos, .string x.path.name, .int .i64 x.path.pos, .slice x.path.hops.p x.path.hops.l.length x.path.hops.cap, .string x.type, .string x.left.name, .int .i64 x.left.n, .int .i64 x.left.pos, .string x.right.name, .int .i64 x.right.n, .int .i64 x.right.pos] 49) := ⟨_, rfl⟩
 have HBA : Hid (Below w.heap.size w wA) := hdn (by rw [hwA]; exact (Below.refl _ _).alloc (Nat.le_refl _) _)
 have HK : Hid (Bk wA w.heap.size 49 #[.int .i64 x.kind, .int .i64 x.pos, .string x.path.name, .int .i64 x.path.pos, .slice x.path.hops.p x.path.hops.l.length x.path.hops.cap, .string x.type, .string x.left.name, .int .i64 x.left.n, .int .i64 x.left.pos, .string x.right.name, .int .i64 x.right.n, .int .i64 x.right.pos]) := hdn (by rw [hwA]; exact heap_alloc_new _ _)
 go_enter Tryz.func144, Tryz.ntmps144
 go_upto_region 1 with fail
 rw [← hwA]
 clear hwA
 obtain ⟨A, hA⟩ : ∃ A, A = w.heap.size := ⟨_, rfl⟩
 rw [← hA] at HK ⊢
 have HA := hdn hA
 clear hA
 have c0 : wA.cell? ⟨A, 0, none⟩ = some (.int .i64 x.kind) := HK.out.cell 0
 have c1 : wA.cell? ⟨A, 1, none⟩ = some (.int .i64 x.pos) := HK.out.cell 1
 have c2 : wA.cell? ⟨A, 2, none⟩ = some (.string x.path.name) := HK.out.cell 2
 have c3 : wA.cell? ⟨A, 3, none⟩ = some (.int .i64 x.path.pos) := HK.out.cell 3
 have c4 : wA.cell? ⟨A, 4, none⟩ = some (.slice x.path.hops.p x.path.hops.l.length x.path.hops.cap) := HK.out.cell 4
 have c5 : wA.cell? ⟨A, 5, none⟩ = some (.string x.type) := HK.out.cell 5
 have c6 : wA.cell? ⟨A, 6, none⟩ = some (.string x.left.name) := HK.out.cell 6
 have c7 : wA.cell? ⟨A, 7, none⟩ = some (.int .i64 x.left.n) := HK.out.cell 7
 have c8 : wA.cell? ⟨A, 8, none⟩ = some (.int .i64 x.left.pos) := HK.out.cell 8
 have c9 : wA.cell? ⟨A, 9, none⟩ = some (.string x.right.name) := HK.out.cell 9
 have c10 : wA.cell? ⟨A, 10, none⟩ = some (.int .i64 x.right.n) := HK.out.cell 10
 have c11 : wA.cell? ⟨A, 11, none⟩ = some (.int .i64 x.right.pos) := HK.out.cell 11
 have k := Z_k.out
 have p1 := Z_p1.out
 have p2 := Z_p2.out
 have he := Z_he.out
 have he2 := Z_he2.out
 have t1 := Z_t1.out
 go_wp2_with (first | (go_at_call 167; (with_reducible refine (okTerm_any x.left _ HTL.out).mono ?_); rintro e w1 ⟨rfl, hb⟩; have HB1 := hdn (HBA.out.trans (hb.mono HBA.out.size)); have HK1 := hdn (HK.out.below hb HK.out.lt); have d9 : w1.cell? ⟨A, 9, none⟩ = some (.string x.right.name) := HK1.out.cell 9; have d10 : w1.cell? ⟨A, 10, none⟩ = some (.int .i64 x.right.n) := HK1.out.cell 10; have d11 : w1.cell? ⟨A, 11, none⟩ = some (.int .i64 x.right.pos) := HK1.out.cell 11; clear hb) | (go_at_call 167; (with_reducible refine (okTerm_any x.right _ HTR.out).mono ?_); rintro e w2 ⟨rfl, hb⟩; have HB2 := hdn (HB1.out.trans (hb.mono HB1.out.size)); clear hb))
 go_ret
 exact ⟨rfl, HB2.out⟩
theorem bare_any (x : Vl) (w : World) (hl : vlLies w x) (ho : Pn.okVal x = true) :
  Calls Tryz.prog 144 #[.agg #[.int .i64 x.kind, .int .i64 x.pos, .string x.path.name, .int .i64 x.path.pos, .slice x.path.hops.p x.path.hops.l.length x.path.hops.cap, .string x.type, .string x.left.name, .int .i64 x.left.n, .int .i64 x.left.pos, .string x.right.name, .int .i64 x.right.n, .int .i64 x.right.pos]] w fun e w' => e = .returned (.bool true) ∧ Below w.heap.size w w' := by
 unfold Pn.okVal at ho
 by_cases k0 : x.kind = 0 ∨ x.kind = 3
 ·rw [if_pos k0] at ho
  simp only [Bool.and_eq_true, Pn.noP, Pn.noT, decide_eq_true_eq] at ho
  obtain ⟨⟨⟨⟨p1, p2⟩, l1, l2⟩, r1, r2⟩, t1⟩ := ho
  have p2 : x.path.hops.l.length = 0 := by rw [p2]; rfl
  rcases k0 with k | k
  ·exact bare0 x w k (e_txt p1) p2 (e_txt l1) l2 (e_txt r1) r2 (e_txt t1)
  ·exact bare3 x w k (e_txt p1) p2 (e_txt l1) l2 (e_txt r1) r2 (e_txt t1)
 rw [if_neg k0] at ho
 by_cases k1 : x.kind = 1
 ·rw [if_pos k1] at ho
  simp only [Bool.and_eq_true, Pn.noT, decide_eq_true_eq] at ho
  obtain ⟨⟨⟨⟨l1, l2⟩, r1, r2⟩, t1⟩, hp⟩ := ho
  cases he : (x.path.name.toList == [])
  ·exact bare1false x w hl hp k1 he (e_txt l1) l2 (e_txt r1) r2 (e_txt t1)
  ·exact bare1true x w hl hp k1 he (e_txt l1) l2 (e_txt r1) r2 (e_txt t1)
 rw [if_neg k1] at ho
 by_cases k2 : x.kind = 2
 ·rw [if_pos k2] at ho
  simp only [Bool.and_eq_true, Pn.noP, Pn.noT, decide_eq_true_eq] at ho
  obtain ⟨⟨⟨⟨p1, p2⟩, l1, l2⟩, r1, r2⟩, t1⟩ := ho
  exact bare2 x w t1 k2 (e_txt p1) (by rw [p2]; rfl) (e_txt l1) l2 (e_txt r1) r2
 rw [if_neg k2] at ho
 by_cases k4 : x.kind = 4
 ·rw [if_pos k4] at ho
  simp only [Bool.and_eq_true, Pn.noP, Pn.noT, decide_eq_true_eq] at ho
  obtain ⟨⟨⟨⟨⟨p1, p2⟩, r1, r2⟩, t1⟩, l1⟩, hn⟩ := ho
  exact bare4 x w hn k4 (e_txt p1) (by rw [p2]; rfl) (e_txt l1) (e_txt r1) r2 (e_txt t1)
 rw [if_neg k4] at ho
 by_cases k5 : x.kind = 5 ∨ x.kind = 6
 ·rw [if_pos k5] at ho
  simp only [Bool.and_eq_true, Pn.noP, decide_eq_true_eq] at ho
  obtain ⟨⟨⟨⟨p1, p2⟩, t1⟩, hl⟩, hr⟩ := ho
  have p2 : x.path.hops.l.length = 0 := by rw [p2]; rfl
  rcases k5 with k | k <;> cases he : (x.left.name.toList == []) <;> cases he2 : (x.right.name.toList == [])
  ·exact bare5falsefalse x w hl hr k (e_txt p1) p2 he he2 (e_txt t1)
  ·exact bare5falsetrue x w hl hr k (e_txt p1) p2 he he2 (e_txt t1)
  ·exact bare5truefalse x w hl hr k (e_txt p1) p2 he he2 (e_txt t1)
  ·exact bare5truetrue x w hl hr k (e_txt p1) p2 he he2 (e_txt t1)
  ·exact bare6falsefalse x w hl hr k (e_txt p1) p2 he he2 (e_txt t1)
  ·exact bare6falsetrue x w hl hr k (e_txt p1) p2 he he2 (e_txt t1)
  ·exact bare6truefalse x w hl hr k (e_txt p1) p2 he he2 (e_txt t1)
  ·exact bare6truetrue x w hl hr k (e_txt p1) p2 he he2 (e_txt t1)
 ·rw [if_neg k5] at ho
  cases ho
end Go.Proofs.YtdlchhimkelinaaGreatDoor
namespace Go.Proofs.YtdlchhimkelinaaGreatDoor
open Go.RowKit Go.Sort
theorem side0 (x : Vl) (w : World) (hl : vlLies w x) (ho : Pn.okVal x = true) (k : x.kind = 0) : Calls Tryz.prog 145 #[.agg #[.int .i64 x.kind, .int .i64 x.pos, .string x.path.name, .int .i64 x.path.pos, .slice x.path.hops.p x.path.hops.l.length x.path.hops.cap, .string x.type, .string x.left.name, .int .i64 x.left.n, .int .i64 x.left.pos, .string x.right.name, .int .i64 x.right.n, .int .i64 x.right.pos]] w fun e w' => e = .returned (.bool true) ∧ Below w.heap.size w w' := by
 have Z_hl := hdn hl
 clear hl
 have Z_ho := hdn ho
 clear ho
 have Z_k := hdn k
 clear k
 obtain ⟨wA, hwA⟩ : ∃ wA : World, wA = w.alloc (.cells #[.int .i64 x.kind, .int .i64 x.pos, .string x.path.name, .int .i64 x.path.pos, .slice x.path.hops.p x.path.hops.l.length x.path.hops.cap, .string x.type, .string x.left.name, .int .i64 x.left.n, .int .i64 x.left.pos, .string x.right.name, .int .i64 x.right.n, .int .i64 x.right.pos] 49) := ⟨_, rfl⟩
 have HBA : Hid (Below w.heap.size w wA) := hdn (by rw [hwA]; exact (Below.refl _ _).alloc (Nat.le_refl _) _)
 have HK : Hid (Bk wA w.heap.size 49 #[.int .i64 x.kind, .int .i64 x.pos, .string x.path.name, .int .i64 x.path.pos, .slice x.path.hops.p x.path.hops.l.length x.path.hops.cap, .string x.type, .string x.left.name, .int .i64 x.left.n, .int .i64 x.left.pos, .string x.right.name, .int .i64 x.right.n, .int .i64 x.right.pos]) := hdn (by rw [hwA]; exact heap_alloc_new _ _)
 go_enter Tryz.func145, Tryz.ntmps145
 go_upto_region 1 with fail
 rw [← hwA]
 clear hwA
 obtain ⟨A, hA⟩ : ∃ A, A = w.heap.size := ⟨_, rfl⟩
 rw [← hA] at HK ⊢
 have HA := hdn hA
 clear hA
 have c0 : wA.cell? ⟨A, 0, none⟩ = some (.int .i64 x.kind) := HK.out.cell 0
 have c1 : wA.cell? ⟨A, 1, none⟩ = some (.int .i64 x.pos) := HK.out.cell 1
 have c2 : wA.cell? ⟨A, 2, none⟩ = some (.string x.path.name) := HK.out.cell 2
 have c3 : wA.cell? ⟨A, 3, none⟩ = some (.int .i64 x.path.pos) := HK.out.cell 3
 have c4 : wA.cell? ⟨A, 4, none⟩ = some (.slice x.path.hops.p x.path.hops.l.length x.path.hops.cap) := HK.out.cell 4
 have c5 : wA.cell? ⟨A, 5, none⟩ = some (.string x.type) := HK.out.cell 5
 have c6 : wA.cell? ⟨A, 6, none⟩ = some (.string x.left.name) := HK.out.cell 6
 have c7 : wA.cell? ⟨A, 7, none⟩ = some (.int .i64 x.left.n) := HK.out.cell 7
 have c8 : wA.cell? ⟨A, 8, none⟩ = some (.int .i64 x.left.pos) := HK.out.cell 8
 have c9 : wA.cell? ⟨A, 9, none⟩ = some (.string x.right.name) := HK.out.cell 9
 have c10 : wA.cell? ⟨A, 10, none⟩ = some (.int .i64 x.right.n) := HK.out.cell 10
 have c11 : wA.cell? ⟨A, 11, none⟩ = some (.int .i64 x.right.pos) := HK.out.cell 11
 have HL1 := hdn (vlLies_below Z_hl.out HBA.out)
 go_wp2_with (first | ((with_reducible show wpList _ _ _ (Oper.mk (some 3) (Op.load 49 _) _ _ _ _ :: _) _ _); refine wpList_load_bk rfl 49 (.tmp 1) rfl A 49 #[.int .i64 x.kind, .int .i64 x.pos, .string x.path.name, .int .i64 x.path.pos, .slice x.path.hops.p x.path.hops.l.length x.path.hops.cap, .string x.type, .string x.left.name, .int .i64 x.left.n, .int .i64 x.left.pos, .string x.right.name, .int .i64 x.right.n, .int .i64 x.right.pos] rfl _ HK.out Tryz.underlying49 rfl size52 ?_) | (go_at_call 144; refine (bare_any x _ HL1.out Z_ho.out).mono ?_; rintro e w1 ⟨rfl, hb⟩; have HB1 := hdn (HBA.out.trans (hb.mono HBA.out.size)); have HK1 := hdn (HK.out.below hb HK.out.lt); have d0 : w1.cell? ⟨A, 0, none⟩ = some (.int .i64 x.kind) := HK1.out.cell 0; have k := Z_k.out; clear hb))
 go_ret
 exact ⟨rfl, HB1.out⟩
theorem side1 (x : Vl) (w : World) (hl : vlLies w x) (ho : Pn.okVal x = true) (k : x.kind = 1) : Calls Tryz.prog 145 #[.agg #[.int .i64 x.kind, .int .i64 x.pos, .string x.path.name, .int .i64 x.path.pos, .slice x.path.hops.p x.path.hops.l.length x.path.hops.cap, .string x.type, .string x.left.name, .int .i64 x.left.n, .int .i64 x.left.pos, .string x.right.name, .int .i64 x.right.n, .int .i64 x.right.pos]] w fun e w' => e = .returned (.bool true) ∧ Below w.heap.size w w' := by
 have Z_hl := hdn hl
 clear hl
 have Z_ho := hdn ho
 clear ho
 have Z_k := hdn k
 clear k
 obtain ⟨wA, hwA⟩ : ∃ wA : World, wA = w.alloc (.cells #[.int .i64 x.kind, .int .i64 x.pos, .string x.path.name, .int .i64 x.path.pos, .slice x.path.hops.p x.path.hops.l.length x.path.hops.cap, .string x.type, .string x.left.name, .int .i64 x.left.n, .int .i64 x.left.pos, .string x.right.name, .int .i64 x.right.n, .int .i64 x.right.pos] 49) := ⟨_, rfl⟩
 have HBA : Hid (Below w.heap.size w wA) := hdn (by rw [hwA]; exact (Below.refl _ _).alloc (Nat.le_refl _) _)
 have HK : Hid (Bk wA w.heap.size 49 #[.int .i64 x.kind, .int .i64 x.pos, .string x.path.name, .int .i64 x.path.pos, .slice x.path.hops.p x.path.hops.l.length x.path.hops.cap, .string x.type, .string x.left.name, .int .i64 x.left.n, .int .i64 x.left.pos, .string x.right.name, .int .i64 x.right.n, .int .i64 x.right.pos]) := hdn (by rw [hwA]; exact heap_alloc_new _ _)
 go_enter Tryz.func145, Tryz.ntmps145
 go_upto_region 1 with fail
 rw [← hwA]
 clear hwA
 obtain ⟨A, hA⟩ : ∃ A, A = w.heap.size := ⟨_, rfl⟩
 rw [← hA] at HK ⊢
 have HA := hdn hA
 clear hA
 have c0 : wA.cell? ⟨A, 0, none⟩ = some (.int .i64 x.kind) := HK.out.cell 0
 have c1 : wA.cell? ⟨A, 1, none⟩ = some (.int .i64 x.pos) := HK.out.cell 1
 have c2 : wA.cell? ⟨A, 2, none⟩ = some (.string x.path.name) := HK.out.cell 2
 have c3 : wA.cell? ⟨A, 3, none⟩ = some (.int .i64 x.path.pos) := HK.out.cell 3
 have c4 : wA.cell? ⟨A, 4, none⟩ = some (.slice x.path.hops.p x.path.hops.l.length x.path.hops.cap) := HK.out.cell 4
 have c5 : wA.cell? ⟨A, 5, none⟩ = some (.string x.type) := HK.out.cell 5
 have c6 : wA.cell? ⟨A, 6, none⟩ = some (.string x.left.name) := HK.out.cell 6
 have c7 : wA.cell? ⟨A, 7, none⟩ = some (.int .i64 x.left.n) := HK.out.cell 7
 have c8 : wA.cell? ⟨A, 8, none⟩ = some (.int .i64 x.left.pos) := HK.out.cell 8
 have c9 : wA.cell? ⟨A, 9, none⟩ = some (.string x.right.name) := HK.out.cell 9
 have c10 : wA.cell? ⟨A, 10, none⟩ = some (.int .i64 x.right.n) := HK.out.cell 10
 have c11 : wA.cell? ⟨A, 11, none⟩ = some (.int .i64 x.right.pos) := HK.out.cell 11
 have HL1 := hdn (vlLies_below Z_hl.out HBA.out)
 go_wp2_with (first | ((with_reducible show wpList _ _ _ (Oper.mk (some 3) (Op.load 49 _) _ _ _ _ :: _) _ _); refine wpList_load_bk rfl 49 (.tmp 1) rfl A 49 #[.int .i64 x.kind, .int .i64 x.pos, .string x.path.name, .int .i64 x.path.pos, .slice x.path.hops.p x.path.hops.l.length x.path.hops.cap, .string x.type, .string x.left.name, .int .i64 x.left.n, .int .i64 x.left.pos, .string x.right.name, .int .i64 x.right.n, .int .i64 x.right.pos] rfl _ HK.out Tryz.underlying49 rfl size52 ?_) | (go_at_call 144; refine (bare_any x _ HL1.out Z_ho.out).mono ?_; rintro e w1 ⟨rfl, hb⟩; have HB1 := hdn (HBA.out.trans (hb.mono HBA.out.size)); have HK1 := hdn (HK.out.below hb HK.out.lt); have d0 : w1.cell? ⟨A, 0, none⟩ = some (.int .i64 x.kind) := HK1.out.cell 0; have k := Z_k.out; clear hb))
 go_ret
 exact ⟨rfl, HB1.out⟩
theorem side4 (x : Vl) (w : World) (hl : vlLies w x) (ho : Pn.okVal x = true) (k : x.kind = 4) : Calls Tryz.prog 145 #[.agg #[.int .i64 x.kind, .int .i64 x.pos, .string x.path.name, .int .i64 x.path.pos, .slice x.path.hops.p x.path.hops.l.length x.path.hops.cap, .string x.type, .string x.left.name, .int .i64 x.left.n, .int .i64 x.left.pos, .string x.right.name, .int .i64 x.right.n, .int .i64 x.right.pos]] w fun e w' => e = .returned (.bool true) ∧ Below w.heap.size w w' := by
 have Z_hl := hdn hl
 clear hl
 have Z_ho := hdn ho
 clear ho
 have Z_k := hdn k
 clear k
 obtain ⟨wA, hwA⟩ : ∃ wA : World, wA = w.alloc (.cells #[.int .i64 x.kind, .int .i64 x.pos, .string x.path.name, .int .i64 x.path.pos, .slice x.path.hops.p x.path.hops.l.length x.path.hops.cap, .string x.type, .string x.left.name, .int .i64 x.left.n, .int .i64 x.left.pos, .string x.right.name, .int .i64 x.right.n, .int .i64 x.right.pos] 49) := ⟨_, rfl⟩
 have HBA : Hid (Below w.heap.size w wA) := hdn (by rw [hwA]; exact (Below.refl _ _).alloc (Nat.le_refl _) _)
 have HK : Hid (Bk wA w.heap.size 49 #[.int .i64 x.kind, .int .i64 x.pos, .string x.path.name, .int .i64 x.path.pos, .slice x.path.hops.p x.path.hops.l.length x.path.hops.cap, .string x.type, .string x.left.name, .int .i64 x.left.n, .int .i64 x.left.pos, .string x.right.name, .int .i64 x.right.n, .int .i64 x.right.pos]) := hdn (by rw [hwA]; exact heap_alloc_new _ _)
 go_enter Tryz.func145, Tryz.ntmps145
 go_upto_region 1 with fail
 rw [← hwA]
 clear hwA
 obtain ⟨A, hA⟩ : ∃ A, A = w.heap.size := ⟨_, rfl⟩
 rw [← hA] at HK ⊢
 have HA := hdn hA
 clear hA
 have c0 : wA.cell? ⟨A, 0, none⟩ = some (.int .i64 x.kind) := HK.out.cell 0
 have c1 : wA.cell? ⟨A, 1, none⟩ = some (.int .i64 x.pos) := HK.out.cell 1
 have c2 : wA.cell? ⟨A, 2, none⟩ = some (.string x.path.name) := HK.out.cell 2
 have c3 : wA.cell? ⟨A, 3, none⟩ = some (.int .i64 x.path.pos) := HK.out.cell 3
 have c4 : wA.cell? ⟨A, 4, none⟩ = some (.slice x.path.hops.p x.path.hops.l.length x.path.hops.cap) := HK.out.cell 4
 have c5 : wA.cell? ⟨A, 5, none⟩ = some (.string x.type) := HK.out.cell 5
 have c6 : wA.cell? ⟨A, 6, none⟩ = some (.string x.left.name) := HK.out.cell 6
 have c7 : wA.cell? ⟨A, 7, none⟩ = some (.int .i64 x.left.n) := HK.out.cell 7
 have c8 : wA.cell? ⟨A, 8, none⟩ = some (.int .i64 x.left.pos) := HK.out.cell 8
 have c9 : wA.cell? ⟨A, 9, none⟩ = some (.string x.right.name) := HK.out.cell 9
 have c10 : wA.cell? ⟨A, 10, none⟩ = some (.int .i64 x.right.n) := HK.out.cell 10
 have c11 : wA.cell? ⟨A, 11, none⟩ = some (.int .i64 x.right.pos) := HK.out.cell 11
 have HL1 := hdn (vlLies_below Z_hl.out HBA.out)
 go_wp2_with (first | ((with_reducible show wpList _ _ _ (Oper.mk (some 3) (Op.load 49 _) _ _ _ _ :: _) _ _); refine wpList_load_bk rfl 49 (.tmp 1) rfl A 49 #[.int .i64 x.kind, .int .i64 x.pos, .string x.path.name, .int .i64 x.path.pos, .slice x.path.hops.p x.path.hops.l.length x.path.hops.cap, .string x.type, .string x.left.name, .int .i64 x.left.n, .int .i64 x.left.pos, .string x.right.name, .int .i64 x.right.n, .int .i64 x.right.pos] rfl _ HK.out Tryz.underlying49 rfl size52 ?_) | (go_at_call 144; refine (bare_any x _ HL1.out Z_ho.out).mono ?_; rintro e w1 ⟨rfl, hb⟩; have HB1 := hdn (HBA.out.trans (hb.mono HBA.out.size)); have HK1 := hdn (HK.out.below hb HK.out.lt); have d0 : w1.cell? ⟨A, 0, none⟩ = some (.int .i64 x.kind) := HK1.out.cell 0; have k := Z_k.out; clear hb))
 go_ret
 exact ⟨rfl, HB1.out⟩
theorem okSide_any (x : Vl) (w : World) (hl : vlLies w x) (ho : Pn.okSide x = true) : Calls Tryz.prog 145 #[.agg #[.int .i64 x.kind, .int .i64 x.pos, .string x.path.name, .int .i64 x.path.pos, .slice x.path.hops.p x.path.hops.l.length x.path.hops.cap, .string x.type, .string x.left.name, .int .i64 x.left.n, .int .i64 x.left.pos, .string x.right.name, .int .i64 x.right.n, .int .i64 x.right.pos]] w fun e w' => e = .returned (.bool true) ∧ Below w.heap.size w w' := by
 simp only [Pn.okSide, Bool.and_eq_true, Bool.or_eq_true, decide_eq_true_eq] at ho
 obtain ⟨h1, (k | k) | k⟩ := ho
 ·exact side0 x w hl h1 k
 ·exact side1 x w hl h1 k
 ·exact side4 x w hl h1 k
theorem zeroVal_any (x : Vl) (w : World) (hl : vlLies w x) (ho : Pn.noVal x = true) : Calls Tryz.prog 141 #[.agg #[.int .i64 x.kind, .int .i64 x.pos, .string x.path.name, .int .i64 x.path.pos, .slice x.path.hops.p x.path.hops.l.length x.path.hops.cap, .string x.type, .string x.left.name, .int .i64 x.left.n, .int .i64 x.left.pos, .string x.right.name, .int .i64 x.right.n, .int .i64 x.right.pos]] w fun e w' => e = .returned (.bool true) ∧ Below w.heap.size w w' := by
 simp only [Pn.noVal, Bool.and_eq_true, decide_eq_true_eq] at ho
 obtain ⟨k, ho⟩ := ho
 have Z_hl := hdn hl
 clear hl
 have Z_ho := hdn ho
 clear ho
 have Z_k := hdn k
 clear k
 obtain ⟨wA, hwA⟩ : ∃ wA : World, wA = w.alloc (.cells #[.int .i64 x.kind, .int .i64 x.pos, .string x.path.name, .int .i64 x.path.pos, .slice x.path.hops.p x.path.hops.l.length x.path.hops.cap, .string x.type, .string x.left.name, .int .i64 x.left.n, .int .i64 x.left.pos, .string x.right.name, .int .i64 x.right.n, .int .i64 x.right.pos] 49) := ⟨_, rfl⟩
 have HBA : Hid (Below w.heap.size w wA) := hdn (by rw [hwA]; exact (Below.refl _ _).alloc (Nat.le_refl _) _)
 have HK : Hid (Bk wA w.heap.size 49 #[.int .i64 x.kind, .int .i64 x.pos, .string x.path.name, .int .i64 x.path.pos, .slice x.path.hops.p x.path.hops.l.length x.path.hops.cap, .string x.type, .string x.left.name, .int .i64 x.left.n, .int .i64 x.left.pos, .string x.right.name, .int .i64 x.right.n, .int .i64 x.right.pos]) := hdn (by rw [hwA]; exact heap_alloc_new _ _)
 go_enter Tryz.func141, Tryz.ntmps141
 go_upto_region 1 with fail
 rw [← hwA]
 clear hwA
 obtain ⟨A, hA⟩ : ∃ A, A = w.heap.size := ⟨_, rfl⟩
 rw [← hA] at HK ⊢
 have HA := hdn hA
 clear hA
 have c0 : wA.cell? ⟨A, 0, none⟩ = some (.int .i64 x.kind) := HK.out.cell 0
 have c1 : wA.cell? ⟨A, 1, none⟩ = some (.int .i64 x.pos) := HK.out.cell 1
 have c2 : wA.cell? ⟨A, 2, none⟩ = some (.string x.path.name) := HK.out.cell 2
 have c3 : wA.cell? ⟨A, 3, none⟩ = some (.int .i64 x.path.pos) := HK.out.cell 3
 have c4 : wA.cell? ⟨A, 4, none⟩ = some (.slice x.path.hops.p x.path.hops.l.length x.path.hops.cap) := HK.out.cell 4
 have c5 : wA.cell? ⟨A, 5, none⟩ = some (.string x.type) := HK.out.cell 5
 have c6 : wA.cell? ⟨A, 6, none⟩ = some (.string x.left.name) := HK.out.cell 6
 have c7 : wA.cell? ⟨A, 7, none⟩ = some (.int .i64 x.left.n) := HK.out.cell 7
 have c8 : wA.cell? ⟨A, 8, none⟩ = some (.int .i64 x.left.pos) := HK.out.cell 8
 have c9 : wA.cell? ⟨A, 9, none⟩ = some (.string x.right.name) := HK.out.cell 9
 have c10 : wA.cell? ⟨A, 10, none⟩ = some (.int .i64 x.right.n) := HK.out.cell 10
 have c11 : wA.cell? ⟨A, 11, none⟩ = some (.int .i64 x.right.pos) := HK.out.cell 11
 have HL1 := hdn (vlLies_below Z_hl.out HBA.out)
 have k : (x.kind == 0) = true := by rw [Z_k.out]; rfl
 go_wp2_with (go_at_call 144; refine (bare_any x _ HL1.out Z_ho.out).mono ?_; rintro e w1 ⟨rfl, hb⟩; have HB1 := hdn (HBA.out.trans (hb.mono HBA.out.size)); have HK1 := hdn (HK.out.below hb HK.out.lt); clear hb)
 go_ret
 exact ⟨rfl, HB1.out⟩
theorem zeroCond_any (c : Cd) (w : World) (hl : vlLies w c.left) (hr : vlLies w c.right) (ho : Pn.noCond c = true) : Calls Tryz.prog 142 #[.agg #[.int .i64 c.kind, .int .i64 c.pos, .int .i64 c.left.kind, .int .i64 c.left.pos, .string c.left.path.name, .int .i64 c.left.path.pos, .slice c.left.path.hops.p c.left.path.hops.l.length c.left.path.hops.cap, .string c.left.type, .string c.left.left.name, .int .i64 c.left.left.n, .int .i64 c.left.left.pos, .string c.left.right.name, .int .i64 c.left.right.n, .int .i64 c.left.right.pos, .int .i64 c.right.kind, .int .i64 c.right.pos, .string c.right.path.name, .int .i64 c.right.path.pos, .slice c.right.path.hops.p c.right.path.hops.l.length c.right.path.hops.cap, .string c.right.type, .string c.right.left.name, .int .i64 c.right.left.n, .int .i64 c.right.left.pos, .string c.right.right.name, .int .i64 c.right.right.n, .int .i64 c.right.right.pos]] w fun e w' => e = .returned (.bool true) ∧ Below w.heap.size w w' := by
 simp only [Pn.noCond, Bool.and_eq_true, decide_eq_true_eq] at ho
 obtain ⟨⟨k, o1⟩, o2⟩ := ho
 have Z_hl := hdn hl
 clear hl
 have Z_hr := hdn hr
 clear hr
 have Z_o1 := hdn o1
 clear o1
 have Z_o2 := hdn o2
 clear o2
 have Z_k := hdn k
 clear k
 obtain ⟨wA, hwA⟩ : ∃ wA : World, wA = w.alloc (.cells #[.int .i64 c.kind, .int .i64 c.pos, .int .i64 c.left.kind, .int .i64 c.left.pos, .string c.left.path.name, .int .i64 c.left.path.pos, .slice c.left.path.hops.p c.left.path.hops.l.length c.left.path.hops.cap, .string c.left.type, .string c.left.left.name, .int .i64 c.left.left.n, .int .i64 c.left.left.pos, .string c.left.right.name, .int .i64 c.left.right.n, .int .i64 c.left.right.pos, .int .i64 c.right.kind, .int .i64 c.right.pos, .string c.right.path.name, .int .i64 c.right.path.pos, .slice c.right.path.hops.p c.right.path.hops.l.length c.right.path.hops.cap, .string c.right.type, .string c.right.left.name, .int .i64 c.right.left.n, .int .i64 c.right.left.pos, .string c.right.right.name, .int .i64 c.right.right.n, .int .i64 c.right.right.pos] 51) := ⟨_, rfl⟩
 have HBA : Hid (Below w.heap.size w wA) := hdn (by rw [hwA]; exact (Below.refl _ _).alloc (Nat.le_refl _) _)
 have HK : Hid (Bk wA w.heap.size 51 #[.int .i64 c.kind, .int .i64 c.pos, .int .i64 c.left.kind, .int .i64 c.left.pos, .string c.left.path.name, .int .i64 c.left.path.pos, .slice c.left.path.hops.p c.left.path.hops.l.length c.left.path.hops.cap, .string c.left.type, .string c.left.left.name, .int .i64 c.left.left.n, .int .i64 c.left.left.pos, .string c.left.right.name, .int .i64 c.left.right.n, .int .i64 c.left.right.pos, .int .i64 c.right.kind, .int .i64 c.right.pos, .string c.right.path.name, .int .i64 c.right.path.pos, .slice c.right.path.hops.p c.right.path.hops.l.length c.right.path.hops.cap, .string c.right.type, .string c.right.left.name, .int .i64 c.right.left.n, .int .i64 c.right.left.pos, .string c.right.right.name, .int .i64 c.right.right.n, .int .i64 c.right.right.pos]) := hdn (by rw [hwA]; exact heap_alloc_new _ _)
 go_enter Tryz.func142, Tryz.ntmps142
 go_upto_region 1 with fail
 rw [← hwA]
 clear hwA
 obtain ⟨A, hA⟩ : ∃ A, A = w.heap.size := ⟨_, rfl⟩
 rw [← hA] at HK ⊢
 have HA := hdn hA
 clear hA
 have c0 : wA.cell? ⟨A, 0, none⟩ = some (.int .i64 c.kind) := HK.out.cell 0
 have c1 : wA.cell? ⟨A, 1, none⟩ = some (.int .i64 c.pos) := HK.out.cell 1
 have c2 : wA.cell? ⟨A, 2, none⟩ = some (.int .i64 c.left.kind) := HK.out.cell 2
 have c3 : wA.cell? ⟨A, 3, none⟩ = some (.int .i64 c.left.pos) := HK.out.cell 3
 have c4 : wA.cell? ⟨A, 4, none⟩ = some (.string c.left.path.name) := HK.out.cell 4
 have c5 : wA.cell? ⟨A, 5, none⟩ = some (.int .i64 c.left.path.pos) := HK.out.cell 5
 have c6 : wA.cell? ⟨A, 6, none⟩ = some (.slice c.left.path.hops.p c.left.path.hops.l.length c.left.path.hops.cap) := HK.out.cell 6
 have c7 : wA.cell? ⟨A, 7, none⟩ = some (.string c.left.type) := HK.out.cell 7
 have c8 : wA.cell? ⟨A, 8, none⟩ = some (.string c.left.left.name) := HK.out.cell 8
 have c9 : wA.cell? ⟨A, 9, none⟩ = some (.int .i64 c.left.left.n) := HK.out.cell 9
 have c10 : wA.cell? ⟨A, 10, none⟩ = some (.int .i64 c.left.left.pos) := HK.out.cell 10
 have c11 : wA.cell? ⟨A, 11, none⟩ = some (.string c.left.right.name) := HK.out.cell 11
 have c12 : wA.cell? ⟨A, 12, none⟩ = some (.int .i64 c.left.right.n) := HK.out.cell 12
 have c13 : wA.cell? ⟨A, 13, none⟩ = some (.int .i64 c.left.right.pos) := HK.out.cell 13
 have c14 : wA.cell? ⟨A, 14, none⟩ = some (.int .i64 c.right.kind) := HK.out.cell 14
 have c15 : wA.cell? ⟨A, 15, none⟩ = some (.int .i64 c.right.pos) := HK.out.cell 15
 have c16 : wA.cell? ⟨A, 16, none⟩ = some (.string c.right.path.name) := HK.out.cell 16
 have c17 : wA.cell? ⟨A, 17, none⟩ = some (.int .i64 c.right.path.pos) := HK.out.cell 17
 have c18 : wA.cell? ⟨A, 18, none⟩ = some (.slice c.right.path.hops.p c.right.path.hops.l.length c.right.path.hops.cap) := HK.out.cell 18
 have c19 : wA.cell? ⟨A, 19, none⟩ = some (.string c.right.type) := HK.out.cell 19
 have c20 : wA.cell? ⟨A, 20, none⟩ = some (.string c.right.left.name) := HK.out.cell 20
 have c21 : wA.cell? ⟨A, 21, none⟩ = some (.int .i64 c.right.left.n) := HK.out.cell 21
 have c22 : wA.cell? ⟨A, 22, none⟩ = some (.int .i64 c.right.left.pos) := HK.out.cell 22
 have c23 : wA.cell? ⟨A, 23, none⟩ = some (.string c.right.right.name) := HK.out.cell 23
 have c24 : wA.cell? ⟨A, 24, none⟩ = some (.int .i64 c.right.right.n) := HK.out.cell 24
 have c25 : wA.cell? ⟨A, 25, none⟩ = some (.int .i64 c.right.right.pos) := HK.out.cell 25
 have HL1 := hdn (vlLies_below Z_hl.out HBA.out)
 have k : (c.kind == 0) = true := by rw [Z_k.out]; rfl
 go_wp2_with (first | (go_at_call 141; (with_reducible refine (zeroVal_any c.left _ HL1.out Z_o1.out).mono ?_); rintro e w1 ⟨rfl, hb⟩; have HB1 := hdn (HBA.out.trans (hb.mono HBA.out.size)); have HK1 := hdn (HK.out.below hb HK.out.lt); have d0 : w1.cell? ⟨A, 0, none⟩ = some (.int .i64 c.kind) := HK1.out.cell 0; have d14 : w1.cell? ⟨A, 14, none⟩ = some (.int .i64 c.right.kind) := HK1.out.cell 14; have d15 : w1.cell? ⟨A, 15, none⟩ = some (.int .i64 c.right.pos) := HK1.out.cell 15; have d16 : w1.cell? ⟨A, 16, none⟩ = some (.string c.right.path.name) := HK1.out.cell 16; have d17 : w1.cell? ⟨A, 17, none⟩ = some (.int .i64 c.right.path.pos) := HK1.out.cell 17; have d18 : w1.cell? ⟨A, 18, none⟩ = some (.slice c.right.path.hops.p c.right.path.hops.l.length c.right.path.hops.cap) := HK1.out.cell 18; have d19 : w1.cell? ⟨A, 19, none⟩ = some (.string c.right.type) := HK1.out.cell 19; have d20 : w1.cell? ⟨A, 20, none⟩ = some (.string c.right.left.name) := HK1.out.cell 20; have d21 : w1.cell? ⟨A, 21, none⟩ = some (.int .i64 c.right.left.n) := HK1.out.cell 21; have d22 : w1.cell? ⟨A, 22, none⟩ = some (.int .i64 c.right.left.pos) := HK1.out.cell 22; have d23 : w1.cell? ⟨A, 23, none⟩ = some (.string c.right.right.name) := HK1.out.cell 23; have d24 : w1.cell? ⟨A, 24, none⟩ = some (.int .i64 c.right.right.n) := HK1.out.cell 24; have d25 : w1.cell? ⟨A, 25, none⟩ = some (.int .i64 c.right.right.pos) := HK1.out.cell 25; clear hb) | (go_at_call 141; (with_reducible refine (zeroVal_any c.right _ (vlLies_below Z_hr.out HB1.out) Z_o2.out).mono ?_); rintro e w2 ⟨rfl, hb⟩; have HB2 := hdn (HB1.out.trans (hb.mono HB1.out.size)); clear hb))
 go_ret
 exact ⟨rfl, HB2.out⟩
theorem condP (c : Cd) (w : World) (hl : vlLies w c.left) (hr : vlLies w c.right) (k1 : 1 ≤ c.kind) (k4 : c.kind ≤ 4) (o1 : Pn.okSide c.left = true) (o2 : Pn.okSide c.right = true) : Calls Tryz.prog 146 #[.agg #[.int .i64 c.kind, .int .i64 c.pos, .int .i64 c.left.kind, .int .i64 c.left.pos, .string c.left.path.name, .int .i64 c.left.path.pos, .slice c.left.path.hops.p c.left.path.hops.l.length c.left.path.hops.cap, .string c.left.type, .string c.left.left.name, .int .i64 c.left.left.n, .int .i64 c.left.left.pos, .string c.left.right.name, .int .i64 c.left.right.n, .int .i64 c.left.right.pos, .int .i64 c.right.kind, .int .i64 c.right.pos, .string c.right.path.name, .int .i64 c.right.path.pos, .slice c.right.path.hops.p c.right.path.hops.l.length c.right.path.hops.cap, .string c.right.type, .string c.right.left.name, .int .i64 c.right.left.n, .int .i64 c.right.left.pos, .string c.right.right.name, .int .i64 c.right.right.n, .int .i64 c.right.right.pos]] w fun e w' => e = .returned (.bool true) ∧ Below w.heap.size w w' := by
 have Z_hl := hdn hl
 clear hl
 have Z_hr := hdn hr
 clear hr
 have Z_o1 := hdn o1
 clear o1
 have Z_o2 := hdn o2
 clear o2
 have Z_k1 := hdn k1
 clear k1
 have Z_k4 := hdn k4
 clear k4
 obtain ⟨wA, hwA⟩ : ∃ wA : World, wA = w.alloc (.cells #[.int .i64 c.kind, .int .i64 c.pos, .int .i64 c.left.kind, .int .i64 c.left.pos, .string c.left.path.name, .int .i64 c.left.path.pos, .slice c.left.path.hops.p c.left.path.hops.l.length c.left.path.hops.cap, .string c.left.type, .string c.left.left.name, .int .i64 c.left.left.n, .int .i64 c.left.left.pos, .string c.left.right.name, .int .i64 c.left.right.n, .int .i64 c.left.right.pos, .int .i64 c.right.kind, .int .i64 c.right.pos, .string c.right.path.name, .int .i64 c.right.path.pos, .slice c.right.path.hops.p c.right.path.hops.l.length c.right.path.hops.cap, .string c.right.type, .string c.right.left.name, .int .i64 c.right.left.n, .int .i64 c.right.left.pos, .string c.right.right.name, .int .i64 c.right.right.n, .int .i64 c.right.right.pos] 51) := ⟨_, rfl⟩
 have HBA : Hid (Below w.heap.size w wA) := hdn (by rw [hwA]; exact (Below.refl _ _).alloc (Nat.le_refl _) _)
 have HK : Hid (Bk wA w.heap.size 51 #[.int .i64 c.kind, .int .i64 c.pos, .int .i64 c.left.kind, .int .i64 c.left.pos, .string c.left.path.name, .int .i64 c.left.path.pos, .slice c.left.path.hops.p c.left.path.hops.l.length c.left.path.hops.cap, .string c.left.type, .string c.left.left.name, .int .i64 c.left.left.n, .int .i64 c.left.left.pos, .string c.left.right.name, .int .i64 c.left.right.n, .int .i64 c.left.right.pos, .int .i64 c.right.kind, .int .i64 c.right.pos, .string c.right.path.name, .int .i64 c.right.path.pos, .slice c.right.path.hops.p c.right.path.hops.l.length c.right.path.hops.cap, .string c.right.type, .string c.right.left.name, .int .i64 c.right.left.n, .int .i64 c.right.left.pos, .string c.right.right.name, .int .i64 c.right.right.n, .int .i64 c.right.right.pos]) := hdn (by rw [hwA]; exact heap_alloc_new _ _)
 go_enter Tryz.func146, Tryz.ntmps146
 go_upto_region 1 with fail
 rw [← hwA]
 clear hwA
 obtain ⟨A, hA⟩ : ∃ A, A = w.heap.size := ⟨_, rfl⟩
 rw [← hA] at HK ⊢
 have HA := hdn hA
 clear hA
 have c0 : wA.cell? ⟨A, 0, none⟩ = some (.int .i64 c.kind) := HK.out.cell 0
 have c1 : wA.cell? ⟨A, 1, none⟩ = some (.int .i64 c.pos) := HK.out.cell 1
 have c2 : wA.cell? ⟨A, 2, none⟩ = some (.int .i64 c.left.kind) := HK.out.cell 2
 have c3 : wA.cell? ⟨A, 3, none⟩ = some (.int .i64 c.left.pos) := HK.out.cell 3
 have c4 : wA.cell? ⟨A, 4, none⟩ = some (.string c.left.path.name) := HK.out.cell 4
 have c5 : wA.cell? ⟨A, 5, none⟩ = some (.int .i64 c.left.path.pos) := HK.out.cell 5
 have c6 : wA.cell? ⟨A, 6, none⟩ = some (.slice c.left.path.hops.p c.left.path.hops.l.length c.left.path.hops.cap) := HK.out.cell 6
 have c7 : wA.cell? ⟨A, 7, none⟩ = some (.string c.left.type) := HK.out.cell 7
 have c8 : wA.cell? ⟨A, 8, none⟩ = some (.string c.left.left.name) := HK.out.cell 8
 have c9 : wA.cell? ⟨A, 9, none⟩ = some (.int .i64 c.left.left.n) := HK.out.cell 9
 have c10 : wA.cell? ⟨A, 10, none⟩ = some (.int .i64 c.left.left.pos) := HK.out.cell 10
 have c11 : wA.cell? ⟨A, 11, none⟩ = some (.string c.left.right.name) := HK.out.cell 11
 have c12 : wA.cell? ⟨A, 12, none⟩ = some (.int .i64 c.left.right.n) := HK.out.cell 12
 have c13 : wA.cell? ⟨A, 13, none⟩ = some (.int .i64 c.left.right.pos) := HK.out.cell 13
 have c14 : wA.cell? ⟨A, 14, none⟩ = some (.int .i64 c.right.kind) := HK.out.cell 14
 have c15 : wA.cell? ⟨A, 15, none⟩ = some (.int .i64 c.right.pos) := HK.out.cell 15
 have c16 : wA.cell? ⟨A, 16, none⟩ = some (.string c.right.path.name) := HK.out.cell 16
 have c17 : wA.cell? ⟨A, 17, none⟩ = some (.int .i64 c.right.path.pos) := HK.out.cell 17
 have c18 : wA.cell? ⟨A, 18, none⟩ = some (.slice c.right.path.hops.p c.right.path.hops.l.length c.right.path.hops.cap) := HK.out.cell 18
 have c19 : wA.cell? ⟨A, 19, none⟩ = some (.string c.right.type) := HK.out.cell 19
 have c20 : wA.cell? ⟨A, 20, none⟩ = some (.string c.right.left.name) := HK.out.cell 20
 have c21 : wA.cell? ⟨A, 21, none⟩ = some (.int .i64 c.right.left.n) := HK.out.cell 21
 have c22 : wA.cell? ⟨A, 22, none⟩ = some (.int .i64 c.right.left.pos) := HK.out.cell 22
 have c23 : wA.cell? ⟨A, 23, none⟩ = some (.string c.right.right.name) := HK.out.cell 23
 have c24 : wA.cell? ⟨A, 24, none⟩ = some (.int .i64 c.right.right.n) := HK.out.cell 24
 have c25 : wA.cell? ⟨A, 25, none⟩ = some (.int .i64 c.right.right.pos) := HK.out.cell 25
 have HL1 := hdn (vlLies_below Z_hl.out HBA.out)
 have k0 : (c.kind == 0) = false := by rw [Bool.eq_false_iff]; intro e; rw [beq_iff_eq] at e; have := Z_k1.out; omega
 have k1 := Z_k1.out
 have k4 := Z_k4.out
 go_wp2_with (first | (go_at_call 145; (with_reducible refine (okSide_any c.left _ HL1.out Z_o1.out).mono ?_); rintro e w1 ⟨rfl, hb⟩; have HB1 := hdn (HBA.out.trans (hb.mono HBA.out.size)); have HK1 := hdn (HK.out.below hb HK.out.lt); have d0 : w1.cell? ⟨A, 0, none⟩ = some (.int .i64 c.kind) := HK1.out.cell 0; have d14 : w1.cell? ⟨A, 14, none⟩ = some (.int .i64 c.right.kind) := HK1.out.cell 14; have d15 : w1.cell? ⟨A, 15, none⟩ = some (.int .i64 c.right.pos) := HK1.out.cell 15; have d16 : w1.cell? ⟨A, 16, none⟩ = some (.string c.right.path.name) := HK1.out.cell 16; have d17 : w1.cell? ⟨A, 17, none⟩ = some (.int .i64 c.right.path.pos) := HK1.out.cell 17; have d18 : w1.cell? ⟨A, 18, none⟩ = some (.slice c.right.path.hops.p c.right.path.hops.l.length c.right.path.hops.cap) := HK1.out.cell 18; have d19 : w1.cell? ⟨A, 19, none⟩ = some (.string c.right.type) := HK1.out.cell 19; have d20 : w1.cell? ⟨A, 20, none⟩ = some (.string c.right.left.name) := HK1.out.cell 20; have d21 : w1.cell? ⟨A, 21, none⟩ = some (.int .i64 c.right.left.n) := HK1.out.cell 21; have d22 : w1.cell? ⟨A, 22, none⟩ = some (.int .i64 c.right.left.pos) := HK1.out.cell 22; have d23 : w1.cell? ⟨A, 23, none⟩ = some (.string c.right.right.name) := HK1.out.cell 23; have d24 : w1.cell? ⟨A, 24, none⟩ = some (.int .i64 c.right.right.n) := HK1.out.cell 24; have d25 : w1.cell? ⟨A, 25, none⟩ = some (.int .i64 c.right.right.pos) := HK1.out.cell 25; clear hb) | (go_at_call 145; (with_reducible refine (okSide_any c.right _ (vlLies_below Z_hr.out HB1.out) Z_o2.out).mono ?_); rintro e w2 ⟨rfl, hb⟩; have HB2 := hdn (HB1.out.trans (hb.mono HB1.out.size)); clear hb))
 go_ret
 exact ⟨rfl, HB2.out⟩
theorem cond0 (c : Cd) (w : World) (hl : vlLies w c.left) (hr : vlLies w c.right) (k : c.kind = 0) (ho : Pn.noCond c = true) : Calls Tryz.prog 146 #[.agg #[.int .i64 c.kind, .int .i64 c.pos, .int .i64 c.left.kind, .int .i64 c.left.pos, .string c.left.path.name, .int .i64 c.left.path.pos, .slice c.left.path.hops.p c.left.path.hops.l.length c.left.path.hops.cap, .string c.left.type, .string c.left.left.name, .int .i64 c.left.left.n, .int .i64 c.left.left.pos, .string c.left.right.name, .int .i64 c.left.right.n, .int .i64 c.left.right.pos, .int .i64 c.right.kind, .int .i64 c.right.pos, .string c.right.path.name, .int .i64 c.right.path.pos, .slice c.right.path.hops.p c.right.path.hops.l.length c.right.path.hops.cap, .string c.right.type, .string c.right.left.name, .int .i64 c.right.left.n, .int .i64 c.right.left.pos, .string c.right.right.name, .int .i64 c.right.right.n, .int .i64 c.right.right.pos]] w fun e w' => e = .returned (.bool true) ∧ Below w.heap.size w w' := by
 have Z_hl := hdn hl
 clear hl
 have Z_hr := hdn hr
 clear hr
 have Z_ho := hdn ho
 clear ho
 have Z_k := hdn k
 clear k
 obtain ⟨wA, hwA⟩ : ∃ wA : World, wA = w.alloc (.cells #[.int .i64 c.kind, .int .i64 c.pos, .int .i64 c.left.kind, .int .i64 c.left.pos, .string c.left.path.name, .int .i64 c.left.path.pos, .slice c.left.path.hops.p c.left.path.hops.l.length c.left.path.hops.cap, .string c.left.type, .string c.left.left.name, .int .i64 c.left.left.n, .int .i64 c.left.left.pos, .string c.left.right.name, .int .i64 c.left.right.n, .int .i64 c.left.right.pos, .int .i64 c.right.kind, .int .i64 c.right.pos, .string c.right.path.name, .int .i64 c.right.path.pos, .slice c.right.path.hops.p c.right.path.hops.l.length c.right.path.hops.cap, .string c.right.type, .string c.right.left.name, .int .i64 c.right.left.n, .int .i64 c.right.left.pos, .string c.right.right.name, .int .i64 c.right.right.n, .int .i64 c.right.right.pos] 51) := ⟨_, rfl⟩
 have HBA : Hid (Below w.heap.size w wA) := hdn (by rw [hwA]; exact (Below.refl _ _).alloc (Nat.le_refl _) _)
 have HK : Hid (Bk wA w.heap.size 51 #[.int .i64 c.kind, .int .i64 c.pos, .int .i64 c.left.kind, .int .i64 c.left.pos, .string c.left.path.name, .int .i64 c.left.path.pos, .slice c.left.path.hops.p c.left.path.hops.l.length c.left.path.hops.cap, .string c.left.type, .string c.left.left.name, .int .i64 c.left.left.n, .int .i64 c.left.left.pos, .string c.left.right.name, .int .i64 c.left.right.n, .int .i64 c.left.right.pos, .int .i64 c.right.kind, .int .i64 c.right.pos, .string c.right.path.name, .int .i64 c.right.path.pos, .slice c.right.path.hops.p c.right.path.hops.l.length c.right.path.hops.cap, .string c.right.type, .string c.right.left.name, .int .i64 c.right.left.n, .int .i64 c.right.left.pos, .string c.right.right.name, .int .i64 c.right.right.n, .int .i64 c.right.right.pos]) := hdn (by rw [hwA]; exact heap_alloc_new _ _)
 go_enter Tryz.func146, Tryz.ntmps146
 go_upto_region 1 with fail
 rw [← hwA]
 clear hwA
 obtain ⟨A, hA⟩ : ∃ A, A = w.heap.size := ⟨_, rfl⟩
 rw [← hA] at HK ⊢
 have HA := hdn hA
 clear hA
 have c0 : wA.cell? ⟨A, 0, none⟩ = some (.int .i64 c.kind) := HK.out.cell 0
 have c1 : wA.cell? ⟨A, 1, none⟩ = some (.int .i64 c.pos) := HK.out.cell 1
 have c2 : wA.cell? ⟨A, 2, none⟩ = some (.int .i64 c.left.kind) := HK.out.cell 2
 have c3 : wA.cell? ⟨A, 3, none⟩ = some (.int .i64 c.left.pos) := HK.out.cell 3
 have c4 : wA.cell? ⟨A, 4, none⟩ = some (.string c.left.path.name) := HK.out.cell 4
 have c5 : wA.cell? ⟨A, 5, none⟩ = some (.int .i64 c.left.path.pos) := HK.out.cell 5
 have c6 : wA.cell? ⟨A, 6, none⟩ = some (.slice c.left.path.hops.p c.left.path.hops.l.length c.left.path.hops.cap) := HK.out.cell 6
 have c7 : wA.cell? ⟨A, 7, none⟩ = some (.string c.left.type) := HK.out.cell 7
 have c8 : wA.cell? ⟨A, 8, none⟩ = some (.string c.left.left.name) := HK.out.cell 8
 have c9 : wA.cell? ⟨A, 9, none⟩ = some (.int .i64 c.left.left.n) := HK.out.cell 9
 have c10 : wA.cell? ⟨A, 10, none⟩ = some (.int .i64 c.left.left.pos) := HK.out.cell 10
 have c11 : wA.cell? ⟨A, 11, none⟩ = some (.string c.left.right.name) := HK.out.cell 11
 have c12 : wA.cell? ⟨A, 12, none⟩ = some (.int .i64 c.left.right.n) := HK.out.cell 12
 have c13 : wA.cell? ⟨A, 13, none⟩ = some (.int .i64 c.left.right.pos) := HK.out.cell 13
 have c14 : wA.cell? ⟨A, 14, none⟩ = some (.int .i64 c.right.kind) := HK.out.cell 14
 have c15 : wA.cell? ⟨A, 15, none⟩ = some (.int .i64 c.right.pos) := HK.out.cell 15
 have c16 : wA.cell? ⟨A, 16, none⟩ = some (.string c.right.path.name) := HK.out.cell 16
 have c17 : wA.cell? ⟨A, 17, none⟩ = some (.int .i64 c.right.path.pos) := HK.out.cell 17
 have c18 : wA.cell? ⟨A, 18, none⟩ = some (.slice c.right.path.hops.p c.right.path.hops.l.length c.right.path.hops.cap) := HK.out.cell 18
 have c19 : wA.cell? ⟨A, 19, none⟩ = some (.string c.right.type) := HK.out.cell 19
 have c20 : wA.cell? ⟨A, 20, none⟩ = some (.string c.right.left.name) := HK.out.cell 20
 have c21 : wA.cell? ⟨A, 21, none⟩ = some (.int .i64 c.right.left.n) := HK.out.cell 21
 have c22 : wA.cell? ⟨A, 22, none⟩ = some (.int .i64 c.right.left.pos) := HK.out.cell 22
 have c23 : wA.cell? ⟨A, 23, none⟩ = some (.string c.right.right.name) := HK.out.cell 23
 have c24 : wA.cell? ⟨A, 24, none⟩ = some (.int .i64 c.right.right.n) := HK.out.cell 24
 have c25 : wA.cell? ⟨A, 25, none⟩ = some (.int .i64 c.right.right.pos) := HK.out.cell 25
 have k : (c.kind == 0) = true := by rw [Z_k.out]; rfl
 go_wp2_with (first | ((with_reducible show wpList _ _ _ (Oper.mk (some 6) (Op.load 51 _) _ _ _ _ :: _) _ _); refine wpList_load_bk rfl 51 (.tmp 1) rfl A 51 #[.int .i64 c.kind, .int .i64 c.pos, .int .i64 c.left.kind, .int .i64 c.left.pos, .string c.left.path.name, .int .i64 c.left.path.pos, .slice c.left.path.hops.p c.left.path.hops.l.length c.left.path.hops.cap, .string c.left.type, .string c.left.left.name, .int .i64 c.left.left.n, .int .i64 c.left.left.pos, .string c.left.right.name, .int .i64 c.left.right.n, .int .i64 c.left.right.pos, .int .i64 c.right.kind, .int .i64 c.right.pos, .string c.right.path.name, .int .i64 c.right.path.pos, .slice c.right.path.hops.p c.right.path.hops.l.length c.right.path.hops.cap, .string c.right.type, .string c.right.left.name, .int .i64 c.right.left.n, .int .i64 c.right.left.pos, .string c.right.right.name, .int .i64 c.right.right.n, .int .i64 c.right.right.pos] rfl _ HK.out Tryz.underlying51 rfl size49 ?_) | (go_at_call 142; refine (zeroCond_any c _ (vlLies_below Z_hl.out HBA.out) (vlLies_below Z_hr.out HBA.out) Z_ho.out).mono ?_; rintro e w1 ⟨rfl, hb⟩; have HB1 := hdn (HBA.out.trans (hb.mono HBA.out.size)); have HK1 := hdn (HK.out.below hb HK.out.lt); clear hb))
 go_ret
 exact ⟨rfl, HB1.out⟩
theorem cond_may (c : Cd) (w : World) (hl : vlLies w c.left) (hr : vlLies w c.right) (ho : Pn.okCond c = true) : Calls Tryz.prog 146 #[.agg #[.int .i64 c.kind, .int .i64 c.pos, .int .i64 c.left.kind, .int .i64 c.left.pos, .string c.left.path.name, .int .i64 c.left.path.pos, .slice c.left.path.hops.p c.left.path.hops.l.length c.left.path.hops.cap, .string c.left.type, .string c.left.left.name, .int .i64 c.left.left.n, .int .i64 c.left.left.pos, .string c.left.right.name, .int .i64 c.left.right.n, .int .i64 c.left.right.pos, .int .i64 c.right.kind, .int .i64 c.right.pos, .string c.right.path.name, .int .i64 c.right.path.pos, .slice c.right.path.hops.p c.right.path.hops.l.length c.right.path.hops.cap, .string c.right.type, .string c.right.left.name, .int .i64 c.right.left.n, .int .i64 c.right.left.pos, .string c.right.right.name, .int .i64 c.right.right.n, .int .i64 c.right.right.pos]] w fun e w' => e = .returned (.bool true) ∧ Below w.heap.size w w' := by
 unfold Pn.okCond at ho
 by_cases k : c.kind = 0
 ·rw [if_pos k] at ho; exact cond0 c w hl hr k ho
 ·rw [if_neg k] at ho
  simp only [Bool.and_eq_true, decide_eq_true_eq] at ho
  exact condP c w hl hr ho.1.1.1 ho.1.1.2 ho.1.2 ho.2
end Go.Proofs.YtdlchhimkelinaaGreatDoor
