/-
  DERIVED. Where a field of a cell leads; a field made to lead.
-/
import Derived.Test.YtocgallcmgnmgaaHd
namespace Go.Proofs.Ytocgallcmgnmgaa
open Go.RowKit Go.Maps

theorem key3 {x : Int} (h : okI x) : keyOf Try.prog 3 (.int .i64 x) = some (.int .i64 x) := keyOf_int_mk Try.underlying3 h
theorem zero3 (w : World) : (zeroValue 3).run Try.prog w = .ok (.int .i64 0) w := by kernel_rfl
theorem okI_nat {k : Nat} (h : k ≤ 2000000) : okI (k : Int) := by
  unfold okI
  simp [Lit.wf, IntKind.min, IntKind.max, IntKind.signed, IntKind.bits]
  omega
theorem IK_ne {a b : Nat} (h : a ≠ b) : IK a ≠ IK b := by
  unfold IK; intro e; injection e with _ e; exact h (by omega)
theorem IK_key {k : Nat} (h : k ≤ 2000000) : WideAt.IsKeyLit (IK k) := law3.key (key3 (okI_nat h))
theorem lit_inj {a b : Int} (h : (DataW.lit (.int .i64 a) : DataW Unit) = .lit (.int .i64 b)) : a = b := by
  injection h with h; injection h with _ h

/-- A field, from where it lies. -/
def leadsP (w : World) (n : Int) (e : Ending) (w' : World) : Prop := e = .returned (.int .i64 n) ∧ w = w'
set_option maxHeartbeats 1600000 in
set_option maxRecDepth 100000 in
theorem leads_any (F g o : Nat) (c : PC) (far : Option Nat) (k : Nat) (w : World) (hr : w.rangeAt g o (hcells c far)) (hs : (HeldK F).sub w c far) (hk : k < F) (hF : F ≤ 2000000) :
    Calls Try.prog 29 #[.pointer (some ⟨g, o, none⟩), .int .i64 k] w (leadsP w (c.at k)) := by
  by_cases h8 : k < 8
  · have e0 : w.cell? ⟨g, o + (2 + k), none⟩ = some (.int .i64 (c.at k)) := hr _ _ (hcells_near c far k h8)
    have e1 : w.cell? ⟨g, o + 2 + k, none⟩ = some (.int .i64 (c.at k)) := by rw [Nat.add_assoc]; exact e0
    clear hr hs e0
    have hk8 : decide ((k : Int) < 8) = true := decide_eq_true (by omega)
    have hk8n : (k : Int) < 8 := by omega
    go_enter Try.func29, Try.ntmps29
    go_wp2_with fail
    go_ret
    exact ⟨rfl, rfl⟩
  · have e0 : w.cell? ⟨g, o + 10, none⟩ = some (.map far) := hr 10 _ rfl
    have hk8 : decide ((k : Int) < 8) = false := decide_eq_false (by omega)
    have hkey := key3 (okI_nat (k := k) (by omega))
    obtain ⟨_, _, hfar⟩ := hs
    cases far with
    | none =>
      have hfar : ∀ k, 8 ≤ k → c.at k = 0 := hfar
      have hz : c.at k = 0 := hfar k (by omega)
      rw [hz]
      have hl : (Instr.lookup 57 (.map none) (.int .i64 k) false).run Try.prog w = .ok (.int .i64 0) w := look_nil false (w := w) law3 Try.underlying57 (zero3 w) hkey
      clear hfar hz hkey hr
      go_enter Try.func29, Try.ntmps29
      go_wp2_with fail
      go_ret
      exact ⟨rfl, rfl⟩
    | some m =>
      obtain ⟨D, hown, hD⟩ := hfar
      have hat := hD.1 k (by omega) hk
      have HAT := Lib.hid hat
      have HO := Lib.hid hown
      have HK := Lib.hid hkey
      clear hat hD hown hr hkey
      go_enter Try.func29, Try.ntmps29
      go_wp2_with ((with_reducible show wpList _ _ _ (Oper.mk _ (Op.lookup _ _ _ _) _ _ _ _ :: _) _ _); refine wpList_lookup_own_int (H := Unit) _ rfl _ _ 57 rfl 3 3 .i64 law3 Try.underlying57 Try.underlying3 (zero3 _) m F D rfl HO.out _ (IK k) rfl HK.out ?_; intro cc hcc _; obtain rfl : cc = c.at k := lit_inj (hcc.symm.trans HAT.out))
      go_ret
      exact ⟨rfl, rfl⟩
end Go.Proofs.Ytocgallcmgnmgaa
