/-
  DERIVED. The end of a law's proof: it answered true, and nothing that was there has turned.
-/
import Derived.Test.YtocgallcmgnmgaaOp
import Derived.ProofKit
import Derived.Laws.Cover2
namespace Go.Proofs.Ytocgallcmgnmgaa
open Go.ChangeShapes Go.WideShapes Go.ChangeAt Go.RowKit

/-- A law's end: 'true', no variable named, the arguments read as they did. -/
theorem law_end {H : Type} {enc : TypeId × Value → H} {P : Program} {f : Func} {s : ChangeSpec} {apart fresh handsOn : Bool} {W W' : World} {args : Array Value} {ds : List (DataW H)} {before : List MemPlace} {t : TypeId}
    (hW : DataW.Whole enc P f.params.toList s.vars apart W args.toList ds [] before)
    (hr : f.resultTypes = #[t]) (ht : P.underlying t = some .bool)
    (hres : (s.fn H (ds ++ [])).results = [.lit (.bool true)])
    (hargs : DataW.TrodAll enc P W' 0 (fun b => decide (b < W.heap.size)) true f.params.toList args.toList (s.fn H (ds ++ [])).args before)
    (hvars : DataW.TrodVars enc P W' (fun b => decide (b < W.heap.size)) s.vars (s.fn H (ds ++ [])).vars [])
    (hb : Below W.heap.size W W') : s.post enc P f apart fresh handsOn false W args (.bool true) W' := by
  refine ⟨ds, [], before, [], before, [], hW, ?_, hargs, hvars, hb.frame _, fun h => by cases h⟩
  rw [hr, hres]
  exact trodAll_mk1 (shut_bool ht true)

end Go.Proofs.Ytocgallcmgnmgaa
