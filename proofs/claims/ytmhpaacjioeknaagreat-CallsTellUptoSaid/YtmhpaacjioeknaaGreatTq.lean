/-
  DERIVED. The walk of the law's first.
-/
import Derived.Test.YtmhpaacjioeknaaGreatTp
namespace Go.Proofs.YtmhpaacjioeknaaGreat
open Go.RowKit Go.Maps Go.Sort Go.WideMaps
namespace Tj

end Tj
end Go.Proofs.YtmhpaacjioeknaaGreat
