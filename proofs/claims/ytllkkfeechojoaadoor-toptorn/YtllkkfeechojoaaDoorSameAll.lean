/- dunnageref01.SameAll: do two lists of rows of bytes hold the same? -/
import Derived.Test.YtllkkfeechojoaaDoorJoined1
namespace Go.Proofs.YtllkkfeechojoaaDoor
open Go.RowKit
end Go.Proofs.YtllkkfeechojoaaDoor
