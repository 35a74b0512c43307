/- play: deeds done on the disk and on the reference; both answer alike. -/
import Derived.Test.YtllkkfeechojoaaDoorPair
namespace Go.Proofs.YtllkkfeechojoaaDoor
open Go.RowKit
end Go.Proofs.YtllkkfeechojoaaDoor
