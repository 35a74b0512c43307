/- The reference's Image and Safe, whatever was done. -/
import Derived.Test.YtllkkfeechojoaaDoorRAt
namespace Go.Proofs.YtllkkfeechojoaaDoor
open Go.RowKit
end Go.Proofs.YtllkkfeechojoaaDoor
