/- dunnageref01.SameAll: do two lists of rows of bytes hold the same? -/
import Derived.Test.YtplcljcpekphnaaImage
namespace Go.Proofs.Ytplcljcpekphnaa
open Go.RowKit
end Go.Proofs.Ytplcljcpekphnaa
