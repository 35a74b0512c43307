/- The reference's Image and Safe, whatever was done. -/
import Derived.Test.YtplcljcpekphnaaRAt
namespace Go.Proofs.Ytplcljcpekphnaa
open Go.RowKit
end Go.Proofs.Ytplcljcpekphnaa
