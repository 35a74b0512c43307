/- The reference disk: Write, Flush. -/
import Derived.Test.YtplcljcpekphnaaRef2
namespace Go.Proofs.Ytplcljcpekphnaa
open Go.RowKit
/-- What the reference's Write answers. -/
def errR (R : RefS) (n : Int) (l : List UInt8) : Int := if ¬ (0 ≤ n ∧ n < R.first.length) then 2 else if l.length ≠ 512 then 3 else 0
def RefS.put (R : RefS) (n : Int) (l : List UInt8) : RefS := if errR R n l = 0 then R.did ⟨false, n, l⟩ else R
end Go.Proofs.Ytplcljcpekphnaa
