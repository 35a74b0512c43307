/- Decode of the manifest's package. -/
import Derived.Test.YtkmmeokccmppbaaDoorMRead
namespace Go.Proofs.YtkmmeokccmppbaaDoor
open Go.RowKit
/-- What decoding answers. -/
def DecTo (w w' : World) (bs : List UInt8) (e : Ending) : Prop :=
  ((dec bs = none ∧ e = .returned (.tuple #[.agg #[str [], str [], .slice none 0 0], .int .i64 3])) ∨
   ∃ m la lc, dec bs = some m ∧ e = .returned (.tuple #[.agg #[str m.os, str m.arch, .slice la m.ls.length lc], .int .i64 0]) ∧ layersAt w' la m.ls ∧ ∀ b o, la = some ⟨b, o, none⟩ → w.heap.size ≤ b) ∧ Below w.heap.size w w'
end Go.Proofs.YtkmmeokccmppbaaDoor
