/- dunnagelaw11.live returns true in every world. -/
import Derived.Test.YtkmmeokccmppbaaDoorMDec
namespace Go.Proofs.YtkmmeokccmppbaaDoor
open Go.RowKit
def msLive : MS := ⟨[108, 105, 110, 117, 120], [97, 114, 109], []⟩
theorem live_err : msLive.err = 0 := by decide
theorem live_enc : enc msLive = [68, 77, 1, 5, 108, 105, 110, 117, 120, 3, 97, 114, 109, 0] := by decide
theorem layersAt_nil (w : World) (la : Option Addr) : layersAt w la [] := ⟨fun l hl => by simp at hl, fun i hi => by simp at hi⟩
set_option maxHeartbeats 1000000 in
theorem live_any (w : World) : Calls Tryd.prog 8 #[] w fun e w' => e = .returned (.bool true) ∧ Below w.heap.size w w' := by
  have HE := hid (encode_any msLive none 0 w (layersAt_nil _ _) (by decide))
  rw [live_err, live_enc] at HE
  go_enter Tryd.func8, Tryd.ntmps8
  go_wp2_with fail
  refine HE.out.mono ?_
  clear HE
  rintro e w1 ⟨⟨v', rfl, ⟨_, hb⟩ | ⟨h, _⟩⟩, hB⟩
  · have hcv := run_str (Rd.of_buf hb)
    have HB := hid hB
    clear hb hB
    go_wp2
    go_ret
    exact ⟨rfl, HB.out⟩
  · exact absurd rfl h
end Go.Proofs.YtkmmeokccmppbaaDoor
