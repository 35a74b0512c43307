/- sha.New makes a Hasher that has taken no bytes; Fork makes another one with the same; of nil: none. -/
import Derived.Test.YtkmmeokccmppbaaPad
namespace Go.Proofs.Ytkmmeokccmppbaa
open Go.RowKit
/-- The first digest lies in its global. -/
def Sat (w : World) : Prop := w.cell? ⟨1, 0, none⟩ = some (W startS.a) ∧ w.cell? ⟨1, 1, none⟩ = some (W startS.b) ∧ w.cell? ⟨1, 2, none⟩ = some (W startS.c) ∧ w.cell? ⟨1, 3, none⟩ = some (W startS.d) ∧
  w.cell? ⟨1, 4, none⟩ = some (W startS.e) ∧ w.cell? ⟨1, 5, none⟩ = some (W startS.f) ∧ w.cell? ⟨1, 6, none⟩ = some (W startS.g) ∧ w.cell? ⟨1, 7, none⟩ = some (W startS.h)
/-- The cells of a Hasher. -/
def hc (s : St) (rs : List UInt8) (n : Nat) : List Value := s.list.map W ++ (rs.map B ++ [.int .i64 n])
theorem length_hc (s : St) (rs : List UInt8) (n : Nat) (h : rs.length = 64) : (hc s rs n).length = 73 := by simp [hc, h, St.list]
theorem hc_one (s : St) (rs : List UInt8) (n : Nat) : ∀ v ∈ hc s rs n, v.oneCell' = true := by
  intro v hv
  simp only [hc, List.mem_append, List.mem_singleton] at hv
  rcases hv with hv | hv | rfl
  · exact W_one _ v hv
  · exact B_one _ v hv
  · rfl
theorem hc_last (s : St) (rs : List UInt8) (n : Nat) (h : rs.length = 64) : (hc s rs n).toArray[72]? = some (.int .i64 n) := by
  rw [List.getElem?_toArray]
  unfold hc
  rw [List.getElem?_append_right (by simp [St.list]), List.getElem?_append_right (by simp [St.list, h])]
  simp [St.list, h]
def Z59 : Array Value := (List.replicate 8 (Value.int .u32 0) ++ (List.replicate 64 (Value.int .u8 0) ++ [Value.int .i64 0])).toArray
theorem size59 : Z59.size = 73 := rfl
theorem built59 : ((((((((Z59.setIfInBounds 0 (W startS.a)).setIfInBounds 1 (W startS.b)).setIfInBounds 2 (W startS.c)).setIfInBounds 3 (W startS.d)).setIfInBounds 4 (W startS.e)).setIfInBounds 5 (W startS.f)).setIfInBounds 6 (W startS.g)).setIfInBounds 7 (W startS.h)) =
    (hc startS (List.replicate 64 0) 0).toArray := by kernel_rfl
end Go.Proofs.Ytkmmeokccmppbaa
