/- Several of my texts in one: DRow, DTextArg. -/
import Derived.Test.YtehkeadpgedolaaGreatDoorCards
import Derived.Test.YtehkeadpgedolaaGreatDoorTie
import Derived.Test.YtehkeadpgedolaaGreatDoorJoined1
import Derived.Test.YtehkeadpgedolaaGreatDoorJoined7
import Derived.Deep.DeepHandedRow
import Derived.ChangeMaps5
import Derived.OpenShut
import Derived.SliceStrings
namespace Go.Proofs.YtehkeadpgedolaaGreatDoor
section
open Go.ChangeShapes Go.WideShapes Go.ChangeAt Go.RowKit
def acceptsD : List Nat := [128, 191, 160, 191, 128, 159, 144, 191, 128, 143] ++ List.replicate 22 0
def relaid (C : Array Value) : Obj -> Obj
 | .cells _ t frozen => .cells C t frozen
 | o => o
def relaidWorld (w : World) : World :=
 { w with heap := (w.heap.modify 1 (relaid (Go.Pinned.utf8FirstZ.map fun (n : Nat) => Value.int .u8 n).toArray)).modify 2 (relaid (acceptsD.map fun (n : Nat) => Value.int .u8 n).toArray) }
theorem maxLen_of {W : World} (h : W.ShapedOpen Tryz.prog) : ∃ m, W.cell? ⟨0, 0, none⟩ = some (.int .i64 m) := Tryz.laysM146.s1_3 W h
end
section
set_option maxRecDepth 100000
open Go.ChangeShapes Go.WideShapes Go.ChangeAt Go.RowKit
theorem cellsStr : Tryz.prog.cellsOf 9 = 1 := by kernel_rfl
theorem texts_open {H : Type} {enc : TypeId × Value -> H} {W : World} {base : Nat} {v : Value} {d : DataW H} {p : List MemPlace} (hok : Value.okWide Tryz.prog W .any base 36 v) (h : DataW.Trod enc Tryz.prog W 0 (fun _ => true) true 36 v d p) : ∃ xs : List ByteArray, RdT W v xs /\ ∀ x ∈ xs, x.size <= maxLen := by
 obtain ⟨a0, len0, cap0, rfl⟩ := okWide_slice Tryz.underlying36 hok
 obtain ⟨fuel, hf⟩ := h
 rcases open_strings Tryz.underlying36 Tryz.underlying9 cellsStr hf with ⟨hcs, hx⟩ | ⟨a, len, cap, ss, hcs, _, hl, hm, hz, hx, hcell, hsz⟩
 ·simp only [Value.cells, List.cons.injEq, and_true, Value.slice.injEq] at hcs
  obtain ⟨rfl, rfl, rfl⟩ := hcs
  exact ⟨[], ⟨none, 0, rfl, by simp, by simp, fun j hj => by simp at hj⟩, fun x hx => by cases hx⟩
 ·simp only [Value.cells, List.cons.injEq, and_true, Value.slice.injEq] at hcs
  obtain ⟨rfl, rfl, rfl⟩ := hcs
  simp only [if_true] at hz
  have hlen : (ss.take len0).length = len0 := by simp; omega
  refine ⟨ss.take len0, ⟨some a, cap0, by rw [hlen], by rw [hlen]; exact hl, by unfold maxLen at hm; omega, fun j hj => ?_⟩, fun x hx => hsz x (List.mem_of_mem_take hx)⟩
  rw [hlen] at hj
  have h0 := plain_addr (hcell 0 (by omega))
  rw [Addr.add, if_pos rfl] at h0
  have hc := hcell j (by omega)
  have hg : ss.getD j ByteArray.empty = (ss.take len0)[j]'(by omega) := by rw [List.getD_eq_getElem?_getD, List.getElem?_eq_getElem (by omega), List.getElem_take]; rfl
  have hb := World.block_lt_of_cell? W _ hc
  rw [hg] at hc
  refine ⟨a.block, a.off, by rw [<- h0], ?_, ?_⟩
  ·rw [h0, Addr.add_mid] at hb; exact hb
  ·rw [h0, Addr.add_mid] at hc; exact hc
end
end Go.Proofs.YtehkeadpgedolaaGreatDoor
