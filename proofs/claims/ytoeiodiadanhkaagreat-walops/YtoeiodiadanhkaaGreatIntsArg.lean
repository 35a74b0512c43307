/- A slice of bytes, a slice of ints that was handed in. -/
import Derived.Test.YtoeiodiadanhkaaGreatDeedsArg
import Derived.Test.YtoeiodiadanhkaaGreatJoined1
namespace Go.Proofs.YtoeiodiadanhkaaGreat
open Go.ChangeShapes Go.WideShapes Go.ChangeAt Go.RowKit
theorem cellsU8 : Tryz.prog.cellsOf 5 = 1 := by kernel_rfl
set_option maxRecDepth 100000 in
theorem bytes_open {H : Type} {enc : TypeId × Value → H} {W : World} {base : Nat} {v : Value} {d : DataW H} {p : List MemPlace} (hok : Value.okWide Tryz.prog W .any base 37 v) (h : DataW.Trod enc Tryz.prog W 0 (fun _ => true) true 37 v d p) :
    ∃ (bs : List UInt8) (a : Option Addr) (c : Nat), v = .slice a bs.length c ∧ bytesIn W a bs ∧ bs.length ≤ 9223372036854775807 := by
  obtain ⟨a0, len0, cap0, rfl⟩ := okWide_slice Tryz.underlying37 hok
  obtain ⟨fuel, hf⟩ := h
  rcases open_ints Tryz.underlying37 Tryz.underlying5 cellsU8 hf with ⟨hcs, hx⟩ | ⟨a, len, cap, zs, hcs, _, hl, hm, hz, hx, hcell, hwz⟩
  · simp only [Value.cells, List.cons.injEq, and_true, Value.slice.injEq] at hcs
    obtain ⟨rfl, rfl, rfl⟩ := hcs
    exact ⟨[], none, 0, rfl, fun j hj => by simp at hj, by simp⟩
  · simp only [Value.cells, List.cons.injEq, and_true, Value.slice.injEq] at hcs
    obtain ⟨rfl, rfl, rfl⟩ := hcs
    simp only [if_true] at hz
    have hlen : ((zs.take len0).map fun n => UInt8.ofNat n.toNat).length = len0 := by simp; omega
    refine ⟨(zs.take len0).map fun n => UInt8.ofNat n.toNat, some a, cap0, by rw [hlen], fun j hj => ?_, by rw [hlen]; unfold maxLen at hm; omega⟩
    rw [hlen] at hj
    have h0 := plain_addr (hcell 0 (by omega))
    rw [Addr.add, if_pos rfl] at h0
    refine ⟨a.block, a.off, by rw [← h0], fun i hi => ?_⟩
    have hil : i < len0 := by rw [hlen] at hi; exact hi
    have hc := hcell i (by omega)
    have hiz : i < zs.length := by omega
    have hb := bounds_u8 (hwz zs[i] (List.getElem_mem hiz))
    have hg : zs.getD i 0 = zs[i] := by rw [List.getD_eq_getElem?_getD, List.getElem?_eq_getElem hiz]; rfl
    have hV : zs[i] = (((zs.take len0).map fun n => UInt8.ofNat n.toNat)[i].toNat : Int) := by
      simp only [List.getElem_map, List.getElem_take, UInt8.toNat_ofNat']; omega
    rw [hg, hV, h0, Addr.add_mid] at hc
    exact hc
theorem cellsInt : Tryz.prog.cellsOf 3 = 1 := by kernel_rfl
set_option maxRecDepth 100000 in
theorem ints_open {H : Type} {enc : TypeId × Value → H} {W : World} {base : Nat} {v : Value} {d : DataW H} {p : List MemPlace} (hok : Value.okWide Tryz.prog W .any base 30 v) (h : DataW.Trod enc Tryz.prog W 0 (fun _ => true) true 30 v d p) :
    ∃ (xs : List Int) (a : Option Addr) (c : Nat), v = .slice a xs.length c ∧ intsAt W a xs ∧ xs.length ≤ 9223372036854775807 := by
  obtain ⟨a0, len0, cap0, rfl⟩ := okWide_slice Tryz.underlying30 hok
  obtain ⟨fuel, hf⟩ := h
  rcases open_ints Tryz.underlying30 Tryz.underlying3 cellsInt hf with ⟨hcs, hx⟩ | ⟨a, len, cap, zs, hcs, _, hl, hm, hz, hx, hcell, hwz⟩
  · simp only [Value.cells, List.cons.injEq, and_true, Value.slice.injEq] at hcs
    obtain ⟨rfl, rfl, rfl⟩ := hcs
    exact ⟨[], none, 0, rfl, fun j hj => by simp at hj, by simp⟩
  · simp only [Value.cells, List.cons.injEq, and_true, Value.slice.injEq] at hcs
    obtain ⟨rfl, rfl, rfl⟩ := hcs
    simp only [if_true] at hz
    have hlen : (zs.take len0).length = len0 := by simp; omega
    refine ⟨zs.take len0, some a, cap0, by rw [hlen], fun j hj => ?_, by rw [hlen]; unfold maxLen at hm; omega⟩
    rw [hlen] at hj
    have h0 := plain_addr (hcell 0 (by omega))
    rw [Addr.add, if_pos rfl] at h0
    refine ⟨a.block, a.off, by rw [← h0], fun i hi => ?_⟩
    have hil : i < len0 := by rw [hlen] at hi; exact hi
    have hc := hcell i (by omega)
    have hiz : i < zs.length := by omega
    have hg : zs.getD i 0 = (zs.take len0)[i] := by rw [List.getD_eq_getElem?_getD, List.getElem?_eq_getElem hiz]; simp
    rw [hg, h0, Addr.add_mid] at hc
    exact hc
end Go.Proofs.YtoeiodiadanhkaaGreat
