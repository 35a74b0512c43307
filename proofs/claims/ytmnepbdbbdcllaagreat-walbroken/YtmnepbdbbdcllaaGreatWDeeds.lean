/- Deeds of law03 that were handed in. -/
import Derived.Test.YtmnepbdbbdcllaaGreatBaseC
import Derived.Deep.Strs
namespace Go.Proofs.YtmnepbdbbdcllaaGreat
open Go.ChangeShapes Go.WideShapes Go.ChangeAt Go.RowKit
/-- A deed: is it short, its numbers and where they lie, its byte. -/
structure WDeed where
  s : Bool
  ns : List Int
  na : Option Addr
  nc : Nat
  x : UInt8
def WDeed.ok (w : World) (D : WDeed) (b o : Nat) : Prop := w.cell? ⟨b, o, none⟩ = some (.bool D.s) ∧ w.cell? ⟨b, o + 1, none⟩ = some (.slice D.na D.ns.length D.nc) ∧ w.cell? ⟨b, o + 2, none⟩ = some (.int .u8 (D.x.toNat : Int)) ∧ intsAt w D.na D.ns ∧ D.ns.length ≤ 9223372036854775807
def wdeedsAt (w : World) (a : Option Addr) (ds : List WDeed) : Prop := ∀ j, j < ds.length → ∃ b o, a = some ⟨b, o, none⟩ ∧ ∀ i (hi : i < ds.length), WDeed.ok w ds[i] b (o + i * 3)
theorem WDeed.ok.below {w w' : World} {D : WDeed} {b o : Nat} (h : D.ok w b o) (k : Below w.heap.size w w') : D.ok w' b o :=
  ⟨(k.cell (World.block_lt_of_cell? w _ h.1)).trans h.1, (k.cell (World.block_lt_of_cell? w _ h.2.1)).trans h.2.1, (k.cell (World.block_lt_of_cell? w _ h.2.2.1)).trans h.2.2.1, h.2.2.2.1.below k, h.2.2.2.2⟩
theorem wdeedsAt.below {w w' : World} {a : Option Addr} {ds : List WDeed} (h : wdeedsAt w a ds) (k : Below w.heap.size w w') : wdeedsAt w' a ds := fun j hj => by
  obtain ⟨b, o, e, hc⟩ := h j hj
  exact ⟨b, o, e, fun i hi => (hc i hi).below k⟩
theorem cellsWDeed : Tryz.prog.cellsOf 32 = 3 := by kernel_rfl
set_option maxRecDepth 100000 in
/-- One deed in memory. -/
theorem wdeed_cells {H : Type} {enc : TypeId × Value → H} {W : World} {sp : Nat → Bool} {held : Bool} {a : Addr} {m : Nat} {y : DataW H × List MemPlace} (h : (W.cells? 0 a 3).bind (DataW.trod enc Tryz.prog W 0 sp held m 32) = some y) :
    ∃ D : WDeed, a = ⟨a.block, a.off, none⟩ ∧ D.ok W a.block a.off := by
  obtain ⟨cs, hcs, hf⟩ := Option.bind_eq_some_iff.1 h
  obtain ⟨_, hl, hc⟩ := World.cells?_some hcs
  obtain ⟨y0, y1, y2, n, _, _, h0, h1, h2⟩ := Deep.trod_struct3 Tryz.underlying32 hf
  match cs, hl with
  | [v0, v1, v2], _ =>
    obtain ⟨f, e0, _⟩ := DataW.trod_bool Tryz.underlying4 h0
    obtain ⟨x, e2, _, w2⟩ := DataW.trod_int Tryz.underlying5 h2
    have e0' : v0 = .bool f := by simpa [show Tryz.prog.cellsOf 4 = 1 by kernel_rfl] using e0
    have e2' : v2 = .int .u8 x := by simpa [show Tryz.prog.cellsOf 5 = 1 by kernel_rfl] using e2
    subst e0' e2'
    have hb := bounds_u8 w2
    have hx : x = ((UInt8.ofNat x.toNat).toNat : Int) := by simp only [UInt8.toNat_ofNat']; omega
    have c0 := hc 0 (by omega)
    have hp := plain_addr c0
    rw [Addr.add, if_pos rfl] at hp
    rw [hp] at hc
    have d0 : W.cell? ⟨a.block, a.off, none⟩ = some (.bool f) := by simpa [Addr.add_mid] using hc 0 (by omega)
    have d1 : W.cell? ⟨a.block, a.off + 1, none⟩ = some v1 := by simpa [Addr.add_mid] using hc 1 (by omega)
    have d2 : W.cell? ⟨a.block, a.off + 2, none⟩ = some (.int .u8 x) := by simpa [Addr.add_mid] using hc 2 (by omega)
    rw [hx] at d2
    have hcs1 : ([Value.bool f, v1, Value.int .u8 x].drop 1).take (Tryz.prog.cellsOf 30) = [v1] := by
      rw [show Tryz.prog.cellsOf 30 = 1 by kernel_rfl]; rfl
    have h1' := h1
    simp only [] at h1'
    rcases open_ints Tryz.underlying30 Tryz.underlying3 cellsInt h1' with ⟨hcs, _⟩ | ⟨ia, len, cap, zs, hcs, _, hl2, hm, hz, _, hcell, hwz⟩
    · rw [hcs1] at hcs
      simp only [List.cons.injEq, and_true] at hcs
      subst hcs
      exact ⟨⟨f, [], none, 0, UInt8.ofNat x.toNat⟩, hp, d0, d1, d2, fun j hj => by simp at hj, by simp⟩
    · rw [hcs1] at hcs
      simp only [List.cons.injEq, and_true] at hcs
      subst hcs
      have hzl : len ≤ zs.length := by rw [hz]; split <;> omega
      have hlen : (zs.take len).length = len := by simp; omega
      refine ⟨⟨f, zs.take len, some ia, cap, UInt8.ofNat x.toNat⟩, hp, d0, by rw [hlen]; exact d1, d2, fun j hj => ?_, by rw [hlen]; unfold maxLen at hm; omega⟩
      have hj' : j < len := by rw [← hlen]; exact hj
      have h00 := plain_addr (hcell 0 (by omega))
      rw [Addr.add, if_pos rfl] at h00
      refine ⟨ia.block, ia.off, by rw [← h00], fun i hi => ?_⟩
      have hil : i < len := by rw [← hlen]; exact hi
      have hc := hcell i (by omega)
      have hiz : i < zs.length := by omega
      have hg : zs.getD i 0 = (zs.take len)[i]'(by rw [hlen]; exact hil) := by rw [List.getD_eq_getElem?_getD, List.getElem?_eq_getElem hiz]; simp
      rw [hg, h00, Addr.add_mid] at hc
      exact hc
set_option maxRecDepth 100000 in
theorem wdeeds_open {H : Type} {enc : TypeId × Value → H} {W : World} {base : Nat} {v : Value} {d : DataW H} {p : List MemPlace} (hok : Value.okWide Tryz.prog W .any base 22 v) (h : DataW.Trod enc Tryz.prog W 0 (fun _ => true) true 22 v d p) :
    ∃ (ds : List WDeed) (a : Option Addr) (c : Nat), v = .slice a ds.length c ∧ wdeedsAt W a ds ∧ ds.length ≤ 9223372036854775807 := by
  obtain ⟨a0, len, cap, rfl⟩ := okWide_slice Tryz.underlying22 hok
  obtain ⟨fuel, hf⟩ := h
  rcases DataW.trod_slice Tryz.underlying22 hf with ⟨hcs, hx⟩ | ⟨a, len', cap', elems, rest, n, _, hcs, hx, _, hl, hm, hel, hcell, _, _⟩
  · simp only [Value.cells, List.cons.injEq, and_true, Value.slice.injEq] at hcs
    obtain ⟨rfl, rfl, rfl⟩ := hcs
    exact ⟨[], none, 0, rfl, fun j hj => by simp at hj, by simp⟩
  · simp only [Value.cells, List.cons.injEq, and_true, Value.slice.injEq] at hcs
    obtain ⟨rfl, rfl, rfl⟩ := hcs
    have hex : ∀ i, i < len → ∃ D : WDeed, (a.add (i * 3)) = ⟨a.block, a.off + i * 3, none⟩ ∧ D.ok W a.block (a.off + i * 3) := fun i hi => by
      have h1 := hcell i hi
      rw [cellsWDeed, List.getElem?_eq_getElem (by omega)] at h1
      obtain ⟨D, hp, hD⟩ := wdeed_cells h1
      have hblk : (a.add (i * 3)).block = a.block := add_block a _
      have hoff : (a.add (i * 3)).off = a.off + i * 3 := add_off _ _
      rw [hblk, hoff] at hp hD
      exact ⟨D, hp, hD⟩
    obtain ⟨ds, hdl, hP⟩ := list_of len hex
    refine ⟨ds, some a, cap, by rw [hdl], fun j hj => ?_, by unfold maxLen at hm; omega⟩
    have ha : a = ⟨a.block, a.off, none⟩ := by
      have h1 := hcell 0 (by omega)
      rw [cellsWDeed, List.getElem?_eq_getElem (by omega)] at h1
      obtain ⟨D, hp, _⟩ := wdeed_cells h1
      rw [Nat.zero_mul, Addr.add, if_pos rfl] at hp
      exact hp
    exact ⟨a.block, a.off, by rw [← ha], fun i hi => (hP i hi).2⟩
end Go.Proofs.YtmnepbdbbdcllaaGreat
