/- Deeds of law04 that were handed in. -/
import Derived.Test.YtjgclmlclkfgpaaGreatBaseC
namespace Go.Proofs.YtjgclmlclkfgpaaGreat
open Go.ChangeShapes Go.WideShapes Go.ChangeAt Go.RowKit
/-- A deed: what is done, the page, the byte, is it short. -/
structure BDeed where
  k : Int
  n : Int
  x : UInt8
  s : Bool
def BDeed.ok (w : World) (D : BDeed) (b o : Nat) : Prop := w.cell? ⟨b, o, none⟩ = some (.int .i64 D.k) ∧ w.cell? ⟨b, o + 1, none⟩ = some (.int .i64 D.n) ∧ w.cell? ⟨b, o + 2, none⟩ = some (.int .u8 (D.x.toNat : Int)) ∧ w.cell? ⟨b, o + 3, none⟩ = some (.bool D.s) ∧ -9223372036854775808 ≤ D.n ∧ D.n ≤ 9223372036854775807
def bdeedsAt (w : World) (a : Option Addr) (ds : List BDeed) : Prop := ∀ j, j < ds.length → ∃ b o, a = some ⟨b, o, none⟩ ∧ ∀ i (hi : i < ds.length), BDeed.ok w ds[i] b (o + i * 4)
theorem BDeed.ok.below {w w' : World} {D : BDeed} {b o : Nat} (h : D.ok w b o) (k : Below w.heap.size w w') : D.ok w' b o :=
  ⟨(k.cell (World.block_lt_of_cell? w _ h.1)).trans h.1, (k.cell (World.block_lt_of_cell? w _ h.2.1)).trans h.2.1, (k.cell (World.block_lt_of_cell? w _ h.2.2.1)).trans h.2.2.1, (k.cell (World.block_lt_of_cell? w _ h.2.2.2.1)).trans h.2.2.2.1, h.2.2.2.2⟩
theorem bdeedsAt.below {w w' : World} {a : Option Addr} {ds : List BDeed} (h : bdeedsAt w a ds) (k : Below w.heap.size w w') : bdeedsAt w' a ds := fun j hj => by
  obtain ⟨b, o, e, hc⟩ := h j hj
  exact ⟨b, o, e, fun i hi => (hc i hi).below k⟩
theorem cellsBDeed : Tryz.prog.cellsOf 30 = 4 := by kernel_rfl
set_option maxRecDepth 100000 in
/-- One deed in memory. -/
theorem bdeed_cells {H : Type} {enc : TypeId × Value → H} {W : World} {sp : Nat → Bool} {held : Bool} {a : Addr} {m : Nat} {y : DataW H × List MemPlace} (h : (W.cells? 0 a 4).bind (DataW.trod enc Tryz.prog W 0 sp held m 30) = some y) :
    ∃ D : BDeed, a = ⟨a.block, a.off, none⟩ ∧ D.ok W a.block a.off := by
  obtain ⟨cs, hcs, hf⟩ := Option.bind_eq_some_iff.1 h
  obtain ⟨_, hl, hc⟩ := World.cells?_some hcs
  obtain ⟨y0, y1, y2, y3, n, _, _, h0, h1, h2, h3⟩ := Joins.trod_struct4 Tryz.underlying30 hf
  match cs, hl with
  | [v0, v1, v2, v3], _ =>
    obtain ⟨kk, e0, _⟩ := DataW.trod_int Tryz.underlying3 h0
    obtain ⟨nn, e1, _, w1⟩ := DataW.trod_int Tryz.underlying3 h1
    obtain ⟨x, e2, _, w2⟩ := DataW.trod_int Tryz.underlying5 h2
    obtain ⟨f, e3, _⟩ := DataW.trod_bool Tryz.underlying4 h3
    have e0' : v0 = .int .i64 kk := by simpa [show Tryz.prog.cellsOf 3 = 1 by kernel_rfl] using e0
    have e1' : v1 = .int .i64 nn := by simpa [show Tryz.prog.cellsOf 3 = 1 by kernel_rfl] using e1
    have e2' : v2 = .int .u8 x := by simpa [show Tryz.prog.cellsOf 3 = 1 by kernel_rfl, show Tryz.prog.cellsOf 5 = 1 by kernel_rfl] using e2
    have e3' : v3 = .bool f := by simpa [show Tryz.prog.cellsOf 3 = 1 by kernel_rfl, show Tryz.prog.cellsOf 5 = 1 by kernel_rfl, show Tryz.prog.cellsOf 4 = 1 by kernel_rfl] using e3
    subst e0' e1' e2' e3'
    have hb := bounds_u8 w2
    have hx : x = ((UInt8.ofNat x.toNat).toNat : Int) := by simp only [UInt8.toNat_ofNat']; omega
    have c0 := hc 0 (by omega)
    have hp := plain_addr c0
    rw [Addr.add, if_pos rfl] at hp
    rw [hp] at hc
    have d2 : W.cell? ⟨a.block, a.off + 2, none⟩ = some (.int .u8 x) := by simpa [Addr.add_mid] using hc 2 (by omega)
    rw [hx] at d2
    refine ⟨⟨kk, nn, UInt8.ofNat x.toNat, f⟩, hp, ?_, ?_, d2, ?_, bounds_i64 w1⟩
    · simpa [Addr.add_mid] using hc 0 (by omega)
    · simpa [Addr.add_mid] using hc 1 (by omega)
    · simpa [Addr.add_mid] using hc 3 (by omega)
set_option maxRecDepth 100000 in
theorem bdeeds_open {H : Type} {enc : TypeId × Value → H} {W : World} {base : Nat} {v : Value} {d : DataW H} {p : List MemPlace} (hok : Value.okWide Tryz.prog W .any base 22 v) (h : DataW.Trod enc Tryz.prog W 0 (fun _ => true) true 22 v d p) :
    ∃ (ds : List BDeed) (a : Option Addr) (c : Nat), v = .slice a ds.length c ∧ bdeedsAt W a ds ∧ ds.length ≤ 9223372036854775807 := by
  obtain ⟨a0, len, cap, rfl⟩ := okWide_slice Tryz.underlying22 hok
  obtain ⟨fuel, hf⟩ := h
  rcases DataW.trod_slice Tryz.underlying22 hf with ⟨hcs, hx⟩ | ⟨a, len', cap', elems, rest, n, _, hcs, hx, _, hl, hm, hel, hcell, _, _⟩
  · simp only [Value.cells, List.cons.injEq, and_true, Value.slice.injEq] at hcs
    obtain ⟨rfl, rfl, rfl⟩ := hcs
    exact ⟨[], none, 0, rfl, fun j hj => by simp at hj, by simp⟩
  · simp only [Value.cells, List.cons.injEq, and_true, Value.slice.injEq] at hcs
    obtain ⟨rfl, rfl, rfl⟩ := hcs
    have hex : ∀ i, i < len → ∃ D : BDeed, (a.add (i * 4)) = ⟨a.block, a.off + i * 4, none⟩ ∧ D.ok W a.block (a.off + i * 4) := fun i hi => by
      have h1 := hcell i hi
      rw [cellsBDeed, List.getElem?_eq_getElem (by omega)] at h1
      obtain ⟨D, hp, c0⟩ := bdeed_cells h1
      have hblk : (a.add (i * 4)).block = a.block := add_block a _
      have hoff : (a.add (i * 4)).off = a.off + i * 4 := add_off _ _
      rw [hblk, hoff] at hp c0
      exact ⟨D, hp, c0⟩
    obtain ⟨ds, hdl, hP⟩ := list_of len hex
    refine ⟨ds, some a, cap, by rw [hdl], fun j hj => ?_, by unfold maxLen at hm; omega⟩
    have ha : a = ⟨a.block, a.off, none⟩ := by
      have h1 := hcell 0 (by omega)
      rw [cellsBDeed, List.getElem?_eq_getElem (by omega)] at h1
      obtain ⟨D, hp, _⟩ := bdeed_cells h1
      rw [Nat.zero_mul, Addr.add, if_pos rfl] at hp
      exact hp
    exact ⟨a.block, a.off, by rw [← ha], fun i hi => (hP i hi).2⟩
end Go.Proofs.YtjgclmlclkfgpaaGreat
