/- Deeds of law05 that were handed in. -/
import Derived.Test.YtkkmbgjlmdddoabGreatBaseC
namespace Go.Proofs.YtkkmbgjlmdddoabGreat
open Go.ChangeShapes Go.WideShapes Go.ChangeAt Go.RowKit
/-- A deed: what is done, and the number. -/
structure LDeed where
  k : Int
  n : Int
def LDeed.ok (w : World) (D : LDeed) (b o : Nat) : Prop := w.cell? ⟨b, o, none⟩ = some (.int .i64 D.k) ∧ w.cell? ⟨b, o + 1, none⟩ = some (.int .i64 D.n)
def ldeedsAt (w : World) (a : Option Addr) (ds : List LDeed) : Prop := ∀ j, j < ds.length → ∃ b o, a = some ⟨b, o, none⟩ ∧ ∀ i (hi : i < ds.length), LDeed.ok w ds[i] b (o + i * 2)
theorem LDeed.ok.below {w w' : World} {D : LDeed} {b o : Nat} (h : D.ok w b o) (k : Below w.heap.size w w') : D.ok w' b o :=
  ⟨(k.cell (World.block_lt_of_cell? w _ h.1)).trans h.1, (k.cell (World.block_lt_of_cell? w _ h.2)).trans h.2⟩
theorem ldeedsAt.below {w w' : World} {a : Option Addr} {ds : List LDeed} (h : ldeedsAt w a ds) (k : Below w.heap.size w w') : ldeedsAt w' a ds := fun j hj => by
  obtain ⟨b, o, e, hc⟩ := h j hj
  exact ⟨b, o, e, fun i hi => (hc i hi).below k⟩
theorem cellsLDeed : Tryz.prog.cellsOf 47 = 2 := by kernel_rfl
set_option maxRecDepth 100000 in
/-- One deed in memory. -/
theorem ldeed_cells {H : Type} {enc : TypeId × Value → H} {W : World} {sp : Nat → Bool} {held : Bool} {a : Addr} {m : Nat} {y : DataW H × List MemPlace} (h : (W.cells? 0 a 2).bind (DataW.trod enc Tryz.prog W 0 sp held m 47) = some y) :
    ∃ D : LDeed, a = ⟨a.block, a.off, none⟩ ∧ D.ok W a.block a.off := by
  obtain ⟨cs, hcs, hf⟩ := Option.bind_eq_some_iff.1 h
  obtain ⟨_, hl, hc⟩ := World.cells?_some hcs
  obtain ⟨y0, y1, n, _, _, h0, h1⟩ := trod_struct2 Tryz.underlying47 hf
  match cs, hl with
  | [v0, v1], _ =>
    obtain ⟨kk, e0, _⟩ := DataW.trod_int Tryz.underlying3 h0
    obtain ⟨nn, e1, _⟩ := DataW.trod_int Tryz.underlying3 h1
    have e0' : v0 = .int .i64 kk := by simpa [show Tryz.prog.cellsOf 3 = 1 by kernel_rfl] using e0
    have e1' : v1 = .int .i64 nn := by simpa [show Tryz.prog.cellsOf 3 = 1 by kernel_rfl] using e1
    subst e0' e1'
    have c0 := hc 0 (by omega)
    have hp := plain_addr c0
    rw [Addr.add, if_pos rfl] at hp
    rw [hp] at hc
    refine ⟨⟨kk, nn⟩, hp, ?_, ?_⟩
    · simpa [Addr.add_mid] using hc 0 (by omega)
    · simpa [Addr.add_mid] using hc 1 (by omega)
set_option maxRecDepth 100000 in
theorem ldeeds_open {H : Type} {enc : TypeId × Value → H} {W : World} {base : Nat} {v : Value} {d : DataW H} {p : List MemPlace} (hok : Value.okWide Tryz.prog W .any base 39 v) (h : DataW.Trod enc Tryz.prog W 0 (fun _ => true) true 39 v d p) :
    ∃ (ds : List LDeed) (a : Option Addr) (c : Nat), v = .slice a ds.length c ∧ ldeedsAt W a ds ∧ ds.length ≤ 9223372036854775807 := by
  obtain ⟨a0, len, cap, rfl⟩ := okWide_slice Tryz.underlying39 hok
  obtain ⟨fuel, hf⟩ := h
  rcases DataW.trod_slice Tryz.underlying39 hf with ⟨hcs, hx⟩ | ⟨a, len', cap', elems, rest, n, _, hcs, hx, _, hl, hm, hel, hcell, _, _⟩
  · simp only [Value.cells, List.cons.injEq, and_true, Value.slice.injEq] at hcs
    obtain ⟨rfl, rfl, rfl⟩ := hcs
    exact ⟨[], none, 0, rfl, fun j hj => by simp at hj, by simp⟩
  · simp only [Value.cells, List.cons.injEq, and_true, Value.slice.injEq] at hcs
    obtain ⟨rfl, rfl, rfl⟩ := hcs
    have hex : ∀ i, i < len → ∃ D : LDeed, (a.add (i * 2)) = ⟨a.block, a.off + i * 2, none⟩ ∧ D.ok W a.block (a.off + i * 2) := fun i hi => by
      have h1 := hcell i hi
      rw [cellsLDeed, List.getElem?_eq_getElem (by omega)] at h1
      obtain ⟨D, hp, c0⟩ := ldeed_cells h1
      have hblk : (a.add (i * 2)).block = a.block := add_block a _
      have hoff : (a.add (i * 2)).off = a.off + i * 2 := add_off _ _
      rw [hblk, hoff] at hp c0
      exact ⟨D, hp, c0⟩
    obtain ⟨ds, hdl, hP⟩ := list_of len hex
    refine ⟨ds, some a, cap, by rw [hdl], fun j hj => ?_, by unfold maxLen at hm; omega⟩
    have ha : a = ⟨a.block, a.off, none⟩ := by
      have h1 := hcell 0 (by omega)
      rw [cellsLDeed, List.getElem?_eq_getElem (by omega)] at h1
      obtain ⟨D, hp, _⟩ := ldeed_cells h1
      rw [Nat.zero_mul, Addr.add, if_pos rfl] at hp
      exact hp
    exact ⟨a.block, a.off, by rw [← ha], fun i hi => (hP i hi).2⟩
end Go.Proofs.YtkkmbgjlmdddoabGreat
