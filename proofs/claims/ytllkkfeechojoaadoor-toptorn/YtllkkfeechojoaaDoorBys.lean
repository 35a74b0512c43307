/- Rows of bytes of one's own, of any length; pieces of 512 bytes of them. -/
import Derived.Test.YtllkkfeechojoaaDoorMk
import Derived.Test.YtllkkfeechojoaaDoorJoined1
namespace Go.Proofs.YtllkkfeechojoaaDoor
open Go.RowKit
/-- A block of m bytes that may be written: the bytes L. -/
def ownBy (w : World) (b m : Nat) (L : List UInt8) : Prop := L.length = m ∧ w.heap[b]? = some (.cells (L.map Sh.B).toArray 5 (0, 0))
set_option maxRecDepth 100000 in
theorem wpList_copy_bytes {w : World} {ops : Array Oper} {rest : List Oper} {o : Oper} {a : Act} {Q : Exit → Act → World → Prop} (hgd : o.guard = none) (d s : Operand)
    (ho : o.op = .call { callee := .builtin .copy, args := #[d, s], argTypes := #[22, 22] }) (b m : Nat) (L xs : List UInt8) (v : Value)
    (hd : a.eval d = .slice (some ⟨b, 0, none⟩) m m) (hs : a.eval s = v) (hr : ownBy w b m L) (hb : Sh.Bytes w v xs)
    (h : ∀ r w', ownBy w' b m (xs.take m ++ L.drop (min xs.length m)) → Keeps (fun i => i = b) w w' → wpList Tryd.prog ops Q rest (a.put o.dst r) w') : wpList Tryd.prog ops Q (o :: rest) a w := by
  obtain ⟨ad, cap, rfl, hcap, hx⟩ := hb
  have hsz : (Tryd.prog.info? 5).map (·.size) = some 1 := by kernel_rfl
  refine wpList_plain hgd fun K hK => ?_
  rcases Nat.eq_zero_or_pos xs.length with h0 | hpos
  · obtain rfl : xs = [] := List.eq_nil_of_length_eq_zero h0
    have hrun := run_copy_none (P := Tryd.prog) w 22 22 o.type 5 (some ⟨b, 0, none⟩) ad m m 0 cap Tryd.underlying22 hsz (Nat.zero_min m)
    unfold Oper.wp
    simp only [List.length_nil] at hs
    simp [execOp, ho, resolve, invoke, builtin, hd, hs, hrun, Result.andThen]
    exact hK _ _ (h _ w (by simpa using hr) (Keeps.refl _ _))
  · obtain ⟨sb, so, rfl, _⟩ := hx 0 xs[0] (List.getElem?_eq_getElem hpos)
    have hl : ((xs.take m).map Sh.B).length = Nat.min xs.length m := by
      rw [List.length_map, List.length_take]; exact Nat.min_comm _ _
    have hle : Nat.min xs.length m ≤ m := Nat.min_le_right _ _
    have hrun := run_copy_cells (P := Tryd.prog) w 22 22 o.type 5 b 0 m m ⟨sb, so, none⟩ xs.length cap ((xs.take m).map Sh.B) Tryd.underlying22 hsz hl
      (fun j u hu => by
        rw [List.getElem?_map] at hu
        obtain ⟨x, hxj, rfl⟩ := Option.map_eq_some_iff.1 hu
        have hj5 : j < m := by
          have h1 := (List.getElem?_eq_some_iff.1 hxj).1
          rw [List.length_take] at h1
          omega
        rw [List.getElem?_take_of_lt hj5] at hxj
        obtain ⟨b', off', he, hc⟩ := hx j x hxj
        simp only [Option.some.injEq, Addr.mk.injEq, and_true] at he
        obtain ⟨rfl, rfl⟩ := he
        rw [Addr.add_mid]; exact hc)
      (fun j hj => by
        have hjl : j < L.length := by rw [hr.1]; omega
        rw [Nat.zero_add, cell_of_block hr.2]
        simp [hjl])
      (fun j _ => frozen_of_block hr.2 _) (by intro u hu; obtain ⟨x, _, rfl⟩ := List.mem_map.1 hu; rfl)
    have hblk := laidCells_block ((xs.take m).map Sh.B) (L.map Sh.B) 0 w hr.2 (by rw [hl, List.length_map, hr.1]; omega)
    obtain ⟨cs, hcs⟩ : ∃ cs, (xs.take m).map Sh.B = cs := ⟨_, rfl⟩
    rw [hcs] at hrun hblk hl
    unfold Oper.wp
    simp [execOp, ho, resolve, invoke, builtin, hd, hs, hrun, Result.andThen]
    refine hK _ _ (h _ _ ⟨?_, ?_⟩ (laidCells_keeps _ _ _))
    · rw [List.length_append, List.length_take, List.length_drop, hr.1]; omega
    · rw [hblk, hl, ← hcs]
      simp [List.map_take, List.map_drop]
theorem ownBy.keep {w w' : World} {b m : Nat} {L : List UInt8} {F : Nat → Prop} (h : ownBy w b m L) (k : Keeps F w w') (hF : ¬ F b) : ownBy w' b m L := ⟨h.1, k.heap h.2 hF⟩
theorem ownBy.below {w w' : World} {b m : Nat} {L : List UInt8} (h : ownBy w b m L) (k : Below w.heap.size w w') : ownBy w' b m L := ⟨h.1, below_block k h.2 (lt_of_heap h.2)⟩
theorem ownBy.off {w : World} {b m : Nat} {L : List UInt8} {d : DL} {S : DiskS} (h : ownBy w b m L) (hd : DiskIn w d S) : ¬ d.foot S.waits b := by
  have hi := h.2
  rintro (e | e | e)
  · rw [e, hd.heap] at hi
    simp only [Option.some.injEq, Obj.cells.injEq] at hi
    exact absurd hi.2.1 (by decide)
  · obtain ⟨cur, hc⟩ := row_type hd.ops e
    rw [hc] at hi
    simp only [Option.some.injEq, Obj.cells.injEq] at hi
    exact absurd hi.2.1 (by decide)
  · exact hd.plates.foot_other hi (by decide) e
/-- The piece i of 512 bytes. -/
def pieceS (L : List UInt8) (i : Nat) : List UInt8 := (L.drop (i * 512)).take 512
theorem length_piece (L : List UInt8) (i : Nat) (h : i * 512 + 512 ≤ L.length) : (pieceS L i).length = 512 := by
  rw [pieceS, List.length_take, List.length_drop]; omega
theorem piece_at (L : List UInt8) (i j : Nat) (hj : j < 512) : (pieceS L i)[j]? = L[i * 512 + j]? := by
  rw [pieceS, List.getElem?_take_of_lt hj, List.getElem?_drop]
theorem ownBy.piece {w : World} {b m : Nat} {L : List UInt8} (h : ownBy w b m L) (i : Nat) (hi : i * 512 + 512 ≤ L.length) : bytesAt w ⟨b, i * 512, none⟩ (pieceS L i) := by
  intro j hj
  have h5 : j < 512 := by rw [length_piece L i hi] at hj; exact hj
  have hp := piece_at L i j h5
  rw [List.getElem?_eq_getElem hj, List.getElem?_eq_getElem (by omega)] at hp
  rw [Addr.add_mid, cell_of_block h.2, List.getElem?_toArray, List.getElem?_map, List.getElem?_eq_getElem (by omega), Option.some.inj hp]; rfl
/-- Noughts, as many as a text of seven sectors has bytes. -/
def zbig : List UInt8 := List.replicate 3584 0
theorem length_zbig : zbig.length = 3584 := List.length_replicate
theorem rep_B (n : Nat) : (List.replicate n (Value.int .u8 0)).toArray = ((List.replicate n (0 : UInt8)).map Sh.B).toArray := by rw [List.map_replicate]; rfl
theorem wpList_mk_big {w : World} {ops : Array Oper} {rest : List Oper} {o : Oper} {a : Act} {Q : Exit → Act → World → Prop} (hg : o.guard = none) (l c : Operand) (hop : o.op = Op.makeSlice 22 l c)
    (hl : a.eval l = .int .i64 3584) (hc : a.eval c = .int .i64 3584)
    (h : ∀ w1 : World, Below w.heap.size w w1 → ownBy w1 w.heap.size 3584 zbig → wpList Tryd.prog ops Q rest (a.put o.dst (.slice (some ⟨w.heap.size, 0, none⟩) 3584 3584)) w1) : wpList Tryd.prog ops Q (o :: rest) a w :=
  wpList_make_u8 hg l c hop 3584 3584 rfl hl hc (by omega) (fun w1 h1 h2 _ => h w1 h1 ⟨length_zbig, by rw [h2, rep_B]; rfl⟩)
end Go.Proofs.YtllkkfeechojoaaDoor
