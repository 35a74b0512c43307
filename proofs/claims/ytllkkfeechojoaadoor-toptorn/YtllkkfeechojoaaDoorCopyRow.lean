/- A row of 512 bytes of one's own, and bytes that are copied into it. -/
import Derived.Test.YtllkkfeechojoaaDoorSCrc
import Derived.Test.YtllkkfeechojoaaDoorFrame
import Derived.Test.YtllkkfeechojoaaDoorKit
import Derived.Laws.IdiomCopy
namespace Go.Proofs.YtllkkfeechojoaaDoor
open Go.RowKit
/-- A block of 512 bytes that may be written: the bytes L. -/
def ownRow (w : World) (b : Nat) (L : List UInt8) : Prop := L.length = 512 ∧ w.heap[b]? = some (.cells (L.map Sh.B).toArray 5 (0, 0))
theorem laidCells_block {b : Nat} {t : TypeId} {fr : Nat × Nat} : ∀ (vs l : List Value) (o : Nat) (w : World), w.heap[b]? = some (.cells l.toArray t fr) → o + vs.length ≤ l.length →
    (w.setCells b o vs).heap[b]? = some (.cells (l.take o ++ vs ++ l.drop (o + vs.length)).toArray t fr)
  | [], l, o, w, h, _ => by simpa [World.setCells] using h
  | v :: r, l, o, w, h, hl => by
    simp only [List.length_cons] at hl
    have h1 := block_setCell h o v
    rw [List.setIfInBounds_toArray] at h1
    have ih := laidCells_block r (l.set o v) (o + 1) (w.setCell ⟨b, o, none⟩ v) h1 (by simp; omega)
    rw [World.setCells, ih]
    have e1 : (l.set o v).take (o + 1) = l.take o ++ [v] := by
      rw [List.take_succ_eq_append_getElem (by simp; omega), List.getElem_set_self, List.take_set_of_le (Nat.le_refl _)]
    have e2 : (l.set o v).drop (o + 1 + r.length) = l.drop (o + 1 + r.length) := List.drop_set_of_lt (by omega)
    rw [e1, e2]
    simp [Nat.add_assoc, Nat.add_comm 1]
theorem laidCells_keeps {b : Nat} : ∀ (vs : List Value) (o : Nat) (w : World), Keeps (fun i => i = b) w (w.setCells b o vs)
  | [], _, w => Keeps.refl _ _
  | v :: r, o, w => by
    have h1 : Keeps (fun i => i = b) w (w.setCell ⟨b, o, none⟩ v) := Keeps.of_grown (r := some b) (grown_setCell (grown_refl _ _) _ _) (fun i e => (Option.some.inj e).symm)
    exact h1.trans (laidCells_keeps r (o + 1) _) (fun i e => .inl e)
set_option maxRecDepth 100000 in
theorem wpList_copy_row {w : World} {ops : Array Oper} {rest : List Oper} {o : Oper} {a : Act} {Q : Exit → Act → World → Prop} (hgd : o.guard = none) (d s : Operand)
    (ho : o.op = .call { callee := .builtin .copy, args := #[d, s], argTypes := #[22, 22] }) (b : Nat) (L xs : List UInt8) (v : Value)
    (hd : a.eval d = .slice (some ⟨b, 0, none⟩) 512 512) (hs : a.eval s = v) (hr : ownRow w b L) (hb : Sh.Bytes w v xs)
    (h : ∀ r w', ownRow w' b (xs.take 512 ++ L.drop (min xs.length 512)) → Keeps (fun i => i = b) w w' → wpList Tryd.prog ops Q rest (a.put o.dst r) w') : wpList Tryd.prog ops Q (o :: rest) a w := by
  obtain ⟨ad, cap, rfl, hcap, hx⟩ := hb
  have hsz : (Tryd.prog.info? 5).map (·.size) = some 1 := by kernel_rfl
  refine wpList_plain hgd fun K hK => ?_
  rcases Nat.eq_zero_or_pos xs.length with h0 | hpos
  · obtain rfl : xs = [] := List.eq_nil_of_length_eq_zero h0
    have hrun := run_copy_none (P := Tryd.prog) w 22 22 o.type 5 (some ⟨b, 0, none⟩) ad 512 512 0 cap Tryd.underlying22 hsz (by decide)
    unfold Oper.wp
    simp only [List.length_nil] at hs
    simp [execOp, ho, resolve, invoke, builtin, hd, hs, hrun, Result.andThen]
    exact hK _ _ (h _ w (by simpa using hr) (Keeps.refl _ _))
  · obtain ⟨sb, so, rfl, _⟩ := hx 0 xs[0] (List.getElem?_eq_getElem hpos)
    have hl : ((xs.take 512).map Sh.B).length = Nat.min xs.length 512 := by
      rw [List.length_map, List.length_take]; exact Nat.min_comm _ _
    have hle : Nat.min xs.length 512 ≤ 512 := Nat.min_le_right _ _
    have hrun := run_copy_cells (P := Tryd.prog) w 22 22 o.type 5 b 0 512 512 ⟨sb, so, none⟩ xs.length cap ((xs.take 512).map Sh.B) Tryd.underlying22 hsz hl
      (fun j u hu => by
        rw [List.getElem?_map] at hu
        obtain ⟨x, hxj, rfl⟩ := Option.map_eq_some_iff.1 hu
        have hj5 : j < 512 := by
          have h1 := (List.getElem?_eq_some_iff.1 hxj).1
          rw [List.length_take] at h1
          omega
        rw [List.getElem?_take_of_lt hj5] at hxj
        obtain ⟨b', off', he, hc⟩ := hx j x hxj
        simp only [Option.some.injEq, Addr.mk.injEq, and_true] at he
        obtain ⟨rfl, rfl⟩ := he
        rw [Addr.add_mid]; exact hc)
      (fun j hj => by
        have hjl : j < L.length := by rw [hr.1]; omega
        rw [Nat.zero_add, cell_of_block hr.2]
        simp [hjl])
      (fun j _ => frozen_of_block hr.2 _) (by intro u hu; obtain ⟨x, _, rfl⟩ := List.mem_map.1 hu; rfl)
    have hblk := laidCells_block ((xs.take 512).map Sh.B) (L.map Sh.B) 0 w hr.2 (by rw [hl, List.length_map, hr.1]; omega)
    obtain ⟨cs, hcs⟩ : ∃ cs, (xs.take 512).map Sh.B = cs := ⟨_, rfl⟩
    rw [hcs] at hrun hblk hl
    unfold Oper.wp
    simp [execOp, ho, resolve, invoke, builtin, hd, hs, hrun, Result.andThen]
    refine hK _ _ (h _ _ ⟨?_, ?_⟩ (laidCells_keeps _ _ _))
    · rw [List.length_append, List.length_take, List.length_drop, hr.1]; omega
    · rw [hblk, hl, ← hcs]
      simp [List.map_take, List.map_drop]
end Go.Proofs.YtllkkfeechojoaaDoor
