/- The bytes read so far, and the hasher that has them. -/
import Derived.Test.YtllkkfeechojoaaDoorSSum
import Derived.Test.YtllkkfeechojoaaDoorSCopy
import Derived.Deep.AppendLies
namespace Go.Proofs.YtllkkfeechojoaaDoor.Sh
open Go.ChangeShapes Go.WideShapes Go.ChangeAt Go.RowKit
theorem run_append_empty {P : Program} {w : World} (base : Nat) (t ty e : TypeId) (i : TypeInfo) (size : Nat) (ht : P.underlying t = some (.slice e)) (hi : P.info? e = some i)
    (v : Value) (n : Nat) (xs : List Value) (hown : w.ownsRow base e size v n xs) (a : Option Addr) (c : Nat) :
    (Builtin.append_ #[t, t] ty #[v, .slice a 0 c]).run P w = .ok v w := by
  rcases hown.2 with ⟨rfl, rfl⟩ | ⟨g, cap, cur, rfl, _, _, hnc, _⟩ <;> cases a <;>
    simp [Builtin.append_, run_underlying ht, sizeOf, typeInfo, Builtin.lenOf, Builtin.firstCells, storeCells, loadCells, loadCellsFrom, *]
/-- Bytes are appended to a slice of one's own: none, or some. -/
theorem wpList_append_bytes {w : World} {ops : Array Oper} {rest : List Oper} {o : Oper} {a : Act} {Q : Exit → Act → World → Prop} (hgd : o.guard = none) (s x : Operand)
    (ho : o.op = .call { callee := .builtin .append, args := #[s, x], argTypes := #[22, 22] }) (base : Nat) (v : Value) (A bs : List UInt8) (u : Value)
    (hs : a.eval s = v) (hown : w.ownsRow base 5 1 v A.length (A.map B)) (hx : a.eval x = u) (hb : Bytes w u bs) (hlen : A.length + bs.length ≤ 140737488355328) (hbase : base ≤ w.heap.size)
    (h : ∀ v' w', w'.ownsRow base 5 1 v' (A ++ bs).length ((A ++ bs).map B) → w.grownBy w' v.ownBlock → wpList Tryd.prog ops Q rest (a.put o.dst v') w') : wpList Tryd.prog ops Q (o :: rest) a w := by
  obtain ⟨i0, hi, hz0, hz1, hz2⟩ := info_parts infoB
  obtain ⟨ad, cap, rfl, hcap, hc⟩ := hb
  by_cases h0 : bs = []
  · subst h0
    refine wpList_plain hgd fun K hK => ?_
    have hrun := run_append_empty (P := Tryd.prog) (w := w) base 22 o.type 5 i0 1 Tryd.underlying22 hi v _ _ hown ad cap
    unfold Oper.wp
    simp only [List.length_nil] at hx
    simp [execOp, ho, resolve, invoke, builtin, hs, hx, hrun, Result.andThen]
    exact hK _ _ (h v w (by simpa using hown) (grown_refl _ _))
  · have hpos : 0 < bs.length := List.length_pos_iff.2 h0
    obtain ⟨b, off, rfl, _⟩ := hc 0 bs[0] (List.getElem?_eq_getElem hpos)
    have hcell : ∀ (j : Nat) (u : Value), (bs.map B)[j]? = some u → w.cell? ((⟨b, off, none⟩ : Addr).add j) = some u := by
      intro j u hu
      rw [List.getElem?_map] at hu
      obtain ⟨x, hxj, rfl⟩ := Option.map_eq_some_iff.1 hu
      obtain ⟨b', off', he, hc⟩ := hc j x hxj
      simp only [Option.some.injEq, Addr.mk.injEq, and_true] at he
      obtain ⟨rfl, rfl⟩ := he
      rw [Addr.add_mid]; exact hc
    refine wpList_append_lies _ hgd s x 22 ho base 5 i0 (.int .u8 0) 1 1 Tryd.underlying22 hi hz0 hz1 hz2 rfl (by omega) v A.length (A.map B) hs hown ⟨b, off, none⟩ bs.length cap (bs.map B) hx (by simp) hcell (B_one _) hpos (by unfold maxLen; omega) (by omega) hbase w.heap.size rfl ?_
    intro g cap' w1 hown1 hgr _ _
    exact h _ _ (by rw [List.length_append, List.map_append]; exact hown1) hgr
/-- What lies between two steps: the bytes joined so far, the hasher (the block behind what was there), what was there. -/
structure Pst (w wr : World) (all : Value) (A H : List UInt8) : Prop where
  own : wr.ownsRow (w.heap.size + 1) 5 1 all A.length (A.map B)
  has : HasherAt wr w.heap.size H
  below : Below w.heap.size w wr
theorem Pst.up {w wr w2 : World} {all : Value} {A H : List UInt8} (h : Pst w wr all A H) (hb : Below wr.heap.size wr w2) : Pst w w2 all A H :=
  ⟨h.own.kept (grown_of_below hb none) (by cases all.ownBlock <;> simp), h.has.below hb h.has.lt, h.below.trans (hb.mono h.below.size)⟩
theorem Pst.wrote {w w2 w3 : World} {all : Value} {A H H' : List UInt8} (h : Pst w w2 all A H) (hg : w2.grownBy w3 (some w.heap.size)) (hh : HasherAt w3 w.heap.size H') : Pst w w3 all A H' :=
  ⟨h.own.kept hg (.inr (fun e => by have := (h.own.lt _ e).1; omega)), hh, h.below.trans (below_of_grown hg (Nat.le_refl _) h.below.size)⟩
theorem Pst.junk {w w3 wx : World} {all : Value} {A H : List UInt8} (h : Pst w w3 all A H) {r : Option Nat} (hg : w3.grownBy wx r) (hr : ∀ g, r = some g → w.heap.size + 1 ≤ g ∧ ∀ k, all.ownBlock = some k → k ≠ g) : Pst w wx all A H := by
  refine ⟨h.own.kept hg ?_, ?_, h.below.trans ⟨hg.os, hg.tape, hg.output, hg.size, fun k hk => hg.block k (Nat.lt_of_lt_of_le hk h.below.size) (fun e => ?_)⟩⟩
  · cases ho : all.ownBlock with
    | none => exact .inl rfl
    | some k => exact .inr (fun e => (hr k e.symm).2 k ho rfl)
  · obtain ⟨rs, h64, ht, hb⟩ := h.has
    exact ⟨rs, h64, ht, grown_block hg hb (fun e => by have := (hr _ e).1; omega)⟩
  · have := (hr _ e.symm).1; omega
theorem Pst.appended {w wx w' : World} {all all' : Value} {A A' H : List UInt8} (h : Pst w wx all A H) (ho : w'.ownsRow (w.heap.size + 1) 5 1 all' A'.length (A'.map B)) (hg : wx.grownBy w' all.ownBlock) : Pst w w' all' A' H := by
  refine ⟨ho, ?_, h.below.trans ⟨hg.os, hg.tape, hg.output, hg.size, fun k hk => hg.block k (Nat.lt_of_lt_of_le hk h.below.size) (fun e => ?_)⟩⟩
  · obtain ⟨rs, h64, ht, hb⟩ := h.has
    exact ⟨rs, h64, ht, grown_block hg hb (fun e => by have := (h.own.lt _ e).1; omega)⟩
  · have := (h.own.lt _ e.symm).1; omega
theorem Pst.bytes {w wr : World} {all : Value} {A H : List UInt8} (h : Pst w wr all A H) : Bytes wr all A := by
  rcases h.own.2 with ⟨hv, h0⟩ | ⟨g, cap, cur, hv, _⟩
  · rw [hv]
    have : A = [] := List.eq_nil_of_length_eq_zero h0
    subst this
    exact ⟨none, 0, rfl, by simp, fun j x hj => by simp at hj⟩
  · have := h.own
    rw [hv] at this ⊢
    exact (own_of_row this rfl).bytes
theorem Pst.shape {w wr : World} {all : Value} {A H : List UInt8} (h : Pst w wr all A H) : ∃ a c, all = .slice a A.length c := by
  obtain ⟨a, c, h, _⟩ := h.bytes
  exact ⟨a, c, h⟩
theorem HasherAt.grown {w w' : World} {p : Nat} {bs : List UInt8} {r : Option Nat} (h : HasherAt w p bs) (hg : w.grownBy w' r) (hr : r ≠ some p) : HasherAt w' p bs := by
  obtain ⟨rs, h64, ht, hb⟩ := h
  exact ⟨rs, h64, ht, grown_block hg hb hr⟩
end Go.Proofs.YtllkkfeechojoaaDoor.Sh
