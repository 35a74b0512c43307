/- The walk of ShaPieces: for every list of pieces and every more bytes, together no more than the bound, the call returns true and leaves what was there. -/
import Derived.Test.YtkmmeokccmppbaaDoorCopy
import Derived.Test.YtkmmeokccmppbaaDoorWNew
import Derived.Deep.AppendLies
namespace Go.Proofs.YtkmmeokccmppbaaDoor
open Go.ChangeShapes Go.WideShapes Go.ChangeAt Go.RowKit
set_option maxRecDepth 100000 in
theorem run_append_empty {P : Program} {w : World} (base : Nat) (t ty e : TypeId) (i : TypeInfo) (size : Nat) (ht : P.underlying t = some (.slice e)) (hi : P.info? e = some i)
    (v : Value) (n : Nat) (xs : List Value) (hown : w.ownsRow base e size v n xs) (a : Option Addr) (c : Nat) :
    (Builtin.append_ #[t, t] ty #[v, .slice a 0 c]).run P w = .ok v w := by
  rcases hown.2 with ⟨rfl, rfl⟩ | ⟨g, cap, cur, rfl, _, _, hnc, _⟩ <;> cases a <;>
    simp [Builtin.append_, run_underlying ht, sizeOf, typeInfo, Builtin.lenOf, Builtin.firstCells, storeCells, loadCells, loadCellsFrom, *]
set_option maxRecDepth 100000 in
/-- Bytes are appended to a slice of one's own: none, or some. -/
theorem wpList_append_bytes {w : World} {ops : Array Oper} {rest : List Oper} {o : Oper} {a : Act} {Q : Exit → Act → World → Prop} (hgd : o.guard = none) (s x : Operand)
    (ho : o.op = .call { callee := .builtin .append, args := #[s, x], argTypes := #[27, 27] }) (base : Nat) (v : Value) (A bs : List UInt8) (u : Value)
    (hs : a.eval s = v) (hown : w.ownsRow base 5 1 v A.length (A.map B)) (hx : a.eval x = u) (hb : Bytes w u bs) (hlen : A.length + bs.length ≤ 140737488355328) (hbase : base ≤ w.heap.size)
    (h : ∀ v' w', w'.ownsRow base 5 1 v' (A ++ bs).length ((A ++ bs).map B) → w.grownBy w' v.ownBlock → wpList Tryd.prog ops Q rest (a.put o.dst v') w') : wpList Tryd.prog ops Q (o :: rest) a w := by
  obtain ⟨i0, hi, hz0, hz1, hz2⟩ := info_parts infoB
  obtain ⟨ad, cap, rfl, hcap, hc⟩ := hb
  by_cases h0 : bs = []
  · subst h0
    refine wpList_plain hgd fun K hK => ?_
    have hrun := run_append_empty (P := Tryd.prog) (w := w) base 27 o.type 5 i0 1 Tryd.underlying27 hi v _ _ hown ad cap
    unfold Oper.wp
    simp only [List.length_nil] at hx
    simp [execOp, ho, resolve, invoke, builtin, hs, hx, hrun, Result.andThen]
    exact hK _ _ (h v w (by simpa using hown) (grown_refl _ _))
  · have hpos : 0 < bs.length := List.length_pos_iff.2 h0
    obtain ⟨b, off, rfl, _⟩ := hc 0 bs[0] (List.getElem?_eq_getElem hpos)
    have hcell : ∀ (j : Nat) (u : Value), (bs.map B)[j]? = some u → w.cell? ((⟨b, off, none⟩ : Addr).add j) = some u := by
      intro j u hu
      rw [List.getElem?_map] at hu
      obtain ⟨x, hxj, rfl⟩ := Option.map_eq_some_iff.1 hu
      obtain ⟨b', off', he, hc⟩ := hc j x hxj
      simp only [Option.some.injEq, Addr.mk.injEq, and_true] at he
      obtain ⟨rfl, rfl⟩ := he
      rw [Addr.add_mid]; exact hc
    refine wpList_append_lies _ hgd s x 27 ho base 5 i0 (.int .u8 0) 1 1 Tryd.underlying27 hi hz0 hz1 hz2 rfl (by omega) v A.length (A.map B) hs hown ⟨b, off, none⟩ bs.length cap (bs.map B) hx (by simp) hcell (B_one _) hpos (by unfold maxLen; omega) (by omega) hbase w.heap.size rfl ?_
    intro g cap' w1 hown1 hgr _ _
    exact h _ _ (by rw [List.length_append, List.map_append]; exact hown1) hgr
/-- What lies between two steps: the bytes joined so far, the hasher (the block behind what was there), what was there. -/
structure Pst (w wr : World) (all : Value) (A H : List UInt8) : Prop where
  own : wr.ownsRow (w.heap.size + 1) 5 1 all A.length (A.map B)
  has : HasherAt wr w.heap.size H
  below : Below w.heap.size w wr
set_option maxRecDepth 100000 in
theorem Pst.up {w wr w2 : World} {all : Value} {A H : List UInt8} (h : Pst w wr all A H) (hb : Below wr.heap.size wr w2) : Pst w w2 all A H :=
  ⟨h.own.kept (grown_of_below hb none) (by cases all.ownBlock <;> simp), h.has.below hb h.has.lt, h.below.trans (hb.mono h.below.size)⟩
set_option maxRecDepth 100000 in
theorem Pst.wrote {w w2 w3 : World} {all : Value} {A H H' : List UInt8} (h : Pst w w2 all A H) (hg : w2.grownBy w3 (some w.heap.size)) (hh : HasherAt w3 w.heap.size H') : Pst w w3 all A H' :=
  ⟨h.own.kept hg (.inr (fun e => by have := (h.own.lt _ e).1; omega)), hh, h.below.trans (below_of_grown hg (Nat.le_refl _) h.below.size)⟩
set_option maxRecDepth 100000 in
theorem Pst.junk {w w3 wx : World} {all : Value} {A H : List UInt8} (h : Pst w w3 all A H) {r : Option Nat} (hg : w3.grownBy wx r) (hr : ∀ g, r = some g → w.heap.size + 1 ≤ g ∧ ∀ k, all.ownBlock = some k → k ≠ g) : Pst w wx all A H := by
  refine ⟨h.own.kept hg ?_, ?_, h.below.trans ⟨hg.os, hg.tape, hg.output, hg.size, fun k hk => hg.block k (Nat.lt_of_lt_of_le hk h.below.size) (fun e => ?_)⟩⟩
  · cases ho : all.ownBlock with
    | none => exact .inl rfl
    | some k => exact .inr (fun e => (hr k e.symm).2 k ho rfl)
  · obtain ⟨rs, h64, ht, hb⟩ := h.has
    exact ⟨rs, h64, ht, grown_block hg hb (fun e => by have := (hr _ e).1; omega)⟩
  · have := (hr _ e.symm).1; omega
set_option maxRecDepth 100000 in
theorem Pst.appended {w wx w' : World} {all all' : Value} {A A' H : List UInt8} (h : Pst w wx all A H) (ho : w'.ownsRow (w.heap.size + 1) 5 1 all' A'.length (A'.map B)) (hg : wx.grownBy w' all.ownBlock) : Pst w w' all' A' H := by
  refine ⟨ho, ?_, h.below.trans ⟨hg.os, hg.tape, hg.output, hg.size, fun k hk => hg.block k (Nat.lt_of_lt_of_le hk h.below.size) (fun e => ?_)⟩⟩
  · obtain ⟨rs, h64, ht, hb⟩ := h.has
    exact ⟨rs, h64, ht, grown_block hg hb (fun e => by have := (h.own.lt _ e).1; omega)⟩
  · have := (h.own.lt _ e.symm).1; omega
set_option maxRecDepth 100000 in
theorem Pst.bytes {w wr : World} {all : Value} {A H : List UInt8} (h : Pst w wr all A H) : Bytes wr all A := by
  rcases h.own.2 with ⟨hv, h0⟩ | ⟨g, cap, cur, hv, _⟩
  · rw [hv]
    have : A = [] := List.eq_nil_of_length_eq_zero h0
    subst this
    exact ⟨none, 0, rfl, by simp, fun j x hj => by simp at hj⟩
  · have := h.own
    rw [hv] at this ⊢
    exact (own_of_row this rfl).bytes
set_option maxRecDepth 100000 in
theorem Pst.shape {w wr : World} {all : Value} {A H : List UInt8} (h : Pst w wr all A H) : ∃ a c, all = .slice a A.length c := by
  obtain ⟨a, c, h, _⟩ := h.bytes
  exact ⟨a, c, h⟩
/-- The slice of one's own, written over. -/
def Junk (w3 wx : World) (v : Value) (n : Nat) : Prop := w3.grownBy wx v.ownBlock ∧ ∀ g, v.ownBlock = some g → ∃ C, wx.heap[g]? = some (.cells C 5 (0, 0)) ∧ n ≤ C.size
/-- A list of byte slices. -/
def RowsB (w : World) (v : Value) (bss : List (List UInt8)) : Prop :=
  ∃ (a : Option Addr) (cap : Nat), v = .slice a bss.length cap ∧ ∀ j bs, bss[j]? = some bs → ∃ b off u, a = some ⟨b, off, none⟩ ∧ w.cell? ⟨b, off + j, none⟩ = some u ∧ Bytes w u bs
set_option maxRecDepth 100000 in
theorem HasherAt.grown {w w' : World} {p : Nat} {bs : List UInt8} {r : Option Nat} (h : HasherAt w p bs) (hg : w.grownBy w' r) (hr : r ≠ some p) : HasherAt w' p bs := by
  obtain ⟨rs, h64, ht, hb⟩ := h
  exact ⟨rs, h64, ht, grown_block hg hb hr⟩
set_option maxRecDepth 100000 in
theorem flat_next (bss : List (List UInt8)) (k : Nat) (bs : List UInt8) (h : bss[k]? = some bs) : (bss.take (k + 1)).flatten = (bss.take k).flatten ++ bs := by
  obtain ⟨hk, rfl⟩ := List.getElem?_eq_some_iff.1 h
  rw [List.take_succ_eq_append_getElem hk, List.flatten_append]; simp
set_option maxRecDepth 100000 in
theorem flat_le (bss : List (List UInt8)) (k : Nat) : (bss.take k).flatten.length ≤ bss.flatten.length := by
  conv => rhs; rw [← List.take_append_drop k bss, List.flatten_append, List.length_append]
  omega
set_option maxRecDepth 100000 in
theorem own_off {w : World} {v : Value} {bs : List UInt8} {K p : Nat} (h : OwnBytes w v bs K) (hp : p < K) : BytesOff w v bs p := by
  rcases h with ⟨rfl, rfl⟩ | ⟨g, cap, rest, rfl, hc, hK, hb⟩
  · exact ⟨none, 0, rfl, by simp, fun j x hj => by simp at hj⟩
  · refine ⟨_, cap, rfl, hc, fun j x hj => ⟨g, 0, rfl, by omega, lt_of_heap hb, ?_⟩⟩
    have hlt := (List.getElem?_eq_some_iff.1 hj).1
    rw [Nat.zero_add, cell_of_block hb, List.getElem?_toArray, List.getElem?_append_left (by simpa using hlt), List.getElem?_map, hj]; rfl
set_option maxRecDepth 100000 in
theorem own_form {w : World} {v : Value} {bs : List UInt8} {K : Nat} (h : OwnBytes w v bs K) : ∃ a c, v = .slice a bs.length c := by
  rcases h with ⟨rfl, rfl⟩ | ⟨g, cap, rest, rfl, _⟩
  · exact ⟨none, 0, rfl⟩
  · exact ⟨_, _, rfl⟩
set_option maxRecDepth 100000 in
theorem own_block {w : World} {v : Value} {bs : List UInt8} {K : Nat} (h : OwnBytes w v bs K) : ∀ g, v.ownBlock = some g → K ≤ g ∧ ∃ C, w.heap[g]? = some (.cells C 5 (0, 0)) ∧ bs.length ≤ C.size := by
  intro g hg
  rcases h with ⟨rfl, rfl⟩ | ⟨g', cap, rest, rfl, _, hK, hb⟩
  · cases hg
  · cases hg
    exact ⟨hK, _, hb, by simp⟩
set_option maxRecDepth 100000 in
theorem own_some {w : World} {a : Option Addr} {bs : List UInt8} {n c K : Nat} (h : OwnBytes w (.slice a n c) bs K) (hn : 0 < bs.length) : ∃ g, a = some ⟨g, 0, none⟩ := by
  rcases h with ⟨rfl, _⟩ | ⟨g, cap, rest, hv, _⟩
  · cases hn
  · simp only [Value.slice.injEq] at hv
    exact ⟨g, hv.1⟩
end Go.Proofs.YtkmmeokccmppbaaDoor
