/- A copy into the middle of a block, over any program; and the plain facts on what a Hasher holds when more bytes come. Nothing here is assumed. -/
import Derived.Test.YtkmmeokccmppbaaDoorNew
namespace Go.Proofs.YtkmmeokccmppbaaDoor
open Go.RowKit
section
variable {P : Program}
set_option maxRecDepth 100000 in
/-- copy(d, s), d within a block. -/
theorem wpList_copy_block {w : World} {ops : Array Oper} {rest : List Oper} {o : Oper} {a : Act} {Q : Exit → Act → World → Prop} (hgd : o.guard = none) (d s : Operand) (dT sT : TypeId)
    (ho : o.op = .call { callee := .builtin .copy, args := #[d, s], argTypes := #[dT, sT] }) (elem : TypeId) (hu : P.underlying dT = some (.slice elem)) (hsz : (P.info? elem).map (·.size) = some 1)
    (g off dLen dCap : Nat) (ad : Addr) (sLen sCap : Nat) (hd : a.eval d = .slice (some ⟨g, off, none⟩) dLen dCap) (hs : a.eval s = .slice (some ad) sLen sCap)
    (C : Array Value) (t : TypeId) (hg : w.heap[g]? = some (.cells C t (0, 0))) (cs : List Value) (hn : cs.length = Nat.min sLen dLen) (hsrc : ∀ j v, cs[j]? = some v → w.cell? (ad.add j) = some v)
    (hfit : off + cs.length ≤ C.size) (h1 : ∀ v ∈ cs, v.oneCell' = true)
    (h : ∀ w1 : World, w.grownBy w1 (some g) → w1.heap[g]? = some (.cells (C.toList.take off ++ (cs ++ C.toList.drop (off + cs.length))).toArray t (0, 0)) → w1.heap.size = w.heap.size →
      wpList P ops Q rest (a.put o.dst (goInt cs.length)) w1) : wpList P ops Q (o :: rest) a w :=
  wpList_copy_own hgd d s dT sT ho elem hu hsz g off dLen dCap ad sLen sCap hd hs C t hg cs hn hsrc hfit h1
    (h _ ⟨rfl, rfl, rfl, by simp [World.setRow], fun k _ hk => setRow_other w g k _ (fun e => hk (by rw [e]))⟩ (setRow_heap w g C _ t (0, 0) hg) (by simp [World.setRow]))
/-- What lies at a pointer, n cells long; that it is there. -/
def segOf (w : World) (n : Nat) : Value → Array Value
  | .pointer (some ⟨b, o, none⟩) => (blk w b).extract o (o + n)
  | _ => #[]
def Seg (w : World) (n : Nat) : Value → Prop
  | .pointer (some ⟨b, o, none⟩) => ∃ C t fr, w.heap[b]? = some (.cells C t fr) ∧ o + n ≤ C.size
  | _ => False
set_option maxRecDepth 100000 in
theorem segOf_drew (w : World) (n : Nat) (v : Value) : segOf w.drew n v = segOf w n v := rfl
set_option maxRecDepth 100000 in
theorem Seg_drew (w : World) (n : Nat) (v : Value) : Seg w.drew n v = Seg w n v := rfl
set_option maxRecDepth 100000 in
/-- The load of a variable within a block, as a rule for the walk of a region that draws. -/
theorem wp_load_seg {ty : TypeId} {d : TypeDesc} {n : Nat} (hu : P.underlying ty = some d) (hd : d.isRow = true) (hi : (P.info? ty).map (·.size) = some n)
    (dst : Option Tmp) (x : Operand) (t : TypeId) (pos : String) (aft : Array Edge) (grd : Option (Nat × Bool)) (a : Act) (w : World) (K : Act → World → Prop) (Q : Exit → Act → World → Prop) (h : Seg w n (a.eval x)) :
    Oper.wp P ⟨dst, .load ty x, t, pos, aft, grd⟩ a w K Q = K (a.put dst (.agg (segOf w n (a.eval x)))) w := by
  match hx : a.eval x with
  | .pointer (some ⟨b, o, none⟩) =>
    rw [hx] at h
    obtain ⟨C, tt, fr, hb, hle⟩ := h
    have hl : ((C.extract o (o + n)).toList).length = n := by simp; omega
    have hr := run_loadVar_mid (P := P) w b o ty (C.extract o (o + n)).toList d (World.rangeAt_of_block hb o n) hu hd (by rw [hl]; exact hi)
    unfold Oper.wp execOp
    simp only [hx, Instr.loadAt, Instr.sureAddr, Sem.run_bind, Sem.run_pure, Result.andThen_ok, hr, Oper.upon, segOf, blk_of hb]
  | .pointer (some ⟨b, o, some _⟩) => rw [hx] at h; exact h.elim
  | .pointer none | .bool _ | .int _ _ | .float _ _ | .complex _ _ _ | .string _ | .slice _ _ _ | .map _ | .chan _ | .func _ _ _ | .nilFunc | .iface _ _ | .nilIface | .agg _ | .tuple _ => rw [hx] at h; exact h.elim
end
/-- The length of a slice value: a loop's measure. -/
def lenOf : Value → Nat
  | .slice _ n _ => n
  | _ => 0
set_option maxRecDepth 100000 in
theorem hc_splice (s : St) (rs ch : List UInt8) (n r : Nat) (h64 : rs.length = 64) (hr : r + ch.length ≤ 64) :
    (hc s rs n).take (8 + r) ++ (ch.map B ++ (hc s rs n).drop (8 + r + ch.length)) = hc s (rs.take r ++ ch ++ rs.drop (r + ch.length)) n := by
  have h8 : (s.list.map W).length = 8 := by simp [St.list]
  unfold hc
  have e1 : (s.list.map W ++ (rs.map B ++ [Value.int .i64 n])).take (8 + r) = s.list.map W ++ (rs.take r).map B := by
    rw [List.take_append, List.take_of_length_le (by omega), h8, show 8 + r - 8 = r by omega, List.take_append_of_le_length (by simp; omega), List.map_take]
  have e2 : (s.list.map W ++ (rs.map B ++ [Value.int .i64 n])).drop (8 + r + ch.length) = (rs.drop (r + ch.length)).map B ++ [Value.int .i64 n] := by
    rw [List.drop_append, List.drop_eq_nil_of_le (by omega), h8, show 8 + r + ch.length - 8 = r + ch.length by omega, List.nil_append, List.drop_append_of_le_length (by simp; omega), List.map_drop]
  rw [e1, e2]; simp
set_option maxRecDepth 100000 in
theorem hc_size (s : St) (rs : List UInt8) (n m : Nat) (h64 : rs.length = 64) : (hc s rs n).toArray.setIfInBounds 72 (.int .i64 (m : Int)) = (hc s rs m).toArray := by
  unfold hc
  rw [List.setIfInBounds_toArray, List.set_append_right _ _ (by simp [St.list]), List.set_append_right _ _ (by simp [St.list, h64])]
  simp [St.list, h64]
set_option maxRecDepth 100000 in
theorem hc_run (s t : St) (rs : List UInt8) (n : Nat) : ((((((((hc s rs n).toArray.setIfInBounds 0 (W t.a)).setIfInBounds 1 (W t.b)).setIfInBounds 2 (W t.c)).setIfInBounds 3 (W t.d)).setIfInBounds 4 (W t.e)).setIfInBounds 5 (W t.f)).setIfInBounds 6 (W t.g)).setIfInBounds 7 (W t.h) = (hc t rs n).toArray := by
  simp [hc, St.list]
set_option maxRecDepth 100000 in
theorem hc_rest (s : St) (rs : List UInt8) (n i : Nat) (hi : i < rs.length) : (hc s rs n).toArray[8 + i]? = some (B (rs.getD i 0)) := by
  rw [List.getElem?_toArray]
  unfold hc
  rw [List.getElem?_append_right (by simp [St.list]), List.getElem?_append_left (by simp [St.list]; omega)]
  simp [St.list, List.getD_eq_getElem?_getD, List.getElem?_eq_getElem hi]
set_option maxRecDepth 100000 in
/-- More bytes, no block full. -/
theorem step_few {bs ch rs : List UInt8} (h64 : rs.length = 64) (ht : rs.take (bs.length % 64) = bs.drop (64 * (bs.length / 64))) (hm : bs.length % 64 + ch.length < 64) :
    (bs ++ ch).length / 64 = bs.length / 64 ∧ blocksS (bs ++ ch) (bs.length / 64) = blocksS bs (bs.length / 64) ∧
      (rs.take (bs.length % 64) ++ ch ++ rs.drop (bs.length % 64 + ch.length)).take ((bs ++ ch).length % 64) = (bs ++ ch).drop (64 * (bs.length / 64)) := by
  have hl : (bs ++ ch).length = bs.length + ch.length := List.length_append
  refine ⟨by omega, blocksS_append _ _ _ (by omega), ?_⟩
  have hmod : (bs ++ ch).length % 64 = bs.length % 64 + ch.length := by omega
  have hle : (rs.take (bs.length % 64)).length = bs.length % 64 := by simp [h64]; omega
  rw [hmod, List.take_append_of_le_length (by simp; omega), List.take_of_length_le (by simp; omega), ht, List.drop_append_of_le_length (by omega)]
set_option maxRecDepth 100000 in
/-- A block is full. -/
theorem step_full {bs ch rs : List UInt8} (h64 : rs.length = 64) (ht : rs.take (bs.length % 64) = bs.drop (64 * (bs.length / 64))) (hm : bs.length % 64 + ch.length = 64) :
    (bs ++ ch).length % 64 = 0 ∧ (bs ++ ch).length / 64 = bs.length / 64 + 1 ∧ blocksS (bs ++ ch) (bs.length / 64 + 1) = mixS (blocksS bs (bs.length / 64)) (rs.take (bs.length % 64) ++ ch ++ rs.drop (bs.length % 64 + ch.length)) := by
  have hl : (bs ++ ch).length = bs.length + ch.length := List.length_append
  refine ⟨by omega, by omega, ?_⟩
  rw [blocksS, blocksS_append _ _ _ (by omega)]
  congr 1
  have hd : rs.drop (bs.length % 64 + ch.length) = [] := List.drop_eq_nil_of_le (by omega)
  rw [ht, hd, List.append_nil, List.drop_append_of_le_length (by omega), List.take_of_length_le (by simp; omega)]
set_option maxRecDepth 100000 in
theorem length_splice' {rs ch : List UInt8} {r : Nat} (h64 : rs.length = 64) (hm : r + ch.length ≤ 64) : (rs.take r ++ ch ++ rs.drop (r + ch.length)).length = 64 := by
  simp [h64]; omega
end Go.Proofs.YtkmmeokccmppbaaDoor
