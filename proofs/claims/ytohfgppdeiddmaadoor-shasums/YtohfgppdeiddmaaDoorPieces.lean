/- The walk of ShaPieces: for every list of pieces and every more bytes, together no more than the bound, the call returns true and leaves what was there. -/
import Derived.Test.YtohfgppdeiddmaaDoorArg
import Derived.Test.YtohfgppdeiddmaaDoorCopy
import Derived.Test.YtohfgppdeiddmaaDoorLive
import Derived.Deep.AppendLies
namespace Go.Proofs.YtohfgppdeiddmaaDoor
open Go.ChangeShapes Go.WideShapes Go.ChangeAt Go.RowKit
theorem run_append_empty {P : Program} {w : World} (base : Nat) (t ty e : TypeId) (i : TypeInfo) (size : Nat) (ht : P.underlying t = some (.slice e)) (hi : P.info? e = some i)
    (v : Value) (n : Nat) (xs : List Value) (hown : w.ownsRow base e size v n xs) (a : Option Addr) (c : Nat) :
    (Builtin.append_ #[t, t] ty #[v, .slice a 0 c]).run P w = .ok v w := by
  rcases hown.2 with ⟨rfl, rfl⟩ | ⟨g, cap, cur, rfl, _, _, hnc, _⟩ <;> cases a <;>
    simp [Builtin.append_, run_underlying ht, sizeOf, typeInfo, Builtin.lenOf, Builtin.firstCells, storeCells, loadCells, loadCellsFrom, *]
/-- Bytes are appended to a slice of one's own: none, or some. -/
theorem wpList_append_bytes {w : World} {ops : Array Oper} {rest : List Oper} {o : Oper} {a : Act} {Q : Exit → Act → World → Prop} (hgd : o.guard = none) (s x : Operand)
    (ho : o.op = .call { callee := .builtin .append, args := #[s, x], argTypes := #[22, 22] }) (base : Nat) (v : Value) (A bs : List UInt8) (u : Value)
    (hs : a.eval s = v) (hown : w.ownsRow base 5 1 v A.length (A.map B)) (hx : a.eval x = u) (hb : Bytes w u bs) (hlen : A.length + bs.length ≤ 140737488355328) (hbase : base ≤ w.heap.size)
    (h : ∀ v' w', w'.ownsRow base 5 1 v' (A ++ bs).length ((A ++ bs).map B) → w.grownBy w' v.ownBlock → wpList Tryd.prog ops Q rest (a.put o.dst v') w') : wpList Tryd.prog ops Q (o :: rest) a w := by
  obtain ⟨i0, hi, hz0, hz1, hz2⟩ := info_parts infoB
  obtain ⟨ad, cap, rfl, hcap, hc⟩ := hb
  by_cases h0 : bs = []
  · subst h0
    refine wpList_plain hgd fun K hK => ?_
    have hrun := run_append_empty (P := Tryd.prog) (w := w) base 22 o.type 5 i0 1 Tryd.underlying22 hi v _ _ hown ad cap
    unfold Oper.wp
    simp only [List.length_nil] at hx
    simp [execOp, ho, resolve, invoke, builtin, hs, hx, hrun, Result.andThen]
    exact hK _ _ (h v w (by simpa using hown) (grown_refl _ _))
  · have hpos : 0 < bs.length := List.length_pos_iff.2 h0
    obtain ⟨b, off, rfl, _⟩ := hc 0 bs[0] (List.getElem?_eq_getElem hpos)
    have hcell : ∀ (j : Nat) (u : Value), (bs.map B)[j]? = some u → w.cell? ((⟨b, off, none⟩ : Addr).add j) = some u := by
      intro j u hu
      rw [List.getElem?_map] at hu
      obtain ⟨x, hxj, rfl⟩ := Option.map_eq_some_iff.1 hu
      obtain ⟨b', off', he, hc⟩ := hc j x hxj
      simp only [Option.some.injEq, Addr.mk.injEq, and_true] at he
      obtain ⟨rfl, rfl⟩ := he
      rw [Addr.add_mid]; exact hc
    refine wpList_append_lies _ hgd s x 22 ho base 5 i0 (.int .u8 0) 1 1 Tryd.underlying22 hi hz0 hz1 hz2 rfl (by omega) v A.length (A.map B) hs hown ⟨b, off, none⟩ bs.length cap (bs.map B) hx (by simp) hcell (B_one _) hpos (by unfold maxLen; omega) (by omega) hbase w.heap.size rfl ?_
    intro g cap' w1 hown1 hgr _ _
    exact h _ _ (by rw [List.length_append, List.map_append]; exact hown1) hgr
/-- What lies between two steps: the bytes joined so far, the hasher (the block behind what was there), what was there. -/
structure Pst (w wr : World) (all : Value) (A H : List UInt8) : Prop where
  own : wr.ownsRow (w.heap.size + 1) 5 1 all A.length (A.map B)
  has : HasherAt wr w.heap.size H
  below : Below w.heap.size w wr
theorem Pst.up {w wr w2 : World} {all : Value} {A H : List UInt8} (h : Pst w wr all A H) (hb : Below wr.heap.size wr w2) : Pst w w2 all A H :=
  ⟨h.own.kept (grown_of_below hb none) (by cases all.ownBlock <;> simp), h.has.below hb h.has.lt, h.below.trans (hb.mono h.below.size)⟩
theorem Pst.wrote {w w2 w3 : World} {all : Value} {A H H' : List UInt8} (h : Pst w w2 all A H) (hg : w2.grownBy w3 (some w.heap.size)) (hh : HasherAt w3 w.heap.size H') : Pst w w3 all A H' :=
  ⟨h.own.kept hg (.inr (fun e => by have := (h.own.lt _ e).1; omega)), hh, h.below.trans (below_of_grown hg (Nat.le_refl _) h.below.size)⟩
theorem Pst.junk {w w3 wx : World} {all : Value} {A H : List UInt8} (h : Pst w w3 all A H) {r : Option Nat} (hg : w3.grownBy wx r) (hr : ∀ g, r = some g → w.heap.size + 1 ≤ g ∧ ∀ k, all.ownBlock = some k → k ≠ g) : Pst w wx all A H := by
  refine ⟨h.own.kept hg ?_, ?_, h.below.trans ⟨hg.os, hg.tape, hg.output, hg.size, fun k hk => hg.block k (Nat.lt_of_lt_of_le hk h.below.size) (fun e => ?_)⟩⟩
  · cases ho : all.ownBlock with
    | none => exact .inl rfl
    | some k => exact .inr (fun e => (hr k e.symm).2 k ho rfl)
  · obtain ⟨rs, h64, ht, hb⟩ := h.has
    exact ⟨rs, h64, ht, grown_block hg hb (fun e => by have := (hr _ e).1; omega)⟩
  · have := (hr _ e.symm).1; omega
theorem Pst.appended {w wx w' : World} {all all' : Value} {A A' H : List UInt8} (h : Pst w wx all A H) (ho : w'.ownsRow (w.heap.size + 1) 5 1 all' A'.length (A'.map B)) (hg : wx.grownBy w' all.ownBlock) : Pst w w' all' A' H := by
  refine ⟨ho, ?_, h.below.trans ⟨hg.os, hg.tape, hg.output, hg.size, fun k hk => hg.block k (Nat.lt_of_lt_of_le hk h.below.size) (fun e => ?_)⟩⟩
  · obtain ⟨rs, h64, ht, hb⟩ := h.has
    exact ⟨rs, h64, ht, grown_block hg hb (fun e => by have := (h.own.lt _ e).1; omega)⟩
  · have := (h.own.lt _ e.symm).1; omega
theorem Pst.bytes {w wr : World} {all : Value} {A H : List UInt8} (h : Pst w wr all A H) : Bytes wr all A := by
  rcases h.own.2 with ⟨hv, h0⟩ | ⟨g, cap, cur, hv, _⟩
  · rw [hv]
    have : A = [] := List.eq_nil_of_length_eq_zero h0
    subst this
    exact ⟨none, 0, rfl, by simp, fun j x hj => by simp at hj⟩
  · have := h.own
    rw [hv] at this ⊢
    exact (own_of_row this rfl).bytes
theorem Pst.shape {w wr : World} {all : Value} {A H : List UInt8} (h : Pst w wr all A H) : ∃ a c, all = .slice a A.length c := by
  obtain ⟨a, c, h, _⟩ := h.bytes
  exact ⟨a, c, h⟩
/-- The slice of one's own, written over. -/
def Junk (w3 wx : World) (v : Value) (n : Nat) : Prop := w3.grownBy wx v.ownBlock ∧ ∀ g, v.ownBlock = some g → ∃ C, wx.heap[g]? = some (.cells C 5 (0, 0)) ∧ n ≤ C.size
/-- A list of byte slices. -/
def RowsB (w : World) (v : Value) (bss : List (List UInt8)) : Prop :=
  ∃ (a : Option Addr) (cap : Nat), v = .slice a bss.length cap ∧ ∀ j bs, bss[j]? = some bs → ∃ b off u, a = some ⟨b, off, none⟩ ∧ w.cell? ⟨b, off + j, none⟩ = some u ∧ Bytes w u bs
theorem HasherAt.grown {w w' : World} {p : Nat} {bs : List UInt8} {r : Option Nat} (h : HasherAt w p bs) (hg : w.grownBy w' r) (hr : r ≠ some p) : HasherAt w' p bs := by
  obtain ⟨rs, h64, ht, hb⟩ := h
  exact ⟨rs, h64, ht, grown_block hg hb hr⟩
theorem flat_next (bss : List (List UInt8)) (k : Nat) (bs : List UInt8) (h : bss[k]? = some bs) : (bss.take (k + 1)).flatten = (bss.take k).flatten ++ bs := by
  obtain ⟨hk, rfl⟩ := List.getElem?_eq_some_iff.1 h
  rw [List.take_succ_eq_append_getElem hk, List.flatten_append]; simp
theorem flat_le (bss : List (List UInt8)) (k : Nat) : (bss.take k).flatten.length ≤ bss.flatten.length := by
  conv => rhs; rw [← List.take_append_drop k bss, List.flatten_append, List.length_append]
  omega
theorem own_off {w : World} {v : Value} {bs : List UInt8} {K p : Nat} (h : OwnBytes w v bs K) (hp : p < K) : BytesOff w v bs p := by
  rcases h with ⟨rfl, rfl⟩ | ⟨g, cap, rest, rfl, hc, hK, hb⟩
  · exact ⟨none, 0, rfl, by simp, fun j x hj => by simp at hj⟩
  · refine ⟨_, cap, rfl, hc, fun j x hj => ⟨g, 0, rfl, by omega, lt_of_heap hb, ?_⟩⟩
    have hlt := (List.getElem?_eq_some_iff.1 hj).1
    rw [Nat.zero_add, cell_of_block hb, List.getElem?_toArray, List.getElem?_append_left (by simpa using hlt), List.getElem?_map, hj]; rfl
theorem own_form {w : World} {v : Value} {bs : List UInt8} {K : Nat} (h : OwnBytes w v bs K) : ∃ a c, v = .slice a bs.length c := by
  rcases h with ⟨rfl, rfl⟩ | ⟨g, cap, rest, rfl, _⟩
  · exact ⟨none, 0, rfl⟩
  · exact ⟨_, _, rfl⟩
theorem own_block {w : World} {v : Value} {bs : List UInt8} {K : Nat} (h : OwnBytes w v bs K) : ∀ g, v.ownBlock = some g → K ≤ g ∧ ∃ C, w.heap[g]? = some (.cells C 5 (0, 0)) ∧ bs.length ≤ C.size := by
  intro g hg
  rcases h with ⟨rfl, rfl⟩ | ⟨g', cap, rest, rfl, _, hK, hb⟩
  · cases hg
  · cases hg
    exact ⟨hK, _, hb, by simp⟩
theorem own_some {w : World} {a : Option Addr} {bs : List UInt8} {n c K : Nat} (h : OwnBytes w (.slice a n c) bs K) (hn : 0 < bs.length) : ∃ g, a = some ⟨g, 0, none⟩ := by
  rcases h with ⟨rfl, _⟩ | ⟨g, cap, rest, hv, _⟩
  · cases hn
  · simp only [Value.slice.injEq] at hv
    exact ⟨g, hv.1⟩
set_option maxRecDepth 100000 in
set_option maxHeartbeats 4000000 in
theorem pieces_walk (bss : List (List UInt8)) (v0 : Value) (more : List UInt8) (v1 : Value) (w : World) (hK : Kat w) (hS : Sat w) (hC : Cat w) (h0 : RowsB w v0 bss) (h1 : Bytes w v1 more) (hlen : bss.flatten.length + more.length ≤ 1048576) (hn : bss.length ≤ 1048576) :
    Calls Tryd.prog 4 #[v0, v1] w fun e w' => e = .returned (.bool true) ∧ Below w.heap.size w w' := by
  have hsz2 := hK.lt
  obtain ⟨ad, cap, rfl, hrow⟩ := h0
  have HR := hid hrow
  have HM := hid h1
  obtain ⟨am, cm, rfl, -⟩ := h1
  have HK := hid hK
  have HS := hid hS
  have HC := hid hC
  have HLEN := hid hlen
  clear hrow hK hS hC hlen
  go_enter Tryd.func4, Tryd.ntmps4
  go_wp2_with fail
  refine (new_any w HS.out).mono ?_
  rintro e w1 ⟨rfl, hH1, hB1, hz1⟩
  have P1 : Pst w w1 (.slice none 0 0) [] [] := ⟨World.ownsRow_nil _ _ _ _, hH1, hB1⟩
  have HP1 := hid P1
  clear P1 hH1 hB1 hz1
  go_wp2_with fail
  go_loopw [6, 7] (fun all i wr => ∃ k : Nat, k ≤ bss.length ∧ k ≤ 40 ∧ i = .int .i64 k ∧ Hid (Pst w wr all (bss.take k).flatten (bss.take k).flatten))
    (fun _ i _ => 40 - (intOf i).toNat)
  case atStart => exact ⟨0, by omega, by omega, rfl, hid (by simpa using HP1.out)⟩
  case round =>
    obtain ⟨k, hk, hk40, rfl, hP⟩ := hrel
    clear HP1
    by_cases hlt : k < bss.length ∧ k < 40
    · obtain ⟨hlt1, hlt2⟩ := hlt
      obtain ⟨b, off, u, rfl, hcu, hbu⟩ := HR.out k bss[k] (List.getElem?_eq_getElem hlt1)
      have hA := hid (flat_next bss k _ (List.getElem?_eq_getElem hlt1))
      have hle := flat_le bss (k + 1)
      rw [hA.out, List.length_append] at hle
      have HLE := hid hle
      clear hle
      generalize bss[k] = bs at *
      generalize (bss.take k).flatten = A at *
      have hbw := lt_of_cell hcu
      have HCU : Hid (w.cell? ⟨b, off + k, none⟩ = some u) := hcu
      have HBU := hid hbu
      have hcr : wr.cell? ⟨b, off + k, none⟩ = some u := (World.cell?_of_block (w := w) (hP.out.below.block b hbw)).trans hcu
      clear hcu hbu
      have hi0 : (0 : Int) ≤ (k : Int) := by omega
      have hi1 : (k : Int) < (bss.length : Int) := by omega
      have hi40 : (k : Int) < 40 := by omega
      have hAB : A.length + bs.length ≤ 1048576 := Nat.le_trans HLE.out (by have := HLEN.out; omega)
      go_wp2_with fail
      refine (copy_any bs u wr (HBU.out.up hP.out.below) (by omega)).mono ?_
      rintro e w2 ⟨v', rfl, hO2, hB2⟩
      have P2 := hid (hP.out.up hB2)
      have hzr := hP.out.has.lt
      have HO2 := hid hO2
      obtain ⟨a', c', rfl⟩ := own_form hO2
      clear hO2 hB2 hcr
      go_wp2_with fail
      refine (write_any w.heap.size A bs _ w2 (HK.out.below P2.out.below hsz2) hsz2 P2.out.has (own_off HO2.out hzr) (by omega)).mono ?_
      rintro e w3 ⟨rfl, hG3, hH3⟩
      have P3 := hid (P2.out.wrote hG3 hH3)
      have J3 : Hid (Junk w3 w3 (.slice a' bs.length c') bs.length) := ⟨grown_refl _ _, fun g hg => by
        obtain ⟨hKg, C, hb, hl⟩ := own_block HO2.out g hg
        exact ⟨C, grown_block hG3 hb (fun e => by have := Option.some.inj e; omega), hl⟩⟩
      have HJ3 := hid J3
      clear hG3 hH3 J3
      go_wp2_with fail
      go_loopw [9] (fun i wx => ∃ j : Nat, j ≤ bs.length ∧ i = .int .i64 j ∧ Hid (Junk w3 wx (.slice a' bs.length c') bs.length))
        (fun i _ => bs.length - (intOf i).toNat)
      case atStart => exact ⟨0, by omega, rfl, HJ3.out⟩
      case round =>
        obtain ⟨j, hj, rfl, hJ⟩ := hrel
        clear HJ3
        by_cases hjl : j < bs.length
        · obtain ⟨g, rfl⟩ := own_some HO2.out (by omega)
          obtain ⟨C, hCb, hCs⟩ := hJ.out.2 g rfl
          have c1 : wr.cell? ⟨g, j, none⟩ = some C[j] := by rw [cell_of_block hCb]; exact Array.getElem?_eq_getElem (by omega)
          have f1 := frozen_of_block hCb j
          have HCb := hid hCb
          clear hCb
          have hj0 : (0 : Int) ≤ (j : Int) := by omega
          have hj1 : (j : Int) < (bs.length : Int) := by omega
          go_wp2
          go_roundw
          case rel => exact ⟨j + 1, by omega, by go_num, grown_setCell hJ.out.1 _ _, fun g' hg' => by
            cases hg'
            exact ⟨_, block_setCell HCb.out _ _, by simpa using hCs⟩⟩
          case measure => simp [intOf]; omega
        · have hjn : ¬ ((j : Int) < (bs.length : Int)) := by omega
          have P4 := hid (P3.out.junk hJ.out.1 (fun g hg => by
            have hg1 := (own_block HO2.out g hg).1
            refine ⟨by omega, fun k hk => ?_⟩
            have := (hP.out.own.lt k hk).2
            omega))
          clear hJ P3 P2 HO2
          have hcr : wr.cell? ⟨b, off + k, none⟩ = some u := (World.cell?_of_block (w := w) (P4.out.below.block b hbw)).trans HCU.out
          go_wp2_with (refine wpList_append_bytes rfl (.tmp 39) (.tmp 43) rfl (w.heap.size + 1) _ A bs u rfl P4.out.own rfl (HBU.out.up P4.out.below) (by omega) P4.out.has.lt ?_; intro v5 w5 hO5 hG5)
          have P5 := hid (P4.out.appended hO5 hG5)
          clear hO5 hG5 P4 hcr
          obtain ⟨a5, c5, rfl⟩ := P5.out.shape
          have hl5 : (A ++ bs).length ≤ 1048576 := by rw [List.length_append]; exact hAB
          generalize A ++ bs = AB at *
          go_wp2_with fail
          refine (hsum_any w.heap.size AB w5 (HK.out.below P5.out.below hsz2) P5.out.has (by omega)).mono ?_
          rintro e w6 ⟨rfl, hB6⟩
          have P6 := hid (P5.out.up hB6)
          clear hB6 P5
          go_wp2_with fail
          refine (sum_any AB _ w6 (HK.out.below P6.out.below hsz2) (HS.out.below P6.out.below (by omega)) P6.out.bytes (by omega)).mono ?_
          rintro e w7 ⟨rfl, hB7⟩
          have P7 := hid (P6.out.up hB7)
          clear hB7 P6
          have heq : ∀ W, (Op.equalIn 10000 26 (.agg ((sumS AB).map B).toArray) (.agg ((sumS AB).map B).toArray)).run Tryd.prog W = .ok true W := fun W => by rw [run_eq32 _ _ (length_sumS AB) (length_sumS AB) W]; simp
          go_wp2_with fail
          refine (len_any w7 _ _ P7.out.has).mono ?_
          rintro e w8 ⟨rfl, rfl⟩
          go_wp2
          go_roundw
          case rel => exact ⟨k + 1, by omega, by omega, by go_num, by rw [hA.out]; exact P7⟩
          case measure => simp [intOf]; omega
    · have hx : (¬ ((k : Int) < (bss.length : Int))) ∨ ((k : Int) < (bss.length : Int) ∧ ¬ ((k : Int) < 40)) := by omega
      have hAl : (bss.take k).flatten.length + more.length ≤ 1048576 := by have := flat_le bss k; have := HLEN.out; omega
      generalize (bss.take k).flatten = A at *
      obtain ⟨aa, ca, rfl⟩ := hP.out.shape
      clear hlt hk hk40
      rcases hx with hc1 | ⟨hc1, hc2⟩
      all_goals
        go_wp2_with fail
        refine (fork_any wr w.heap.size A hP.out.has).mono ?_
        rintro e w2 ⟨rfl, hF2, hB2, hz2⟩
        have P2 := hid (hP.out.up hB2)
        have hf := hP.out.has.lt
        have hob : ∀ k, (Value.slice aa A.length ca).ownBlock = some k → k < wr.heap.size := fun k hk => (hP.out.own.lt k hk).2
        have HOB := hid hob
        clear hob hP
        generalize hfz : wr.heap.size = f at *
        have HF2 := hid hF2
        clear hF2 hB2 hz2 hfz
        go_wp2_with fail
        refine (write_any f A more _ w2 (HK.out.below P2.out.below hsz2) (by omega) HF2.out (HM.out.off P2.out.below f (by omega)) (by omega)).mono ?_
        rintro e w3 ⟨rfl, hG3, hH3⟩
        have P3 := hid (P2.out.junk hG3 (fun g hg => by
          cases hg
          exact ⟨by omega, fun k hk => by have := HOB.out k hk; omega⟩))
        have HF3 := hid hH3
        clear hG3 hH3 P2 HF2
        go_wp2_with fail
        refine (hsum_any w.heap.size A w3 (HK.out.below P3.out.below hsz2) P3.out.has (by omega)).mono ?_
        rintro e w4 ⟨rfl, hB4⟩
        have P4 := hid (P3.out.up hB4)
        have HF4 := hid (HF3.out.below hB4 HF3.out.lt)
        clear hB4 P3 HF3
        go_wp2_with fail
        refine (sum_any A _ w4 (HK.out.below P4.out.below hsz2) (HS.out.below P4.out.below (by omega)) P4.out.bytes (by omega)).mono ?_
        rintro e w5 ⟨rfl, hB5⟩
        have P5 := hid (P4.out.up hB5)
        have HF5 := hid (HF4.out.below hB5 HF4.out.lt)
        clear hB5 P4 HF4
        have heq : ∀ W, (Op.equalIn 10000 26 (.agg ((sumS A).map B).toArray) (.agg ((sumS A).map B).toArray)).run Tryd.prog W = .ok true W := fun W => by rw [run_eq32 _ _ (length_sumS A) (length_sumS A) W]; simp
        go_wp2_with (refine wpList_append_bytes rfl (.tmp 67) (.tmp 68) rfl (w.heap.size + 1) _ A more _ rfl P5.out.own rfl (HM.out.up P5.out.below) (by omega) P5.out.has.lt ?_; intro v6 w6 hO6 hG6)
        have P6 := hid (P5.out.appended hO6 hG6)
        have HF6 := hid (HF5.out.grown hG6 (fun e => by have := HOB.out f e; omega))
        clear hO6 hG6 P5 HF5 heq HOB
        obtain ⟨a6, c6, rfl⟩ := P6.out.shape
        have hl6 : (A ++ more).length ≤ 1048576 := by rw [List.length_append]; exact hAl
        generalize A ++ more = AM at *
        refine (live_any _ (HK.out.below P6.out.below hsz2) (HS.out.below P6.out.below (by omega)) (HC.out.below P6.out.below (by omega))).mono ?_
        rintro e w7 ⟨rfl, hB7⟩
        have P7 := hid (P6.out.up hB7)
        have HF7 := hid (HF6.out.below hB7 HF6.out.lt)
        clear hB7 P6 HF6
        go_wp2_with fail
        refine (hsum_any f AM w7 (HK.out.below P7.out.below hsz2) HF7.out (by omega)).mono ?_
        rintro e w8 ⟨rfl, hB8⟩
        have P8 := hid (P7.out.up hB8)
        have HF8 := hid (HF7.out.below hB8 HF7.out.lt)
        clear hB8 P7 HF7
        go_wp2_with fail
        refine (sum_any AM _ w8 (HK.out.below P8.out.below hsz2) (HS.out.below P8.out.below (by omega)) P8.out.bytes (by omega)).mono ?_
        rintro e w9 ⟨rfl, hB9⟩
        have P9 := hid (P8.out.up hB9)
        have HF9 := hid (HF8.out.below hB9 HF8.out.lt)
        clear hB9 P8 HF8
        have heq : ∀ W, (Op.equalIn 10000 26 (.agg ((sumS AM).map B).toArray) (.agg ((sumS AM).map B).toArray)).run Tryd.prog W = .ok true W := fun W => by rw [run_eq32 _ _ (length_sumS AM) (length_sumS AM) W]; simp
        go_wp2_with fail
        refine (len_any w9 _ _ HF9.out).mono ?_
        rintro e w10 ⟨rfl, rfl⟩
        go_wp2
        go_ret
        exact ⟨rfl, P9.out.below⟩
end Go.Proofs.YtohfgppdeiddmaaDoor
