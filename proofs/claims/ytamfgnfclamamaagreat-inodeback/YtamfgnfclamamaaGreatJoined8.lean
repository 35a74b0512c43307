/- Several of my texts in one: InBytes, InRd, InRead, InStR, InStS, InModes, InFree, TFullP, InStV, KeepB, InHeld, R6Edit, R6App, R6Size, R6Writ, R6Get, L6MuchA. -/
import Derived.Test.YtamfgnfclamamaaGreatJoined7
import Derived.Test.YtamfgnfclamamaaGreatJoined5
import Derived.Test.YtamfgnfclamamaaGreatJoined2
set_option maxRecDepth 100000
set_option maxHeartbeats 1000000
namespace Go.Proofs.YtamfgnfclamamaaGreat
section
open Go.RowKit
def bLen (n : Int) : Nat := if n < 0 \/ 8000 < n then 8000 else n.toNat
theorem bLen_le (n : Int) : bLen n <= 8000 := by unfold bLen; split <;> omega
def bAt (x : UInt8) (k : Nat) : UInt8 := x + UInt8.ofNat (k % 251)
def bL (x : UInt8) (n : Nat) : List UInt8 := (List.range n).map (bAt x)
theorem length_bL (x : UInt8) (n : Nat) : (bL x n).length = n := by simp [bL]
def bTo (n : Nat) (x : UInt8) (k : Nat) : List UInt8 := bL x k ++ zN (n - k)
theorem bTo_zero (n : Nat) (x : UInt8) : bTo n x 0 = zN n := by simp [bTo, bL]
theorem bTo_full (n : Nat) (x : UInt8) : bTo n x n = bL x n := by
 rw [bTo, Nat.sub_self]; exact List.append_nil _
theorem length_bTo (n : Nat) (x : UInt8) (k : Nat) (h : k <= n) : (bTo n x k).length = n := by
 rw [bTo, List.length_append, length_bL, length_zN]; omega
theorem bTo_succ (n : Nat) (x : UInt8) (k : Nat) (h : k < n) : (bTo n x k).set k (bAt x k) = bTo n x (k + 1) := by
 have e : n - k = (n - (k + 1)) + 1 := by omega
 rw [bTo, bTo, List.set_append_right _ _ (by rw [length_bL]; exact Nat.le_refl _), length_bL, Nat.sub_self, e, zN, List.replicate_succ, List.set_cons_zero]
 unfold bL
 rw [List.range_succ, List.map_append, List.append_assoc]
 rfl
theorem u8_wrap (n : Int) : IntKind.u8.wrap n = n % 256 := by
 rw [IntKind.wrap_u8]
theorem bAt_toNat (x : UInt8) (k : Nat) : ((bAt x k).toNat : Int) = IntKind.u8.wrap ((x.toNat : Int) + (k : Int) % 251) := by
 unfold bAt
 rw [UInt8.toNat_add, UInt8.toNat_ofNat', Nat.mod_eq_of_lt (show k % 251 < 2 ^ 8 by omega), u8_wrap]
 omega
theorem wpList_make_u8L {w : World} {ops : Array Oper} {rest : List Oper} {o : Oper} {a : Act} {Q : Exit -> Act -> World -> Prop} (hg : o.guard = none) (l c : Operand) (hop : o.op = Op.makeSlice 42 l c)
  (n : Nat) (x : Int) (hx : x = n) (hl : a.eval l = .int .i64 x) (hc : a.eval c = .int .i64 x) (hm : n <= 10000)
  (h : ∀ w1 : World, Below w.heap.size w w1 -> w1.heap[w.heap.size]? = some (.cells (List.replicate n (Value.int .u8 0)).toArray 5 (0, 0)) -> w1.heap.size = w.heap.size + 1 ->
   wpList Tryz.prog ops Q rest (a.put o.dst (.slice (some ⟨w.heap.size, 0, none⟩) n n)) w1) : wpList Tryz.prog ops Q (o :: rest) a w := by
 subst hx
 obtain ⟨i, hi, hz, hs, hb⟩ := info_parts infoU8
 refine wpList_plain hg fun K hK' => ?_
 have hrun := run_make (P := Tryz.prog) w 42 5 i (.int .u8 0) Tryz.underlying42 hi hz .i64 .i64 n n (by omega) (by omega) (by rw [hb]; omega) (by omega)
 unfold Oper.wp
 simp only [Int.toNat_natCast, hs, madeU8] at hrun
 generalize (List.replicate n (Value.int .u8 0)).toArray = Z at *
 simp [execOp, hop, hl, hc, hrun, Result.andThen]
 exact hK' _ _ (h _ ((Below.refl _ _).alloc (Nat.le_refl _) _) (block_new _ _) (by simp))
theorem l6bytes_any (kd ii aa n nd md lk : Int) (x : UInt8) (w : World) :
  Calls Tryz.prog 17 #[.agg #[.int .i64 kd, .int .i64 ii, .int .i64 aa, .int .i64 n, .int .i64 nd, .int .i64 md, .int .i64 lk, .int .u8 (x.toNat : Int)]] w fun e w' => Below w.heap.size w w' /\ ∃ g, w.heap.size <= g /\ e = .returned (.slice (some ⟨g, 0, none⟩) (bLen n) (bLen n)) /\ ownB w' g (bL x (bLen n)) := by
 obtain ⟨wA, hA⟩ : ∃ wA, wA = w.alloc (.cells #[.int .i64 kd, .int .i64 ii, .int .i64 aa, .int .i64 n, .int .i64 nd, .int .i64 md, .int .i64 lk, .int .u8 (x.toNat : Int)] 25) := ⟨_, rfl⟩
 have hsA : wA.heap.size = w.heap.size + 1 := by rw [hA]; simp
 have HB0 : Hid (Below w.heap.size w wA) := by rw [hA]; exact (Below.refl _ w).alloc (Nat.le_refl _) _
 have Hb0 : Hid (wA.heap[w.heap.size]? = some (.cells #[.int .i64 kd, .int .i64 ii, .int .i64 aa, .int .i64 n, .int .i64 nd, .int .i64 md, .int .i64 lk, .int .u8 (x.toNat : Int)] 25 (0, 0))) := by rw [hA]; exact block_new w _
 have c3 : wA.cell? ⟨w.heap.size, 3, none⟩ = some (.int .i64 n) := cell_of_block Hb0.out 3
 have HSA := hid hsA
 clear hsA
 by_cases h0 : n < 0
 ·obtain ⟨k, hk⟩ : ∃ k : Nat, (k : Int) = 8000 := ⟨8000, rfl⟩
  have hL : bLen n = k := by unfold bLen; rw [if_pos (.inl h0)]; omega
  rw [hL]
  have hk8 : k <= 8000 := by omega
  have HK := hid hk
  clear hL hk
  go_enter Tryz.func17, Tryz.ntmps17
  go_upto_region 1 with (fail)
  rw [<- hA]
  clear hA
  go_wp2_with (refine wpList_make_u8L rfl (.tmp 14) (.tmp 14) rfl k 8000 HK.out.symm rfl rfl (by omega) ?_; intro w1 hb1 hr1 hz1; have HB1 := hid hb1; have HR1 : Hid (ownB w1 wA.heap.size (zN k)) := (by unfold Hid ownB; rw [hr1, rep_U8]); clear hb1 hr1 hz1)
  rw [HSA.out] at *
  have HM1 := hid (below_block HB1.out Hb0.out (by rw [HSA.out]; omega))
  clear c3
  go_loopw [5] (fun i wr => ∃ q : Nat, q <= k /\ i = .int .i64 q /\ Hid (ownB wr (w.heap.size + 1) (bTo k x q)) /\ Hid (Keeps (fun i => i = w.heap.size + 1) w1 wr)) (fun i _ => k - (intOf i).toNat)
  case atStart => exact ⟨0, by omega, rfl, by rw [bTo_zero]; exact HR1, Keeps.refl _ _⟩
  case round =>
   obtain ⟨q, hq, rfl, hOw, hKi⟩ := hrel
   have hMi := hKi.out.heap HM1.out (fun e => by omega)
   have d7 : wr.cell? ⟨w.heap.size, 7, none⟩ = some (.int .u8 (x.toNat : Int)) := cell_of_block hMi 7
   clear hMi
   by_cases hq5 : q < k
   ·have hq0 : (0 : Int) <= (q : Int) := by omega
    have hq1 : (q : Int) < (k : Nat) := by omega
    have hq2 : (q : Int) < 8000 := by (have := HK.out; omega)
    obtain ⟨old, cl⟩ : ∃ v, wr.cell? ⟨w.heap.size + 1, q, none⟩ = some v := ⟨_, hOw.out.cell q (by rw [length_bTo _ _ _ hq]; exact hq5)⟩
    have fl := hOw.out.frozen q
    have hs := hOw.out.set q (bAt x q)
    rw [bTo_succ k x q hq5, bAt_toNat x q] at hs
    have HSt := hid hs
    have hcv : IntKind.u8.wrap ((q : Int) % 251) = (q : Int) % 251 := by rw [u8_wrap]; omega
    clear hs
    go_wp2
    exact ⟨⟨q + 1, by omega, by go_num, HSt, hKi.out.grown (grown_setCell (grown_refl _ _) _ _) (fun i e => .inl (Option.some.inj e).symm)⟩, by simp [intOf]; omega⟩
   ·have hqk : k = q := by omega
    subst hqk
    have hge : ¬ (((k : Nat) : Int) < 8000) := by (have := HK.out; omega)
    have hOf := hOw.out
    rw [bTo_full] at hOf
    have HOf := hid hOf
    have HBf : Hid (Below w.heap.size w wr) := by
     have hbb := HB0.out.trans (HB1.out.mono (Nat.le_succ _))
     exact hbb.trans (hKi.out.below hbb.size (fun i e => by omega))
    clear hOf hOw
    go_wp2
    go_ret
    exact ⟨HBf.out, w.heap.size + 1, Nat.le_succ _, rfl, HOf.out⟩
 ·by_cases h8 : 8000 < n
  ·obtain ⟨k, hk⟩ : ∃ k : Nat, (k : Int) = 8000 := ⟨8000, rfl⟩
   have hL : bLen n = k := by unfold bLen; rw [if_pos (.inr h8)]; omega
   rw [hL]
   have hk8 : k <= 8000 := by omega
   have HK := hid hk
   clear hL hk
   go_enter Tryz.func17, Tryz.ntmps17
   go_upto_region 1 with (fail)
   rw [<- hA]
   clear hA
   go_wp2_with (refine wpList_make_u8L rfl (.tmp 14) (.tmp 14) rfl k 8000 HK.out.symm rfl rfl (by omega) ?_; intro w1 hb1 hr1 hz1; have HB1 := hid hb1; have HR1 : Hid (ownB w1 wA.heap.size (zN k)) := (by unfold Hid ownB; rw [hr1, rep_U8]); clear hb1 hr1 hz1)
   rw [HSA.out] at *
   have HM1 := hid (below_block HB1.out Hb0.out (by rw [HSA.out]; omega))
   clear c3
   go_loopw [5] (fun i wr => ∃ q : Nat, q <= k /\ i = .int .i64 q /\ Hid (ownB wr (w.heap.size + 1) (bTo k x q)) /\ Hid (Keeps (fun i => i = w.heap.size + 1) w1 wr)) (fun i _ => k - (intOf i).toNat)
   case atStart => exact ⟨0, by omega, rfl, by rw [bTo_zero]; exact HR1, Keeps.refl _ _⟩
   case round =>
    obtain ⟨q, hq, rfl, hOw, hKi⟩ := hrel
    have hMi := hKi.out.heap HM1.out (fun e => by omega)
    have d7 : wr.cell? ⟨w.heap.size, 7, none⟩ = some (.int .u8 (x.toNat : Int)) := cell_of_block hMi 7
    clear hMi
    by_cases hq5 : q < k
    ·have hq0 : (0 : Int) <= (q : Int) := by omega
     have hq1 : (q : Int) < (k : Nat) := by omega
     have hq2 : (q : Int) < 8000 := by (have := HK.out; omega)
     obtain ⟨old, cl⟩ : ∃ v, wr.cell? ⟨w.heap.size + 1, q, none⟩ = some v := ⟨_, hOw.out.cell q (by rw [length_bTo _ _ _ hq]; exact hq5)⟩
     have fl := hOw.out.frozen q
     have hs := hOw.out.set q (bAt x q)
     rw [bTo_succ k x q hq5, bAt_toNat x q] at hs
     have HSt := hid hs
     have hcv : IntKind.u8.wrap ((q : Int) % 251) = (q : Int) % 251 := by rw [u8_wrap]; omega
     clear hs
     go_wp2
     exact ⟨⟨q + 1, by omega, by go_num, HSt, hKi.out.grown (grown_setCell (grown_refl _ _) _ _) (fun i e => .inl (Option.some.inj e).symm)⟩, by simp [intOf]; omega⟩
    ·have hqk : k = q := by omega
     subst hqk
     have hge : ¬ (((k : Nat) : Int) < 8000) := by (have := HK.out; omega)
     have hOf := hOw.out
     rw [bTo_full] at hOf
     have HOf := hid hOf
     have HBf : Hid (Below w.heap.size w wr) := by
      have hbb := HB0.out.trans (HB1.out.mono (Nat.le_succ _))
      exact hbb.trans (hKi.out.below hbb.size (fun i e => by omega))
     clear hOf hOw
     go_wp2
     go_ret
     exact ⟨HBf.out, w.heap.size + 1, Nat.le_succ _, rfl, HOf.out⟩
  ·obtain ⟨k, rfl⟩ : ∃ k : Nat, n = (k : Int) := ⟨n.toNat, by omega⟩
   have hL : bLen (k : Int) = k := by unfold bLen; rw [if_neg (by omega)]; rfl
   rw [hL]
   have hk8 : k <= 8000 := by omega
   clear hL
   go_enter Tryz.func17, Tryz.ntmps17
   go_upto_region 1 with (fail)
   rw [<- hA]
   clear hA
   go_wp2_with (refine wpList_make_u8L rfl (.tmp 14) (.tmp 14) rfl k (k : Int) rfl rfl rfl (by omega) ?_; intro w1 hb1 hr1 hz1; have HB1 := hid hb1; have HR1 : Hid (ownB w1 wA.heap.size (zN k)) := (by unfold Hid ownB; rw [hr1, rep_U8]); clear hb1 hr1 hz1)
   rw [HSA.out] at *
   have HM1 := hid (below_block HB1.out Hb0.out (by rw [HSA.out]; omega))
   clear c3
   go_loopw [5] (fun i wr => ∃ q : Nat, q <= k /\ i = .int .i64 q /\ Hid (ownB wr (w.heap.size + 1) (bTo k x q)) /\ Hid (Keeps (fun i => i = w.heap.size + 1) w1 wr)) (fun i _ => k - (intOf i).toNat)
   case atStart => exact ⟨0, by omega, rfl, by rw [bTo_zero]; exact HR1, Keeps.refl _ _⟩
   case round =>
    obtain ⟨q, hq, rfl, hOw, hKi⟩ := hrel
    have hMi := hKi.out.heap HM1.out (fun e => by omega)
    have d7 : wr.cell? ⟨w.heap.size, 7, none⟩ = some (.int .u8 (x.toNat : Int)) := cell_of_block hMi 7
    clear hMi
    by_cases hq5 : q < k
    ·have hq0 : (0 : Int) <= (q : Int) := by omega
     have hq1 : (q : Int) < (k : Nat) := by omega
     have hq2 : (q : Int) < (k : Int) := by omega
     obtain ⟨old, cl⟩ : ∃ v, wr.cell? ⟨w.heap.size + 1, q, none⟩ = some v := ⟨_, hOw.out.cell q (by rw [length_bTo _ _ _ hq]; exact hq5)⟩
     have fl := hOw.out.frozen q
     have hs := hOw.out.set q (bAt x q)
     rw [bTo_succ k x q hq5, bAt_toNat x q] at hs
     have HSt := hid hs
     have hcv : IntKind.u8.wrap ((q : Int) % 251) = (q : Int) % 251 := by rw [u8_wrap]; omega
     clear hs
     go_wp2
     exact ⟨⟨q + 1, by omega, by go_num, HSt, hKi.out.grown (grown_setCell (grown_refl _ _) _ _) (fun i e => .inl (Option.some.inj e).symm)⟩, by simp [intOf]; omega⟩
    ·have hqk : k = q := by omega
     subst hqk
     have hge : ¬ (((k : Nat) : Int) < (k : Int)) := by omega
     have hOf := hOw.out
     rw [bTo_full] at hOf
     have HOf := hid hOf
     have HBf : Hid (Below w.heap.size w wr) := by
      have hbb := HB0.out.trans (HB1.out.mono (Nat.le_succ _))
      exact hbb.trans (hKi.out.below hbb.size (fun i e => by omega))
     clear hOf hOw
     go_wp2
     go_ret
     exact ⟨HBf.out, w.heap.size + 1, Nat.le_succ _, rfl, HOf.out⟩
end
section
set_option maxRecDepth 100000
open Go.RowKit
def PcB (w : World) (B c : Nat) (F : Nat -> Prop) (size N : Nat) (Pg Cm : Nat -> List UInt8) (D : Int -> Bool) (o u : Nat) : Prop := ∃ L C, PcIn w c F size N Pg Cm D o u L C /\ c < B /\ L.um < B /\ B <= w.heap.size /\ ∀ W, Keeps (fun i => B <= i) w W -> CacheAt W c L C
section
variable {w w' : World} {B m c ino : Nat} {F : Nat -> Prop} {size N : Nat} {Pg Cm : Nat -> List UInt8} {D : Int -> Bool} {o u : Nat}
theorem PcB.start (h : Pc w c F size N Pg Cm D o u) : PcB w w.heap.size c F size N Pg Cm D o u := by
 obtain ⟨L, C, h⟩ := h
 obtain ⟨es, k, hu⟩ := h.at_.umap
 exact ⟨L, C, h, lt_of_heap h.at_.heap, lt_of_heap hu, Nat.le_refl _, fun W hW => h.at_.below (hW.below (Nat.le_refl _) (fun i e => e))⟩
theorem PcB.keep (h : PcB w B c F size N Pg Cm D o u) (k : Keeps (fun i => B <= i) w w') : PcB w' B c F size N Pg Cm D o u := by
 obtain ⟨L, C, h, h1, h2, h3, h4⟩ := h
 exact ⟨L, C, ⟨h4 w' k, h.sz, h.nn, h.made, h.ops, h.uses, h.pg, h.cm, h.dirty, h.room, h.foot, fun i hi => Nat.lt_of_lt_of_le (h.lt i hi) k.size, Nat.lt_of_lt_of_le h.p0 k.size, h.sep.mono k.size, h.quiet⟩, h1, h2, Nat.le_trans h3 k.size, fun W hW => h4 W (k.trans hW (fun i e => .inl e))⟩
theorem PcB.pc (h : PcB w B c F size N Pg Cm D o u) : Pc w c F size N Pg Cm D o u := by
 obtain ⟨L, C, h, -⟩ := h
 exact ⟨L, C, h⟩
theorem PcB.le (h : PcB w B c F size N Pg Cm D o u) : B <= w.heap.size := by
 obtain ⟨L, C, -, -, -, h, -⟩ := h
 exact h
theorem PcB.step {L L' : CLay} {C C' : CS} (hB : ∀ W, Keeps (fun i => B <= i) w W -> CacheAt W c L C) (hc : c < B) (hu : L.um < B) (hBs : B <= w.heap.size) (hk : Keeps (fun i => i = c \/ i = L.um) w w') (h' : CacheAt w' c L' C')
  (hL : L' = { L with Du := L'.Du }) (hC : C' = { C with uses := C'.uses, used := C'.used }) : ∀ W, Keeps (fun i => B <= i) w' W -> CacheAt W c L' C' := fun V hV => by
 have h0 := hB w (Keeps.refl _ _)
 obtain ⟨es, kk, hum⟩ := h0.umap
 have hcw := h0.heap
 obtain ⟨W, hW⟩ : ∃ W : World, W = { V with heap := (V.heap.setIfInBounds c (.cells #[.pointer (some ⟨L.p, 0, none⟩), .map (some L.dm), .int .i64 C.most, .int .i64 C.uses, .map (some L.um)] 105 (0, 0))).setIfInBounds L.um (.map es kk) } := ⟨_, rfl⟩
 have hs1 := hk.size
 have hs2 := hV.size
 have hWs : W.heap.size = V.heap.size := by rw [hW]; simp
 have hne : ∀ k, k ≠ c -> k ≠ L.um -> W.heap[k]? = V.heap[k]? := fun k h1 h2 => by
  rw [hW]
  show ((V.heap.setIfInBounds c _).setIfInBounds L.um _)[k]? = V.heap[k]?
  rw [Array.getElem?_setIfInBounds_ne (fun e => h2 e.symm), Array.getElem?_setIfInBounds_ne (fun e => h1 e.symm)]
 have hcu : c ≠ L.um := fun e => by rw [e, hum] at hcw; cases hcw
 have hWc : W.heap[c]? = w.heap[c]? := by
  rw [hcw, hW]
  show ((V.heap.setIfInBounds c _).setIfInBounds L.um _)[c]? = _
  rw [Array.getElem?_setIfInBounds_ne (fun e => hcu e.symm), Array.getElem?_setIfInBounds_self_of_lt (by omega)]
 have hWu : W.heap[L.um]? = w.heap[L.um]? := by
  rw [hum, hW]
  show ((V.heap.setIfInBounds c _).setIfInBounds L.um _)[L.um]? = _
  rw [Array.getElem?_setIfInBounds_self_of_lt (by rw [Array.size_setIfInBounds]; omega)]
 have kW : Keeps (fun i => B <= i) w W := by
  refine ⟨?_, ?_, ?_, by omega, fun k hk1 hk2 => ?_⟩
  ·rw [hW]; exact hV.os.trans hk.os
  ·rw [hW]; exact hV.tape.trans hk.tape
  ·rw [hW]; exact hV.output.trans hk.output
  ·by_cases e1 : k = c
   ·rw [e1]; exact hWc
   ·by_cases e2 : k = L.um
    ·rw [e2]; exact hWu
    ·rw [hne k e1 e2, hV.block k (by omega) hk2, hk.block k hk1 (fun hh => hh.elim e1 e2)]
 have kV : Keeps (fun i => i = c \/ i = L.um) W V := by
  refine ⟨by rw [hW], by rw [hW], by rw [hW], by omega, fun k _ hk2 => (hne k (fun e => hk2 (.inl e)) (fun e => hk2 (.inr e))).symm⟩
 have hA := hB W kW
 have hG : ∀ i, (i = c \/ i = L.um) -> i = c \/ i = L.dm \/ i = L.um := fun i hi => hi.elim .inl (fun e => .inr (.inr e))
 have eum : L'.um = L.um := by rw [hL]
 have hcV : V.heap[c]? = w'.heap[c]? := hV.block c (by omega) (fun e => by omega)
 rw [hL, hC] at h' ⊢
 exact {
  heap := hcV.trans h'.heap
  log := hA.logKeep hG kV
  lt := fun i hi => Nat.lt_of_lt_of_le (h'.lt i hi) hV.size
  dirty := hA.dirty.keep kV (fun e => e.elim (fun e => hA.cd e.symm) (fun e => hA.ne e))
  bytes := hA.bytesKeep hG kV
  clean := h'.clean
  used := h'.used.keep hV (fun e => by have e' : B <= L.um := e; omega)
  offc := h'.offc
  offd := h'.offd
  offu := h'.offu
  ne := h'.ne
  pages := h'.pages
  fits := h'.fits
  few := h'.few
  ub := h'.ub }
theorem PcB.read (h : PcB w B c F size N Pg Cm D o u) (n : Nat) (hn : n < N) (hu : u < 1000000) :
  Calls Tryz.prog 140 #[.pointer (some ⟨c, 0, none⟩), .int .i64 n] w fun e w' => ∃ g cap, e = .returned (.tuple #[.slice (some ⟨g, 0, none⟩) 512 cap, .int .i64 0]) /\ 512 <= cap /\ w.heap.size <= g /\ rowU w' g (Pg n) /\ Keeps F w w' /\ PcB w' B c F size N Pg Cm D o (u + 1) := by
 obtain ⟨L, C, h, h1, h2, h3, h4⟩ := h
 refine (bread_row n w h.at_ (Below.refl _ w) h.made (by have := h.uses; omega) (by rw [h.nn]; exact hn)).mono ?_
 rintro e w' ⟨g, cap, D', u', k, rfl, hc, hg, hr, hk, hW, hK⟩
 have hf : ∀ i, (i = c \/ i = L.um) -> F i := fun i hi => h.foot i (hi.elim (fun e => .inr (.inl e)) (fun e => .inr (.inr (.inr e))))
 have hA := hW w' (Keeps.refl _ _)
 refine ⟨g, cap, rfl, hc, hg, by rw [<- h.pg n hn]; exact hr, hK.mono hf, { L with Du := D' }, { C with uses := C.uses + k, used := u' }, ⟨hA, h.sz, h.nn, h.made, h.ops, by show C.uses + k <= u + 1; have := h.uses; omega, h.pg, h.cm, h.dirty, h.room, h.foot, fun i hi => Nat.lt_of_lt_of_le (h.lt i hi) hK.size, Nat.lt_of_lt_of_le h.p0 hK.size, h.sep.mono hK.size, h.quiet⟩, h1, h2, Nat.le_trans h3 hK.size, PcB.step h4 h1 h2 h3 hK hA rfl rfl⟩
theorem ipage_pb (h : mapB w m c ino) (n : Nat) (hn : n < N) (hu : u < 1000000) (hp : PcB w B c F size N Pg Cm D o u) :
  Calls Tryz.prog 88 #[gV m, .int .i64 n] w fun e w' => ∃ g, e = .returned (.slice (some ⟨g, 0, none⟩) 512 512) /\ w.heap.size <= g /\ ownB w' g (Pg n) /\ Keeps F w w' /\ PcB w' B c F size N Pg Cm D o (u + 1) := by
 unfold gV
 have HLen := hid (hp.pc.len n hn)
 have HFl := hid hp.pc.lt
 have hBl := hp.le
 have hal : Below w.heap.size w (w.alloc (.cells #[.pointer (some ⟨m, 0, none⟩)] 83)) := (Below.refl _ w).alloc (Nat.le_refl _) _
 have HAl : Hid ((w.alloc (.cells #[.pointer (some ⟨m, 0, none⟩)] 83)).heap[w.heap.size]? = some (.cells #[.pointer (some ⟨m, 0, none⟩)] 83 (0, 0))) := block_new w _
 have HBa := hid hal
 have HP := hid hp
 have HM := hid h
 clear h hp hal
 go_enter Tryz.func88, Tryz.ntmps88
 go_wp2_with (refine wpList_make_u8 rfl (.const (.int .i64 512)) (.const (.int .i64 512)) rfl 512 512 rfl rfl rfl (by omega) ?_; intro w1 hb1 hr1 hz1; have hB1 := HBa.out.trans (hb1.mono HBa.out.size); have HB1 := hid hB1; have c0 : w1.cell? ⟨w.heap.size, 0, none⟩ = some (.pointer (some ⟨m, 0, none⟩)) := (cell_of_block (below_block hb1 HAl.out (lt_of_heap HAl.out)) 0); have HO1 : Hid (ownB w1 (w.heap.size + 1) (zN 512)) := (by unfold Hid ownB; rw [<- rep_U8]; simpa using hr1); have HCa := hid (amCache_any (HM.out.below hB1)); have HRd := hid ((HP.out.keep (Keeps.of_below hB1)).read n hn hu); clear hb1 hr1 hz1 hB1)
 refine HCa.out.mono ?_
 clear HCa
 rintro e w2 ⟨rfl, h2⟩
 obtain rfl := h2.symm
 clear h2
 go_wp2_with fail
 refine HRd.out.mono ?_
 clear HRd
 rintro e w3 ⟨g, cap, rfl, hcap, hg, hrow, hk, hW⟩
 have HO3 := hid (HO1.out.keep hk (fun hf => by have := HFl.out _ hf; omega))
 have HRow := hid hrow
 have HK : Hid (Keeps F w w3) := (Keeps.of_below HB1.out : Keeps F w w1).trans hk (fun i e => .inl e)
 have HW := hid hW
 have HSz : Hid (w.heap.size + 1 < w3.heap.size) := lt_of_heap HO3.out
 clear hrow hk hW hg HO1 c0
 go_wp2_with (refine wpList_copy_own8 rfl (.tmp 17) (.tmp 18) rfl (w.heap.size + 1) 0 512 512 ⟨g, 0, none⟩ 512 cap rfl rfl (zN 512) (Pg n) HO3.out HRow.out.1 (by rw [HLen.out]; rfl) (by rw [HLen.out, length_zN]; omega) ?_; intro w4 hk4 ho4 hz4; have HO4 := hid ho4; have HK4 := hid hk4; clear hk4 ho4 hz4)
 go_ret
 have ho := HO4.out
 rw [List.take_zero, List.nil_append, Nat.zero_add, HLen.out, drop_zN, show zN (512 - 512) = [] from rfl, List.append_nil] at ho
 have k34 : Keeps (fun i => B <= i) w3 w4 := HK4.out.mono (fun i e => by have e' : i = w.heap.size + 1 := e; show B <= i; omega)
 have k35 : Keeps (fun i => w.heap.size <= i) w3 w4 := HK4.out.mono (fun i e => by have e' : i = w.heap.size + 1 := e; show w.heap.size <= i; omega)
 exact ⟨w.heap.size + 1, rfl, by omega, ho, HK.out.trans k35 (fun i e => .inr e), HW.out.keep k34⟩
end
end
section
set_option maxRecDepth 100000
set_option maxHeartbeats 4000000
open Go.RowKit Go.Shelf
attribute [local go_sem] Oper.semAt_some
def rowY (w : World) (base : Nat) (v : Value) (xs : List UInt8) : Prop := w.ownsRow base 5 1 v xs.length (xs.map U8)
def boxY (w : World) (b base : Nat) (xs : List UInt8) : Prop := ∃ v, w.heap[b]? = some (.cells #[v] 42 (0, 0)) /\ rowY w base v xs
def partL (sl : List Nat) (a z : Nat) (Pg : Nat -> List UInt8) (k : Nat) : List UInt8 := ((Pg (sl.getD (dslot k) 0)).drop (a - k * 512)).take (min (z - k * 512) 512 - (a - k * 512))
def partsL (sl : List Nat) (a z : Nat) (Pg : Nat -> List UInt8) (ks : List Nat) : List UInt8 := ks.flatMap (partL sl a z Pg)
theorem infoU8r : (Tryz.prog.info? 5).map (fun i => (i.zero, i.size, i.bytes)) = some (some (.int .u8 0), 1, 1) := by kernel_rfl
theorem wp_append_bytes {w : World} {base : Nat} {v : Value} {xs : List UInt8} {o : Oper} {a : Act} {K : Act -> World -> Prop} {Q : Exit -> Act -> World -> Prop} (s x : Operand)
  (ho : o.op = .call { callee := .builtin .append, args := #[s, x], argTypes := #[42, 42] }) (hs : a.eval s = v) (ad : Addr) (m c : Nat) (hx : a.eval x = .slice (some ad) m c)
  (h : rowY w base v xs) (news : List UInt8) (hl : news.length = m) (hb : bytesAt w ad news) (hn : xs.length + m <= 100000) (hbase : base <= w.heap.size)
  (k : ∀ ag n cap w', rowY w' base (.slice ag n cap) (xs ++ news) -> w.grownBy w' v.ownBlock -> K (a.put o.dst (.slice ag n cap)) w') : Oper.wp Tryz.prog o a w K Q := by
 obtain ⟨i0, hi, hz0, hz1, hz2⟩ := info_parts infoU8r
 rcases Nat.eq_zero_or_pos m with rfl | h0
 ·obtain rfl : news = [] := List.eq_nil_of_length_eq_zero hl
  rw [List.append_nil] at k
  have hrun : (Builtin.append_ #[42, 42] o.type #[v, .slice (some ad) 0 c]).run Tryz.prog w = .ok v w /\ ∃ ag n cap, v = .slice ag n cap := by
   rcases h.2 with ⟨rfl, -⟩ | ⟨g, cap, cur, rfl, -, -, hle, -⟩
   ·exact ⟨run_append_noneP 42 o.type 5 i0 Tryz.underlying42 hi _ c, _, _, _, rfl⟩
   ·exact ⟨run_append_more 42 o.type 5 i0 Tryz.underlying42 hi _ _ cap hle _ c, _, _, _, rfl⟩
  obtain ⟨hrun, ag, n, cap, rfl⟩ := hrun
  unfold Oper.wp
  simp [execOp, ho, resolve, invoke, builtin, hs, hx, hrun, Result.andThen]
  exact k _ _ _ w h (grown_refl _ _)
 ·have hnews : ∀ j y, (news.map U8)[j]? = some y -> w.cell? (ad.add j) = some y := fun j y hy => by
   have hj : j < news.length := by simpa using (List.getElem?_eq_some_iff.1 hy).1
   rw [List.getElem?_map, List.getElem?_eq_getElem hj] at hy
   rw [hb j hj]; exact hy
  have h1 : ∀ y ∈ news.map U8, y.oneCell' = true := fun y hy => by
   obtain ⟨x, -, rfl⟩ := List.mem_map.1 hy
   rfl
  obtain ⟨g, cap, w', hr, h2, h3, -, -⟩ := run_append_lies (P := Tryz.prog) w 42 o.type base 5 i0 (.int .u8 0) 1 1 Tryz.underlying42 hi hz0 hz1 hz2 rfl (by omega) v xs.length (xs.map U8) h ad m c (news.map U8) (by rw [List.length_map]; omega) hnews h1 h0 (by unfold maxLen; omega) (by omega) hbase w.heap.size rfl
  unfold Oper.wp
  simp [execOp, ho, resolve, invoke, builtin, hs, hx, hr, Result.andThen]
  refine k _ _ cap w' ?_ h3
  unfold rowY
  rw [List.length_append, hl, List.map_append]
  exact h2
theorem results_ifread {w : World} {tmps : Array Value} {x : Value} (h1 : tmps.getD 6 undef = x) : (results Tryz.f53 tmps).run Tryz.prog w = .ok x w := by
 have h1' : tmps[6]?.getD undef = x := by simpa using h1
 simp only [results, Tryz.results53]
 simp [go_sem, h1']
theorem rowY.down {w : World} {base b' : Nat} {v : Value} {xs : List UInt8} (h : rowY w base v xs) (hb : b' <= base) : rowY w b' v xs := by
 refine ⟨h.1, ?_⟩
 rcases h.2 with h1 | ⟨g0, cap0, cur, e, h1, h2⟩
 ·exact .inl h1
 ·exact .inr ⟨g0, cap0, cur, e, Nat.le_trans hb h1, h2⟩
theorem rowY.ge {w : World} {base : Nat} {v : Value} {xs : List UInt8} (h : rowY w base v xs) {g : Nat} (hg : v.ownBlock = some g) : base <= g /\ ∃ cs, w.heap[g]? = some (.cells cs 5 (0, 0)) := by
 rcases h.2 with ⟨e, -⟩ | ⟨g0, cap0, cur, e, h1, h2, -⟩
 ·rw [e] at hg; cases hg
 ·rw [e] at hg; cases hg; exact ⟨h1, _, h2⟩
section
variable {w : World} {f m c ino : Nat} {F : Nat -> Prop} {size N : Nat} {Pg Cm : Nat -> List UInt8} {D : Int -> Bool} {o u : Nat} {S : FileS}
theorem ifread_any (a z : Nat) (h : mapB w m c ino) (hmF : ¬ F m) (hf : fileB w f m S) (hfF : ¬ F f) (hS : S.slots.length = 139) (haz : a <= z) (hz : z <= 70656) (hu : u < 990000) (hsl : ∀ k, a / 512 <= k -> k < fillN z -> S.slots.getD (dslot k) 0 < N) (hp : Pc w c F size N Pg Cm D o u) :
  Calls Tryz.prog 53 #[.pointer (some ⟨f, 0, none⟩), .int .i64 a, .int .i64 z] w fun e w' => ∃ v, e = .returned v /\ rowY w' w.heap.size v (partsL S.slots a z Pg (upTo (a / 512) (fillN z))) /\ Keeps F w w' /\ Pc w' c F size N Pg Cm D o (u + 138) := by
 refine (callsIn_wide (n := 8)).1 ?_
 obtain ⟨wA, hA⟩ : ∃ wA, wA = (w.alloc (.cells #[.pointer (some ⟨f, 0, none⟩)] 112)).alloc (.cells #[.slice none 0 0] 42) := ⟨_, rfl⟩
 have hAB : Below w.heap.size w wA := by rw [hA]; exact ((Below.refl _ w).alloc (Nat.le_refl _) _).alloc (by simp) _
 have hA0 : wA.heap[w.heap.size]? = some (.cells #[.pointer (some ⟨f, 0, none⟩)] 112 (0, 0)) := by rw [hA]; exact block_alloc (block_new w _) _
 have hA1 : wA.heap[w.heap.size + 1]? = some (.cells #[.slice none 0 0] 42 (0, 0)) := by
  have h1 := block_new (w.alloc (.cells #[.pointer (some ⟨f, 0, none⟩)] 112)) (.cells #[.slice none 0 0] 42)
  rw [World.size_alloc] at h1
  rw [hA]; exact h1
 have hAs : wA.heap.size = w.heap.size + 2 := by rw [hA]; simp
 have hfA := hf.below hAB
 have HF := hid hfA
 have HMp := hid (h.below hAB)
 have HPc := hid ((PcB.start hp).keep (Keeps.of_below hAB))
 have HFl := hid hp.lt
 have HA0 := hid hA0
 have HA1 := hid hA1
 have HAB := hid hAB
 have HAs := hid hAs
 have HS := hid hS
 have HSl := hid hsl
 have hfl : f < w.heap.size := hf.lt
 have hml : m < w.heap.size := lt_of_heap h
 clear hf hfA hA0 hA1 hAB hAs hS h hp hsl
 refine callsIn_of_wp_marks Tryz.func53 rfl trivial ?_ rfl
 simp only [Tryz.ntmps53, List.size_toArray, List.length_cons, List.length_nil, Nat.reduceAdd, Nat.reduceSub, Array.replicate_succ, Array.replicate_zero, List.push_toArray, List.append_toArray, List.nil_append, List.cons_append]
 have hf2 : Fence.wide.fn 105 := trivial
 have hf4 : Fence.wide.fn 88 := trivial
 gi_wp2
 rw [<- hA]
 clear hA
 refine (callsIn_wide.2 (iparts_any f a z wA)).mono ?_
 rintro e wD ⟨rfl, hD⟩
 have hDB : Below wA.heap.size wA wD := by rw [hD]; exact (((Below.refl _ wA).alloc (Nat.le_refl _) _).alloc (by simp) _).alloc (by simp; omega) _
 have hsD : wD.heap.size = wA.heap.size + 3 := by rw [hD]; simp
 have x0 : wD.cell? ⟨wA.heap.size, 0, none⟩ = some (.pointer (some ⟨f, 0, none⟩)) := by rw [hD]; exact cell_of_block (block_alloc (block_alloc (block_new wA _) _) _) 0
 have x1 : wD.cell? ⟨wA.heap.size + 1, 0, none⟩ = some (.int .i64 a) := by
  have h1 := block_new (wA.alloc (.cells #[.pointer (some ⟨f, 0, none⟩)] 112)) (.cells #[.int .i64 a] 3)
  rw [World.size_alloc] at h1
  rw [hD]; exact cell_of_block (block_alloc h1 _) 0
 have x2 : wD.cell? ⟨wA.heap.size + 1 + 1, 0, none⟩ = some (.int .i64 z) := by
  have h1 := block_new ((wA.alloc (.cells #[.pointer (some ⟨f, 0, none⟩)] 112)).alloc (.cells #[.int .i64 a] 3)) (.cells #[.int .i64 z] 3)
  rw [World.size_alloc, World.size_alloc] at h1
  rw [hD]; exact cell_of_block h1 0
 have HDB := hid hDB
 have HsD := hid hsD
 have hws := HAs.out
 have HFD := hid (HF.out.below hDB)
 have HMD := hid (HMp.out.below hDB)
 have HPD := hid (HPc.out.keep (Keeps.of_below hDB))
 have HR0 := hid (below_block hDB HA0.out (lt_of_heap HA0.out))
 have HR1 := hid (below_block hDB HA1.out (lt_of_heap HA1.out))
 have HSt := hid (iparts_stops 7 (by omega) wA.heap.size (wA.heap.size + 1) (wA.heap.size + 1 + 1) f m a z S HS.out (fun i => F i \/ i = w.heap.size + 1 \/ wD.heap.size <= i) hz (by omega) wD
  (fun hh => by rcases hh with hh | hh | hh; (have := HFl.out _ hh; omega); omega; omega) (fun hh => by rcases hh with hh | hh | hh; (have := HFl.out _ hh; omega); omega; omega) (fun hh => by rcases hh with hh | hh | hh; (have := HFl.out _ hh; omega); omega; omega)
  (fun hh => by rcases hh with hh | hh | hh; exact hfF hh; omega; omega) HFD.out x0 x1 x2 (fillN z - a / 512) rfl)
 clear hD hDB hsD x0 x1 x2 HF HMp HPc HA0 HA1 hws
 gi_wp2
 generalize hM : fillN z - a / 512 = M at *
 have HMM := hid hM
 clear hM
 refine wpIn_rangeFunc_ownH rfl (by omega) (gf := 153) (lb := #[.pointer (some ⟨wA.heap.size + 1, 0, none⟩), .pointer (some ⟨wA.heap.size + 1 + 1, 0, none⟩), .pointer (some ⟨wA.heap.size, 0, none⟩)]) rfl trivial (enters_of Tryz.func153 (by kernel_rfl) rfl)
  HSt.out (fun h k => keepsK_t h k) (keepsK_b (fun i h => .inr (.inr h))) (Below.refl _ _) (fun _ => rfl)
  (fun pre W => Hid (fileB W f m S) /\ Hid (mapB W m c ino) /\ Hid (PcB W w.heap.size c F size N Pg Cm D o (u + pre.length)) /\
   Hid (boxY W (w.heap.size + 1) wD.heap.size (partsL S.slots a z Pg (pre.map (fun x : Fin M => a / 512 + x.val)))) /\ Hid (Keeps (fun i => F i \/ i = w.heap.size + 1) wD W))
  (fun _ _ _ => False)
  (fun s A B row hs hgr hr => ⟨grown_block hgr hs.1.out (fun e => by obtain ⟨-, ob, h1, h2⟩ := hr _ e; have h3 := hs.1.out; unfold fileB at h3; rw [h3] at h1; cases h1; cases h2), grown_block hgr hs.2.1.out (fun e => by obtain ⟨-, ob, h1, h2⟩ := hr _ e; have h3 := hs.2.1.out; unfold mapB at h3; rw [h3] at h1; cases h1; cases h2), ?own1, ?own2, ?own3⟩)
  (fun cd s A B row hs hgr hr => hs)
  ⟨HFD, HMD, HPD, ?st, Keeps.refl _ _⟩
  (fun x a' W => ∃ pb, wD.heap.size <= pb /\ a' = { tmps := #[.pointer (some ⟨f, 0, none⟩), .int .i64 a, .int .i64 z, .pointer (some ⟨w.heap.size, 0, none⟩), undef, undef, .slice none 0 0, .pointer (some ⟨w.heap.size + 1, 0, none⟩), .int .i64 (S.slots.getD (dslot (a / 512 + x.val)) 0 : Nat), .pointer (some ⟨pb, 0, none⟩), .pointer (some ⟨f, 0, none⟩), .int .i64 a, .int .i64 z, .func (.func 153) #[] #[.pointer (some ⟨wA.heap.size + 1, 0, none⟩), .pointer (some ⟨wA.heap.size + 1 + 1, 0, none⟩), .pointer (some ⟨wA.heap.size, 0, none⟩)], .int .i64 (S.slots.getD (dslot (a / 512 + x.val)) 0 : Nat), .agg #[.int .i64 (a - (a / 512 + x.val) * 512 : Nat), .int .i64 (min (z - (a / 512 + x.val) * 512) 512 : Nat)], undef, undef, undef, undef, undef, undef, undef, undef, undef, undef, undef, undef, undef, undef], defers := [] } /\ W.heap[pb]? = some (.cells #[.int .i64 (a - (a / 512 + x.val) * 512 : Nat), .int .i64 (min (z - (a / 512 + x.val) * 512) 512 : Nat)] 171 (0, 0))) (fun x a' s A B row hs hgr hr => ?own4) ?assign ?body ?done ?stop
 case assign =>
  rintro l1 pre x W K hI hK
  have HK := hid hK
  have HI := hid hI
  clear hK hI
  unfold partV
  obtain ⟨a1, ha1⟩ : ∃ a1 : Int, a1 = ((S.slots.getD (dslot (a / 512 + x.val)) 0 : Nat) : Int) := ⟨_, rfl⟩
  obtain ⟨a2, ha2⟩ : ∃ a2 : Int, a2 = ((a - (a / 512 + x.val) * 512 : Nat) : Int) := ⟨_, rfl⟩
  obtain ⟨a3, ha3⟩ : ∃ a3 : Int, a3 = ((min (z - (a / 512 + x.val) * 512) 512 : Nat) : Int) := ⟨_, rfl⟩
  rw [<- ha1, <- ha2, <- ha3]
  have HA123 := hid (And.intro ha1 (And.intro ha2 ha3))
  clear ha1 ha2 ha3
  gi_wp2
  obtain ⟨rfl, rfl, rfl⟩ := HA123.out
  obtain ⟨i1, i2, i3, i4, i5⟩ := HI.out
  have hwD := i5.out.size
  have hba : Below W.heap.size W (W.alloc (.cells #[.int .i64 (a - (a / 512 + x.val) * 512 : Nat), .int .i64 (min (z - (a / 512 + x.val) * 512) 512 : Nat)] 171)) := (Below.refl _ W).alloc (Nat.le_refl _) _
  refine HK.out _ _ ⟨by simp, fun i ob hi ho _ => block_alloc ho _⟩ (Keeps.of_below hba) ⟨i1.out.below hba, i2.out.below hba, i3.out.keep (Keeps.of_below hba), ?_, i5.out.trans (Keeps.of_below hba : Keeps (fun _ => False) W _) (fun i e => e.elim)⟩ ⟨W.heap.size, hwD, rfl, block_new W _⟩
  obtain ⟨v, h1, h2⟩ := i4.out
  exact ⟨v, below_block hba h1 (lt_of_heap h1), (Keeps.of_below hba : Keeps (fun _ => False) W _).row h2 (fun _ _ h => h)⟩
 case body =>
  rintro l1 pre x a' W hl1 hrec ⟨HFw, HMw, HPw, HBw, HKw⟩ ⟨pb, hpb, rfl, hpW⟩ hlt
  obtain ⟨v, hv1, hv2⟩ := HBw.out
  have hsD := HsD.out
  have hsA := HAs.out
  have hx := x.isLt
  have hMM := HMM.out
  have hnw : ∀ i, w.heap.size <= i -> ¬ F i := fun i hi hh => by have := HFl.out i hh; omega
  have c0b := HKw.out.heap HR0.out (fun hh => hh.elim (hnw _ (Nat.le_refl _)) (fun e => by omega))
  obtain ⟨pn, hpn⟩ : ∃ pn, pn = S.slots.getD (dslot (a / 512 + x.val)) 0 := ⟨_, rfl⟩
  obtain ⟨fa, hfa⟩ : ∃ fa, fa = a - (a / 512 + x.val) * 512 := ⟨_, rfl⟩
  obtain ⟨fz, hfz⟩ : ∃ fz, fz = min (z - (a / 512 + x.val) * 512) 512 := ⟨_, rfl⟩
  have hpN : pn < N := by rw [hpn]; exact HSl.out _ (by omega) (by omega)
  have HNx : Hid (partsL S.slots a z Pg ((pre ++ [x]).map (fun x : Fin M => a / 512 + x.val)) = partsL S.slots a z Pg (pre.map (fun x : Fin M => a / 512 + x.val)) ++ ((Pg pn).drop fa).take (fz - fa)) := by
   unfold Hid partsL
   rw [List.map_append, List.flatMap_append, List.map_singleton, List.flatMap_singleton]
   unfold partL
   rw [hpn, hfa, hfz]
  obtain ⟨xs, hxs⟩ : ∃ xs, xs = partsL S.slots a z Pg (pre.map (fun x : Fin M => a / 512 + x.val)) := ⟨_, rfl⟩
  rw [<- hpn, <- hfa, <- hfz]
  rw [<- hfa, <- hfz] at hpW
  rw [<- hxs] at HNx hv2
  have hk1 : (a / 512 + x.val) * 512 < z := by unfold fillN at hMM; omega
  have hq1 : fa <= fz := by omega
  have hq2 : fz <= 512 := by omega
  have hq3 : (fz : Int) <= 512 := by omega
  have hq4 : ¬ (512 = fa) := by omega
  have hxl : xs.length <= 512 * pre.length := by
   rw [hxs]; unfold partsL
   clear hxs hv2 HNx hlt HPw HBw hv1
   induction pre with
   | nil => simp
   | cons y ys ih =>
    rw [List.map_cons, List.flatMap_cons, List.length_append, List.length_cons]
    have h1 : (partL S.slots a z Pg (a / 512 + y.val)).length <= 512 := by unfold partL; rw [List.length_take]; omega
    have h2 := ih
    omega
  have hM1 : M <= 138 := by unfold fillN at hMM; omega
  have HPg := hid (fun V (hV : Below W.heap.size W V) => ipage_pb (HMw.out.below hV) pn hpN (show u + pre.length < 1000000 by omega) (HPw.out.keep (Keeps.of_below hV)))
  have HLn := hid (HPw.out.pc.len pn hpN)
  have HV1 := hid hv1
  have HV2 := hid hv2
  have HC0 := hid c0b
  have HPW := hid hpW
  have HXl := hid hxl
  have HM1 := hid hM1
  have HLt := hid hlt
  have hbd : Below W.heap.size W W.drew := (Below.refl _ W).drew
  have q0 : W.drew.cell? ⟨w.heap.size + 1, 0, none⟩ = some v := cell_of_block (below_block hbd hv1 (lt_of_heap hv1)) 0
  have q1 : W.drew.cell? ⟨w.heap.size, 0, none⟩ = some (.pointer (some ⟨f, 0, none⟩)) := cell_of_block (below_block hbd c0b (lt_of_heap c0b)) 0
  obtain ⟨q2, -⟩ := (HFw.out.below hbd).head
  have q3 : W.drew.cell? ⟨pb, 0, none⟩ = some (.int .i64 fa) := cell_of_block (below_block hbd hpW (lt_of_heap hpW)) 0
  have q4 : W.drew.cell? ⟨pb, 1, none⟩ = some (.int .i64 fz) := cell_of_block (below_block hbd hpW (lt_of_heap hpW)) 1
  have hpbW := lt_of_heap hpW
  have HBd := hid hbd
  have HPg2 := hid (HPg.out W.drew hbd)
  unfold gV at HPg2
  clear HPg hbd hpW c0b hv1 hv2 hxs hpn hfa hfz hMM hx hxl hM1 hk1 hsD hlt HBw
  refine wpIn_block ?_
  refine wpInR_drewL 13 (S := fun V => V.cell? ⟨w.heap.size + 1, 0, none⟩ = some v /\ V.cell? ⟨w.heap.size, 0, none⟩ = some (.pointer (some ⟨f, 0, none⟩)) /\ V.cell? ⟨f, 0, none⟩ = some (.pointer (some ⟨m, 0, none⟩)) /\ V.cell? ⟨pb, 0, none⟩ = some (.int .i64 fa) /\ V.cell? ⟨pb, 1, none⟩ = some (.int .i64 fz)) (by kernel_rfl) (by kernel_rfl) ⟨q0, q1, q2, q3, q4⟩ (fun hHeld => ?_)
  generalize W.drew = wd at *
  refine wpAnyL_take (hwt := by kernel_rfl) (i := 0) (v := ?_) rfl (by kernel_rfl) (by kernel_rfl) (by kernel_rfl) (fun _ _ _ h => h) (Or.inl ⟨by rfl, ?_⟩) (by assumption) ?_
  rotate_left
  ·(intro W h; (try dsimp only at h); obtain ⟨s0, s1, s2, s3, s4⟩ := h; go_simp; try with_reducible rfl)
  try simp only [tS]
  refine wpAnyL_take (hwt := by kernel_rfl) (i := 1) (v := ?_) rfl (by kernel_rfl) (by kernel_rfl) (by kernel_rfl) (fun _ _ _ h => h) (Or.inl ⟨by rfl, ?_⟩) (by assumption) ?_
  rotate_left
  ·(intro W h; (try dsimp only at h); obtain ⟨s0, s1, s2, s3, s4⟩ := h; go_simp; try with_reducible rfl)
  try simp only [tS]
  refine wpAnyL_take (hwt := by kernel_rfl) (i := 2) (v := ?_) rfl (by kernel_rfl) (by kernel_rfl) (by kernel_rfl) (fun _ _ _ h => h) (Or.inl ⟨by rfl, ?_⟩) (by assumption) ?_
  rotate_left
  ·(intro W h; (try dsimp only at h); obtain ⟨s0, s1, s2, s3, s4⟩ := h; go_simp; try with_reducible rfl)
  try simp only [tS]
  refine wpAnyL_take (hwt := by kernel_rfl) (i := 3) (v := ?_) rfl (by kernel_rfl) (by kernel_rfl) (by kernel_rfl) (fun _ _ _ h => h) (Or.inl ⟨by rfl, ?_⟩) (by assumption) ?_
  rotate_left
  ·(intro W h; (try dsimp only at h); obtain ⟨s0, s1, s2, s3, s4⟩ := h; go_simp; try with_reducible rfl)
  try simp only [tS]
  refine wpAnyL_take (hwt := by kernel_rfl) (i := 4) (v := ?_) rfl (by kernel_rfl) (by kernel_rfl) (by kernel_rfl) (fun _ _ _ h => h) (Or.inl ⟨by rfl, ?_⟩) (by assumption) ?_
  rotate_left
  ·(intro W h; (try dsimp only at h); obtain ⟨s0, s1, s2, s3, s4⟩ := h; go_simp; try with_reducible rfl)
  try simp only [tS]
  refine wpAnyL_take (hwt := by kernel_rfl) (i := 5) (v := ?_) rfl (by kernel_rfl) (by kernel_rfl) (by kernel_rfl) (fun _ _ _ h => h) (Or.inl ⟨by rfl, ?_⟩) (by assumption) ?_
  rotate_left
  ·(intro W h; (try dsimp only at h); obtain ⟨s0, s1, s2, s3, s4⟩ := h; go_simp; try with_reducible rfl)
  try simp only [tS]
  refine wpAnyL_take (hwt := by kernel_rfl) (i := 7) (v := ?_) rfl (by kernel_rfl) (by kernel_rfl) (by kernel_rfl) (fun _ _ _ h => h) (Or.inl ⟨by rfl, ?_⟩) (by assumption) ?_
  rotate_left
  ·(intro W h; (try dsimp only at h); obtain ⟨s0, s1, s2, s3, s4⟩ := h; go_simp; try with_reducible rfl)
  try simp only [tS]
  refine wpAnyL_take (hwt := by kernel_rfl) (i := 8) (v := ?_) rfl (by kernel_rfl) (by kernel_rfl) (by kernel_rfl) (fun _ _ _ h => h) (Or.inl ⟨by rfl, ?_⟩) (by assumption) ?_
  rotate_left
  ·(intro W h; (try dsimp only at h); obtain ⟨s0, s1, s2, s3, s4⟩ := h; go_simp; try with_reducible rfl)
  try simp only [tS]
  refine wpAnyL_take (hwt := by kernel_rfl) (i := 9) (v := ?_) rfl (by kernel_rfl) (by kernel_rfl) (by kernel_rfl) (fun _ _ _ h => h) (Or.inl ⟨by rfl, ?_⟩) (by assumption) ?_
  rotate_left
  ·(intro W h; (try dsimp only at h); obtain ⟨s0, s1, s2, s3, s4⟩ := h; go_simp; try with_reducible rfl)
  try simp only [tS]
  refine wpAnyL_take (hwt := by kernel_rfl) (i := 10) (v := ?_) rfl (by kernel_rfl) (by kernel_rfl) (by kernel_rfl) (fun _ _ _ h => h) (Or.inl ⟨by rfl, ?_⟩) (by assumption) ?_
  rotate_left
  ·(intro W h; (try dsimp only at h); obtain ⟨s0, s1, s2, s3, s4⟩ := h; go_simp; try with_reducible rfl)
  try simp only [tS]
  refine wpAnyL_one (i := 6) (by kernel_rfl) rfl (fun K hK => ?_)
  rw [if_pos (by rfl)]
  go_simp
  refine HPg2.out.mono ?_
  clear HPg2
  rintro e W2 ⟨g, rfl, hg, ho2, hk2, hp2⟩
  have hsD := HsD.out
  have hWD := HKw.out.size
  have hdW := HBd.out.size
  have kW2 : Keeps F W W2 := (Keeps.of_below HBd.out : Keeps F W wd).trans hk2 (fun i e => .inl e)
  have v2 := kW2.heap HV1.out (hnw _ (by omega))
  have r0 : W2.cell? ⟨w.heap.size + 1, 0, none⟩ = some v := cell_of_block v2 0
  have r1 : W2.cell? ⟨w.heap.size, 0, none⟩ = some (.pointer (some ⟨f, 0, none⟩)) := cell_of_block (kW2.heap HC0.out (hnw _ (Nat.le_refl _))) 0
  obtain ⟨r2, -⟩ := (HFw.out.keep kW2 hfF).head
  have p2 := kW2.heap HPW.out (hnw _ (by omega))
  have r3 : W2.cell? ⟨pb, 0, none⟩ = some (.int .i64 fa) := cell_of_block p2 0
  have r4 : W2.cell? ⟨pb, 1, none⟩ = some (.int .i64 fz) := cell_of_block p2 1
  have hrow2 : rowY W2 wD.heap.size v xs := kW2.row HV2.out (fun i e hh => hnw i (by have := (rowY.ge HV2.out e).1; omega) hh)
  have HRo2 := hid hrow2
  have HV2b := hid v2
  have HP2 := hid hp2
  have HO2 := hid ho2
  have HK2 := hid kW2
  have HPb2 := hid p2
  clear hk2 kW2 v2 p2 hrow2 ho2 hp2 q0 q1 q2 q3 q4
  go_wp2_with fail
  refine hK.out _ _ (fun _ => ⟨r0, r1, r2, r3, r4⟩) (fun hHeld6 => ?_)
  have hHeld := hHeld6 (by decide)
  clear hK K hHeld6
  try simp only [tS]
  refine wpAnyL_take (hwt := by kernel_rfl) (i := 11) (v := .slice (some ⟨g, fa, none⟩) (fz - fa) (512 - fa)) rfl (by kernel_rfl) (by kernel_rfl) (by kernel_rfl) (fun _ _ _ h => h) (Or.inl ⟨by rfl, ?_⟩) (by assumption) ?_
  ·(intro W h; (try dsimp only at h); obtain ⟨s0, s1, s2, s3, s4⟩ := h; go_simp; try first | with_reducible rfl | go_num | (rw [if_pos (by assumption)]; simp only [*]) | simp only [*])
  try simp only [tS]
  refine wpAnyL_one (i := 12) (by kernel_rfl) rfl (fun K hK => ?_)
  rw [if_pos (by rfl)]
  have hby : bytesAt W2 ⟨g, fa, none⟩ (((Pg pn).drop fa).take (fz - fa)) := fun j hj => by
   have hj1 : j < fz - fa := by rw [List.length_take] at hj; omega
   have h1 := HO2.out.cell (fa + j) (by rw [HLn.out]; omega)
   rw [Addr.add_mid, h1, List.getElem_take, List.getElem_drop]
  refine wp_append_bytes (.tmp 16) (.tmp 27) rfl rfl ⟨g, fa, none⟩ (fz - fa) (512 - fa) rfl HRo2.out _ (by rw [List.length_take, List.length_drop, HLn.out]; omega) hby (by have h1 := HXl.out; have h2 := HM1.out; have h3 := HLt.out; omega) (by have := HK2.out.size; omega) ?_
  intro ag9 n9 cap9 w9 hr9 hg9
  have k9 : Keeps (fun i => v.ownBlock = some i) W2 w9 := Keeps.of_grown hg9 (fun i e => e)
  have hge : ∀ i, v.ownBlock = some i -> wD.heap.size <= i := fun i e => (rowY.ge HRo2.out e).1
  have hv9 := k9.heap HV2b.out (fun e => by have := hge _ e; omega)
  have t0 : w9.cell? ⟨w.heap.size + 1, 0, none⟩ = some v := cell_of_block hv9 0
  have f9 : w9.frozen? ⟨w.heap.size + 1, 0, none⟩ = false := frozen_of_block hv9 0
  have t1 := k9.cell r1 (fun e => by have e' : v.ownBlock = some w.heap.size := e; have := hge _ e'; omega)
  have t2 := k9.cell r2 (fun e => by have e' : v.ownBlock = some f := e; have := hge _ e'; omega)
  have hnpb : ¬ v.ownBlock = some pb := fun e => by
   obtain ⟨cs, h1⟩ := (rowY.ge HRo2.out e).2
   rw [HPb2.out] at h1
   simp only [Option.some.injEq, Obj.cells.injEq] at h1
   exact absurd h1.2.1 (by decide)
  have t3 := k9.cell r3 (fun e => hnpb e)
  have t4 := k9.cell r4 (fun e => hnpb e)
  have HV9 := hid hv9
  have HR9 := hid hr9
  have HK9 := hid k9
  have HGe := hid hge
  clear hv9 hr9 hg9 k9 r0 r1 r2 r3 r4 hby hge
  refine hK.out _ _ (fun _ => ⟨t0, t1, t2, t3, t4⟩) (fun hHeld8 => ?_)
  have hHeld := hHeld8 (by decide)
  clear hK K hHeld8
  try simp only [tS]
  refine wpAnyL_one (i := 13) (by kernel_rfl) rfl (fun K hK => ?_)
  rw [if_pos (by rfl)]
  go_simp
  refine hK.out _ _ (fun hne => absurd rfl hne) (fun _ => ?_)
  clear hK K
  refine wpAnyL_done (by kernel_rfl) ?_ _
  refine JustN.normal ?_
  have kb : Keeps (fun i => i = w.heap.size + 1) w9 (w9.setCell ⟨w.heap.size + 1, 0, none⟩ (.slice ag9 n9 cap9)) := (Keeps.refl _ _).grown (grown_setCell (grown_refl _ _) _ _) (fun i e => .inl (Option.some.inj e).symm)
  have hvb := block_setCell HV9.out 0 (.slice ag9 n9 cap9)
  generalize w9.setCell ⟨w.heap.size + 1, 0, none⟩ (.slice ag9 n9 cap9) = wF at *
  have k2F : Keeps (fun i => v.ownBlock = some i \/ i = w.heap.size + 1) W2 wF := (HK9.out.mono (fun i e => .inl e)).trans kb (fun i e => .inl (.inr e))
  have k2B : Keeps (fun i => w.heap.size <= i) W2 wF := k2F.mono (fun i e => e.elim (fun e => by have := HGe.out i e; show w.heap.size <= i; omega) (fun e => by show w.heap.size <= i; omega))
  have kWF : Keeps (fun i => F i \/ v.ownBlock = some i \/ i = w.heap.size + 1) W wF := (HK2.out.mono (fun i e => .inl e)).trans k2F (fun i e => .inl (.inr e))
  have hnf : ∀ j, j < w.heap.size -> ¬ F j -> ¬ (F j \/ v.ownBlock = some j \/ j = w.heap.size + 1) := fun j hj hF hh => by
   rcases hh with hh | hh | hh
   ·exact hF hh
   ·have := HGe.out j hh; omega
   ·omega
  refine ⟨⟨kWF.size, fun i ob hi ho hn => ?_⟩, kWF.mono (fun i e => by rcases e with e | e | e; exact .inl e; exact .inr (.inr (HGe.out i e)); exact .inr (.inl e)), HFw.out.keep kWF (hnf f hfl hfF), HMw.out.keep kWF (hnf m hml hmF), ?_, ?_, HKw.out.trans kWF (fun i e => by rcases e with e | e | e; exact .inl (.inl e); exact .inr (HGe.out i e); exact .inl (.inr e))⟩
  ·refine kWF.heap ho (fun hh => ?_)
   rcases hh with hh | hh | hh
   ·exact hnw i (by omega) hh
   ·obtain ⟨cs, h1⟩ := (rowY.ge HV2.out hh).2
    rw [ho] at h1; cases h1; cases hn
   ·omega
  ·have h1 := HP2.out.keep k2B
   rw [show u + (pre ++ [x]).length = u + pre.length + 1 by rw [List.length_append, List.length_singleton, Nat.add_assoc]]
   exact h1
  ·unfold Hid boxY
   rw [HNx.out]
   exact ⟨_, hvb, kb.row HR9.out (fun i e => by have h1 := (rowY.ge HR9.out e).1; show ¬ i = w.heap.size + 1; omega)⟩
 case own1 => exact hs.2.2.1.out.keep (Keeps.of_grown hgr (fun i e => by have h1 := (hr i e).1; have h2 := HsD.out; have h3 := HAs.out; show w.heap.size <= i; omega))
 case own2 =>
  obtain ⟨v, h1, h2⟩ := hs.2.2.2.1.out
  have kk : Keeps (fun i => row = some i) A B := Keeps.of_grown hgr (fun i e => e)
  have hne : ∀ {i : Nat} {cs : Array Value} {t : TypeId} {fr : Nat × Nat}, A.heap[i]? = some (.cells cs t fr) -> ¬ row = some i := fun {i cs t fr} hc e => by
   obtain ⟨-, ob, h4, h5⟩ := hr _ e
   rw [hc] at h4; cases h4; cases h5
  refine ⟨v, kk.heap h1 (hne h1), kk.row h2 (fun i hi => ?_)⟩
  obtain ⟨cs, hb⟩ := (rowY.ge h2 hi).2
  exact hne hb
 case own3 => exact hs.2.2.2.2.out.trans (Keeps.of_grown hgr (F := fun i => row = some i) (fun i e => e)) (fun i e => .inr (hr i e).1)
 case st => exact ⟨_, HR1.out, World.ownsRow_nil _ _ _ _⟩
 case own4 =>
  obtain ⟨pb, h1, h2, h3⟩ := hs
  exact ⟨pb, h1, h2, grown_block hgr h3 (fun e => by obtain ⟨-, ob, h4, h5⟩ := hr _ e; rw [h3] at h4; cases h4; cases h5)⟩
 case done =>
  rintro D1 ys W hD1 hys ⟨HFw, HMw, HPw, HBw, HKw⟩ hK1
  have hyl : ys.length = M := by
   have h1 := congrArg List.length hys
   rw [List.length_map, length_upTo, HMM.out] at h1
   exact h1
  rw [hys] at HBw
  rw [hyl] at HPw
  obtain ⟨v, hv1, hv2⟩ := HBw.out
  have c0 : W.cell? ⟨w.heap.size + 1, 0, none⟩ = some v := cell_of_block hv1 0
  have HV2 := hid hv2
  have HKD := hid hK1
  have HHD := hid hD1
  clear hys hyl hv1 hv2 hK1 HBw HSt hD1
  gi_wp2
  have hD1 := HHD.out
  have hWD := HKw.out.size
  have hsA := HAs.out
  have hsD := HsD.out
  have hM1 : M <= 138 := by have := HMM.out; unfold fillN at this; omega
  have hg5 := grownBy_putObj' W D1 (.deferred none)
  have k5 : Keeps (fun i => some D1 = some i) W (W.putObj D1 (.deferred none)) := Keeps.of_grown hg5 (fun i e => e)
  have hb0 : Below w.heap.size w wD := HAB.out.trans (HDB.out.mono HAB.out.size)
  have hr5 := k5.row HV2.out (fun i e e2 => by
   cases e2
   obtain ⟨cs, h1⟩ := (rowY.ge HV2.out e).2
   rw [HKD.out] at h1; cases h1)
  refine ⟨by simp, .inl ⟨_, _, rfl, run_takeDeferred HKD.out, ?_⟩⟩
  refine ⟨_, results_ifread rfl, ?_⟩
  refine ⟨_, rfl, rowY.down hr5 (by have h1 := hb0.size; omega), ?_, ?_⟩
  ·exact (((Keeps.of_below hb0 : Keeps F w wD).trans HKw.out (fun i e => e.elim .inl (fun e => .inr (by omega)))).trans k5 (fun i e => .inr (by cases e; omega)))
  ·exact (HPw.out.keep (k5.mono (fun i e => by cases e; show w.heap.size <= D1; omega))).pc.more (Nat.le_refl _) (by omega)
 case stop =>
  intro D c pre W hD hpre hx
  exact hx.elim
end
end
section
set_option maxRecDepth 100000
open Go.RowKit
theorem getD_partL {sl : List Nat} {a z k : Nat} {Pg : Nat -> List UInt8} (j : Nat) (hj : j < min (z - k * 512) 512 - (a - k * 512)) : (partL sl a z Pg k).getD j 0 = (Pg (sl.getD (dslot k) 0)).getD (a - k * 512 + j) 0 := by
 unfold partL
 rw [getD_take _ _ _ hj, getD_drop]
theorem length_partL {sl : List Nat} {a z k : Nat} {Pg : Nat -> List UInt8} (hL : (Pg (sl.getD (dslot k) 0)).length = 512) : (partL sl a z Pg k).length = min (z - k * 512) 512 - (a - k * 512) := by
 unfold partL
 rw [List.length_take, List.length_drop, hL]
 omega
section
variable {sk : Nat -> Prop} {N ino : Nat} {Pg : Nat -> List UInt8} {fs : Nat -> Option FileA} {i : Nat} {f : FileA}
theorem GoodX.parts (h : GoodX sk N ino Pg fs) (hf : fs i = some f) (a z : Nat) (haz : a < z) (hz : z <= f.data.length) : ∀ d, a / 512 + d <= fillN z -> partsL f.slots a z Pg (upTo (a / 512) (a / 512 + d)) = (f.data.drop a).take (min z ((a / 512 + d) * 512) - a)
 | 0, _ => by
  rw [Nat.add_zero, upTo_none, show min z (a / 512 * 512) - a = 0 by omega, List.take_zero]
  rfl
 | d + 1, hd => by
  have ih := GoodX.parts h hf a z haz hz d (by omega)
  have hok := h.file i f hf
  have hkz : (a / 512 + d) * 512 < z := by unfold fillN at hd; omega
  have hat := h.at_ hf (k := (a / 512 + d) * 512) (by omega)
  rw [Nat.mul_div_cancel _ (by omega)] at hat
  have hL : (Pg (f.slots.getD (dslot (a / 512 + d)) 0)).length = 512 := h.len _ (hok.in_ _ hat.1).2
  rw [<- Nat.add_assoc, upTo_succ (by omega)]
  have e1 : partsL f.slots a z Pg (upTo (a / 512) (a / 512 + d) ++ [a / 512 + d]) = partsL f.slots a z Pg (upTo (a / 512) (a / 512 + d)) ++ partL f.slots a z Pg (a / 512 + d) := by
   unfold partsL; rw [List.flatMap_append, List.flatMap_singleton]
  rw [e1, ih]
  have hl1 : ((f.data.drop a).take (min z ((a / 512 + d) * 512) - a)).length = (a / 512 + d) * 512 - a := by rw [List.length_take, List.length_drop]; omega
  have hl2 := length_partL (z := z) (a := a) hL
  refine List.ext_getElem (by rw [List.length_append, hl1, hl2, List.length_take, List.length_drop]; omega) (fun j h1 h2 => ?_)
  have hj : j < min z ((a / 512 + d + 1) * 512) - a := by rw [List.length_take, List.length_drop] at h2; omega
  rw [List.getElem_take, List.getElem_drop]
  by_cases hc : j < (a / 512 + d) * 512 - a
  ·rw [List.getElem_append_left (by rw [hl1]; exact hc), List.getElem_take, List.getElem_drop]
  ·rw [List.getElem_append_right (by rw [hl1]; omega)]
   have hq : j - ((a / 512 + d) * 512 - a) < min (z - (a / 512 + d) * 512) 512 - (a - (a / 512 + d) * 512) := by omega
   have g1 := getD_partL (sl := f.slots) (Pg := Pg) (k := a / 512 + d) (z := z) (a := a) (j - ((a / 512 + d) * 512 - a)) hq
   have hlt : j - ((f.data.drop a).take (min z ((a / 512 + d) * 512) - a)).length < (partL f.slots a z Pg (a / 512 + d)).length := by rw [hl1, hl2]; exact hq
   have g2 : (partL f.slots a z Pg (a / 512 + d))[j - ((f.data.drop a).take (min z ((a / 512 + d) * 512) - a)).length] = (partL f.slots a z Pg (a / 512 + d)).getD (j - ((a / 512 + d) * 512 - a)) 0 := by
    rw [List.getD_eq_getElem?_getD, List.getElem?_eq_getElem (by rw [hl2]; exact hq)]
    simp only [hl1, Option.getD_some]
   rw [g2, g1]
   have hda := h.data i f hf (a + j) (by omega)
   have e2 : (a + j) / 512 = a / 512 + d := by omega
   have e3 : (a + j) % 512 = a - (a / 512 + d) * 512 + (j - ((a / 512 + d) * 512 - a)) := by omega
   rw [e2, e3] at hda
   unfold FileA.slot at hda
   rw [hda, List.getD_eq_getElem?_getD, List.getElem?_eq_getElem (by omega)]
   rfl
end
section
variable {w w' : World} {s m c ino : Nat} {F : Nat -> Prop} {N : Nat} {Pg Cm : Nat -> List UInt8} {fs : Nat -> Option FileA} {o u : Nat} {i : Nat} {f : FileA}
theorem iRead_none (h : St w s m c F N ino Pg Cm fs o u) (hf : fs i = some f) (hu : u < 900000) (a n : Nat) (ha : f.data.length <= a) :
  Calls Tryz.prog 16 #[.pointer (some ⟨s, 0, none⟩), .int .i64 i, .int .i64 a, .int .i64 n] w fun e w' => e = .returned (.tuple #[.slice none 0 0, .int .i64 0]) /\ Keeps F w w' /\ St w' s m c F N ino Pg Cm fs o (u + 2) := by
 have HGt := hid (iGet_st h hf (by omega))
 have hok := h.good.file i f hf
 have hnf := h.good.nf
 have HNl : Hid ((nodeC f.node).length = 15) := by unfold Hid nodeC; rw [List.length_append, List.length_map, (hok.node (by omega) h.good.n4).pages]; rfl
 have HN3 : Hid ((nodeC f.node)[3]? = some (.int .i64 f.data.length)) := rfl
 have HFl := hid h.lt
 have ha0 : ¬ ((a : Int) < 0) := by omega
 have hn0 : ¬ ((n : Int) < 0) := by omega
 have hz : (f.data.length : Int) <= (a : Int) := by omega
 unfold nodeV at HGt
 clear h hf hok hnf
 have hnc1 := nodeC_one f.node
 generalize nodeC f.node = nc at *
 have HN1 := hid hnc1
 clear hnc1
 go_enter Tryz.func16, Tryz.ntmps16
 go_wp2_with fail
 refine HGt.out.mono ?_
 clear HGt
 rintro e w1 ⟨rfl, hk1, hs1⟩
 have HS1 := hid hs1
 have HK1 := hid hk1
 clear hk1 hs1
 go_wp2_with (refine wpList_store_block rfl 51 (.tmp 10) (.tmp 16) rfl w1.heap.size nc.toArray rfl rfl _ _ (block_new w1 _) (by rw [List.size_toArray, HNl.out]; rfl) (by rw [List.size_toArray, HNl.out]; kernel_rfl) HN1.out ?_; intro w2 hg2 hb2 hz2; have c3 : w2.cell? ⟨w1.heap.size, 3, none⟩ = some (.int .i64 f.data.length) := (by rw [cell_of_block hb2, List.getElem?_toArray]; exact HN3.out); have hb12 : Below w1.heap.size w1 w2 := ((Below.refl _ w1).alloc (Nat.le_refl _) _).grown hg2 (by simp) (fun k e => by cases e; exact Nat.le_refl _); have HB12 := hid hb12; have HR2 := hid hb2; clear hg2 hb2 hz2 hb12)
 go_returns
 exact ⟨rfl, HK1.out.trans (Keeps.of_below HB12.out : Keeps F w1 w2) (fun i e => .inl e), HS1.out.below HB12.out⟩
theorem iRead_st (h : St w s m c F N ino Pg Cm fs o u) (hf : fs i = some f) (hu : u < 900000) (a n : Nat) (ha : a < f.data.length) (hn7 : n <= 9223372036854775807) :
  Calls Tryz.prog 16 #[.pointer (some ⟨s, 0, none⟩), .int .i64 i, .int .i64 a, .int .i64 n] w fun e w' => ∃ v, e = .returned (.tuple #[v, .int .i64 0]) /\ rowY w' w.heap.size v ((f.data.drop a).take n) /\ Keeps F w w' /\ St w' s m c F N ino Pg Cm fs o (u + 141) := by
 obtain ⟨z, hz⟩ : ∃ z, z = a + min n (f.data.length - a) := ⟨_, rfl⟩
 have hok := h.good.file i f hf
 have hnf := h.good.nf
 have hsz := hok.size
 have hgp : partsL f.slots a z Pg (upTo (a / 512) (fillN z)) = (f.data.drop a).take n := by
  by_cases hn : n = 0
  ·subst hn
   rw [List.take_zero]
   unfold partsL
   refine List.flatMap_eq_nil_iff.2 (fun k _ => ?_)
   unfold partL
   rw [hz, show min (a + min 0 (f.data.length - a) - k * 512) 512 - (a - k * 512) = 0 by omega, List.take_zero]
  ·have hgp := h.good.parts hf a z (by omega) (by omega) (fillN z - a / 512) (by unfold fillN; omega)
   rw [show a / 512 + (fillN z - a / 512) = fillN z by unfold fillN; omega, show min z (fillN z * 512) - a = min n (f.data.length - a) by unfold fillN; omega] at hgp
   have hgp2 : (f.data.drop a).take (min n (f.data.length - a)) = (f.data.drop a).take n := by
    rw [show min n (f.data.length - a) = min n (f.data.drop a).length by rw [List.length_drop], List.take_eq_take_min.symm]
   rw [hgp2] at hgp
   exact hgp
 have HGt := hid (iGet_st h hf (by omega))
 have HOp := hid (fun W D (hm : mapB W m c ino) (hp : Pc W c F 100 N Pg Cm D o (u + 2)) => iopen_good hm hp h.good hf (by omega))
 have HRd := hid (fun W p D (hm : mapB W m c ino) (hW : fileB W p m (f.S i f.data.length)) (hpF : ¬ F p) (hp : Pc W c F 100 N Pg Cm D o (u + 3)) => ifread_any a z hm h.mF hW hpF hok.len (by omega) (by omega) (by omega) (fun k _ hk => hok.lt (by omega) (dslot k)) hp)
 have HGp : Hid (partsL (f.S i f.data.length).slots a z Pg (upTo (a / 512) (fillN z)) = (f.data.drop a).take n) := hgp
 have HNl : Hid ((nodeC f.node).length = 15) := by unfold Hid nodeC; rw [List.length_append, List.length_map, (hok.node (by omega) h.good.n4).pages]; rfl
 have HN3 : Hid ((nodeC f.node)[3]? = some (.int .i64 f.data.length)) := rfl
 have HFl := hid h.lt
 have HGd := hid h.good
 have HFw := hid h.few
 have ha0 : ¬ ((a : Int) < 0) := by omega
 have hn0 : ¬ ((n : Int) < 0) := by omega
 obtain ⟨sz, hszd⟩ : ∃ sz, sz = f.data.length := ⟨_, rfl⟩
 rw [<- hszd] at HN3 ha hsz hz
 have hlt : ¬ ((sz : Int) <= (a : Int)) := by omega
 have hmn : min (n : Int) ((sz : Int) - (a : Int)) = ((min n (sz - a) : Nat) : Int) := by omega
 have hzz : (a : Int) + ((min n (sz - a) : Nat) : Int) = (z : Int) := by omega
 have hsz7 : (sz : Int) <= 70656 := by omega
 have hz7 : (z : Int) <= 70656 := by omega
 have HMn := hid hmn
 have HZz := hid hzz
 unfold nodeV at HGt HOp
 unfold gV at HOp
 clear h hf hok hnf hgp hz hmn hzz hszd
 have hnc1 := nodeC_one f.node
 generalize nodeC f.node = nc at *
 have HN1 := hid hnc1
 clear hnc1
 go_enter Tryz.func16, Tryz.ntmps16
 go_wp2_with fail
 refine HGt.out.mono ?_
 clear HGt
 rintro e w1 ⟨rfl, hk1, hs1⟩
 have c1 := hs1.store.cell
 have HS1 := hid hs1
 have HK1 := hid hk1
 clear hk1 hs1
 go_wp2_with (refine wpList_store_block rfl 51 (.tmp 10) (.tmp 16) rfl w1.heap.size nc.toArray rfl rfl _ _ (block_new w1 _) (by rw [List.size_toArray, HNl.out]; rfl) (by rw [List.size_toArray, HNl.out]; kernel_rfl) HN1.out ?_; intro w2 hg2 hb2 hz2; have c3 : w2.cell? ⟨w1.heap.size, 3, none⟩ = some (.int .i64 sz) := (by rw [cell_of_block hb2, List.getElem?_toArray]; exact HN3.out); have hb12 : Below w1.heap.size w1 w2 := ((Below.refl _ w1).alloc (Nat.le_refl _) _).grown hg2 (by simp) (fun k e => by cases e; exact Nat.le_refl _); have HB12 := hid hb12; have HR2 := hid hb2; clear hg2 hb2 hz2 hb12)
 have hs2 := HS1.out.below HB12.out
 have hbd : Below w2.heap.size w2 w2.drew := (Below.refl _ w2).drew
 have hs3 := hs2.below hbd
 have hr3 := below_block hbd HR2.out (lt_of_heap HR2.out)
 have d0 := hs3.store.cell
 have d3 := (hbd.cell (World.block_lt_of_cell? w2 _ c3)).trans c3
 have HBd := hid hbd
 have HS3 := hid hs3
 have HR3 := hid hr3
 obtain ⟨D, hp3⟩ := hs3.pc
 have HO3 := hid (HOp.out w2.drew D hs3.map hp3)
 clear hbd hs2 hs3 hp3 HOp c1 c3
 refine wp_region_noPanic ?_
 refine wp_region_held_drew (S := fun W => W.cell? ⟨s, 0, none⟩ = some (.pointer (some ⟨m, 0, none⟩)) /\ W.heap[w1.heap.size]? = some (.cells nc.toArray 51 (0, 0)) /\ W.cell? ⟨w1.heap.size, 3, none⟩ = some (.int .i64 sz)) (by kernel_rfl) ⟨d0, hr3, d3⟩ (fun hHeld => ?_)
 clear hr3
 generalize w2.drew = wd at *
 refine tq 0 _ ?_
 try simp only [tS]
 refine tq 1 _ ?_
 try simp only [tS]
 refine tq 2 _ ?_
 try simp only [tS]
 refine tq 3 _ ?_
 try simp only [tS]
 refine tq 4 _ ?_
 try simp only [tS]
 refine wpAnyH_take (i := 5) (v := .agg nc.toArray) rfl (by kernel_rfl) (by kernel_rfl) (by kernel_rfl) (fun _ _ _ h => h) (yieldsIf_load_mid (by rfl) 51 (.tmp 10) rfl w1.heap.size 0 rfl nc _ (fun W hW => by have := range_of_block hW.2.1; exact this) Tryz.underlying51 rfl (by rw [HNl.out]; kernel_rfl)) (by assumption) ?_
 try simp only [tS]
 refine tq 7 _ ?_
 try simp only [tS]
 refine tq 8 _ ?_
 try simp only [tS]
 refine tq 9 _ ?_
 try simp only [tS]
 refine tq 10 _ ?_
 try simp only [tS]
 refine tq 11 _ ?_
 try simp only [tS]
 refine tq 12 _ ?_
 try simp only [tS]
 have hw1 : IntKind.i64.wrap ((sz : Int) - (a : Int)) = (sz : Int) - (a : Int) := IntWalk.i64_in _ (by omega)
 refine tq 13 (.int .i64 ((sz : Int) - (a : Int))) ?_
 try simp only [tS]
 have hmn := HMn.out
 refine tq 14 (.int .i64 (min n (sz - a) : Nat)) ?_
 try simp only [tS]
 have hzz := HZz.out
 have hw2 : IntKind.i64.wrap (z : Int) = (z : Int) := IntWalk.i64_in _ (by omega)
 refine tq 15 (.int .i64 (z : Int)) ?_
 try simp only [tS]
 clear hw1 hmn hzz hw2
 refine wpAnyH_ready (rs := [6]) (by kernel_rfl) (by simp) (AllReadyH.cons rfl (fun K hK => ?_) AllReadyH.nil)
 rw [if_pos (by rfl)]
 go_simp
 refine HO3.out.mono ?_
 clear HO3
 rintro e w4 ⟨p, rfl, hp4, hf4, hk4, hq4⟩
 have hwl := HB12.out.size
 have hwk := HK1.out.size
 have hwd := HBd.out.size
 have kw4 : Keeps F w w4 := ((HK1.out.trans (Keeps.of_below HB12.out : Keeps F w1 w2) (fun i e => .inl e)).trans (Keeps.of_below HBd.out : Keeps F w2 wd) (fun i e => .inl e)).trans hk4 (fun i e => .inl e)
 have hnF : ∀ j, w.heap.size <= j -> ¬ F j := fun j hj hh => by have := HFl.out j hh; omega
 have HP4 := hid (HRd.out w4 p D (HS3.out.map.keep hk4 HS3.out.mF) hf4 (hnF p (by omega)) hq4)
 have hst4 := HS3.out.store.keep hk4 HS3.out.sF
 have e0 := hst4.cell
 have r4 := hk4.heap HR3.out (hnF _ (by omega))
 have e3 := hk4.cell d3 (hnF _ (by omega))
 have HST4 : Hid (mapB w4 m c ino /\ storeB w4 s m) := ⟨HS3.out.map.keep hk4 HS3.out.mF, hst4⟩
 have HR4 := hid r4
 have HK4 := hid kw4
 have HNF := hid hnF
 clear hf4 hk4 hq4 kw4 hst4 hnF HRd HR3 d0 d3
 go_wp2_with fail
 refine hK.out _ _ ⟨e0, r4, e3⟩ (fun hHeld => ?_)
 clear hK K r4
 try simp only [tS]
 refine wpAnyH_ready (rs := [16]) (by kernel_rfl) (by simp) (AllReadyH.cons rfl (fun K hK => ?_) AllReadyH.nil)
 rw [if_pos (by rfl)]
 go_simp
 refine HP4.out.mono ?_
 clear HP4
 rintro e w5 ⟨v, rfl, hr5, hk5, hp5⟩
 have r5 := hk5.heap HR4.out (HNF.out _ (by omega))
 have g3 := hk5.cell e3 (HNF.out _ (by omega))
 have hst5 : St w5 s m c F N ino Pg Cm fs o (u + 141) := ⟨HST4.out.1.keep hk5 HS3.out.mF, HST4.out.2.keep hk5 HS3.out.sF, HS3.out.mF, HS3.out.sF, HFw.out, ⟨D, hp5⟩, HGd.out⟩
 have g0 := hst5.store.cell
 have HST5 := hid hst5
 rw [HGp.out] at hr5
 have HR5 := hid (rowY.down (b' := w.heap.size) hr5 HK4.out.size)
 have HK5 : Hid (Keeps F w w5) := HK4.out.trans hk5 (fun i e => .inl e)
 clear hr5 hk5 hst5 e0 e3 hp5
 go_wp2_with fail
 refine hK.out _ _ ⟨g0, r5, g3⟩ (fun hHeld => ?_)
 clear hK K
 try simp only [tS]
 refine tq 17 _ ?_
 try simp only [tS]
 refine tq 18 _ ?_
 try simp only [tS]
 refine wpAnyH_done (by kernel_rfl) ?_ _
 refine NoPanic.normal ?_
 clear hHeld
 go_wp2_with fail
 go_returns
 exact ⟨v, rfl, HR5.out, HK5.out, HST5.out⟩
end
end
section
open Go.RowKit
end
section
set_option maxRecDepth 100000
open Go.RowKit
section
variable {w w' : World} {s m c ino : Nat} {F : Nat -> Prop} {N : Nat} {Pg Cm : Nat -> List UInt8} {fs : Nat -> Option FileA} {o u : Nat} {i : Nat} {f : FileA}
theorem iWrite_zero (h : St w s m c F N ino Pg Cm fs o u) (hf : fs i = some f) (hu : u < 900000) (a cp : Nat) (ad : Option Addr) :
  Calls Tryz.prog 18 #[.pointer (some ⟨s, 0, none⟩), .int .i64 i, .int .i64 a, .slice ad 0 cp] w fun e w' => e = .returned (.int .i64 0) /\ Keeps F w w' /\ St w' s m c F N ino Pg Cm fs o (u + 2) := by
 have HGt := hid (iGet_st h hf (by omega))
 have hok := h.good.file i f hf
 have hnf := h.good.nf
 have HNl : Hid ((nodeC f.node).length = 15) := by unfold Hid nodeC; rw [List.length_append, List.length_map, (hok.node (by omega) h.good.n4).pages]; rfl
 have ha0 : ¬ ((a : Int) < 0) := by omega
 unfold nodeV at HGt
 clear h hf hok hnf
 have hnc1 := nodeC_one f.node
 generalize nodeC f.node = nc at *
 have HN1 := hid hnc1
 clear hnc1
 go_enter Tryz.func18, Tryz.ntmps18
 go_wp2_with fail
 refine HGt.out.mono ?_
 clear HGt
 rintro e w1 ⟨rfl, hk1, hs1⟩
 have HS1 := hid hs1
 have HK1 := hid hk1
 clear hk1 hs1
 go_wp2_with (refine wpList_store_block rfl 51 (.tmp 9) (.tmp 15) rfl w1.heap.size nc.toArray rfl rfl _ _ (block_new w1 _) (by rw [List.size_toArray, HNl.out]; rfl) (by rw [List.size_toArray, HNl.out]; kernel_rfl) HN1.out ?_; intro w2 hg2 hb2 hz2; have hb12 : Below w1.heap.size w1 w2 := ((Below.refl _ w1).alloc (Nat.le_refl _) _).grown hg2 (by simp) (fun k e => by cases e; exact Nat.le_refl _); have HB12 := hid hb12; clear hg2 hb2 hz2 hb12)
 go_ret
 exact ⟨rfl, HK1.out.trans (Keeps.of_below HB12.out : Keeps F w1 w2) (fun i e => .inl e), HS1.out.below HB12.out⟩
theorem rowY.in_ {base : Nat} {v : Value} {xs : List UInt8} (h : rowY w base v xs) : ∃ ad cp, v = .slice ad xs.length cp /\ bytesIn w ad xs := by
 rcases h.2 with ⟨e, h0⟩ | ⟨g0, cap0, cur, e, h1, h2, h3, h4, h5, h6⟩
 ·exact ⟨none, 0, by rw [e, h0], fun j hj => by omega⟩
 ·refine ⟨some ⟨g0, 0, none⟩, cap0, e, fun j hj => ⟨g0, 0, rfl, fun i hi => ?_⟩⟩
  rw [cell_of_block h2, Nat.zero_add]
  have h7 : (cur.toList.take (xs.length * 1))[i]? = (xs.map U8)[i]? := by rw [h6]
  rw [List.getElem?_take_of_lt (by omega), List.getElem?_map, List.getElem?_eq_getElem hi] at h7
  rw [<- Array.getElem?_toList, h7]
  rfl
end
end
section
open Go.RowKit
def cntO : Option FileA -> Nat
 | some f => f.cnt
 | none => 0
def slotsO : Option FileA -> List Nat
 | some f => (List.range f.cnt).map f.slot
 | none => []
def sumC (fs : Nat -> Option FileA) (n : Nat) : Nat := ((List.range n).map (fun i => cntO (fs i))).sum
def allS (fs : Nat -> Option FileA) (n : Nat) : List Nat := (List.range n).flatMap (fun i => slotsO (fs i))
theorem length_slotsO (a : Option FileA) : (slotsO a).length = cntO a := by cases a <;> simp [slotsO, cntO]
theorem mem_slotsO {a : Option FileA} {p : Nat} : p ∈ slotsO a ↔ ∃ f j, a = some f /\ j < f.cnt /\ f.slot j = p := by
 cases a with
 | none => simp [slotsO]
 | some f => simp [slotsO]
theorem length_allS (fs : Nat -> Option FileA) (n : Nat) : (allS fs n).length = sumC fs n := by
 unfold allS sumC
 rw [List.length_flatMap]
 congr 1
 exact List.map_congr_left (fun i _ => length_slotsO _)
theorem mem_freeTo {L : List UInt8} {a z p : Nat} (hz : z <= 4096) : p ∈ freeTo L a z 4096 ↔ a <= p /\ p < z /\ bitL L p = false := by
 unfold freeTo isFree
 rw [List.mem_filter, List.mem_range]
 simp
 constructor
 ·intro h; exact ⟨h.2.1.1, h.2.1.2, h.2.2⟩
 ·intro h; exact ⟨by omega, ⟨h.1, h.2.1⟩, h.2.2⟩
theorem nodup_freeTo (L : List UInt8) (a z : Nat) : (freeTo L a z 4096).Nodup := List.Pairwise.filter _ List.nodup_range
section
variable {sk : Nat -> Prop} {N ino : Nat} {Pg : Nat -> List UInt8} {fs : Nat -> Option FileA} {i : Nat} {f : FileA}
theorem GoodX.nodupS (h : GoodX sk N ino Pg fs) : (allS fs ino).Nodup := by
 unfold allS List.Nodup
 rw [List.pairwise_flatMap]
 constructor
 ·intro i _
  unfold slotsO
  split
  ·rename_i f hf
   rw [List.pairwise_map]
   refine (List.nodup_range (n := f.cnt)).imp_of_mem (fun {a b} ha hb hab e => hab ?_)
   exact (h.apart i f a i f b hf hf (List.mem_range.1 ha) (List.mem_range.1 hb) e).2
  ·exact List.Pairwise.nil
 ·refine (List.nodup_range (n := ino)).imp (fun {a b} hab => ?_)
  intro p hp q hq e
  obtain ⟨f, j, h1, h2, h3⟩ := mem_slotsO.1 hp
  obtain ⟨g, k, h4, h5, h6⟩ := mem_slotsO.1 hq
  exact hab (h.apart a f j b g k h1 h4 h2 h5 (by rw [h3, h6, e])).1
theorem GoodX.free (h : GoodX sk N ino Pg fs) : (frL Pg N ino).length + sumC fs ino + (3 + ino / 8) = N := by
 have hnf := h.nf
 have hn4 := h.n4
 have hmem : ∀ p, p ∈ allS fs ino ↔ 3 + ino / 8 <= p /\ p < N /\ bitL (Pg 2) p = true := fun p => by
  unfold allS
  rw [List.mem_flatMap]
  constructor
  ·rintro ⟨i, -, hp⟩
   obtain ⟨f, j, h1, h2, h3⟩ := mem_slotsO.1 hp
   have h4 := (h.file i f h1).in_ j h2
   rw [h3] at h4
   exact ⟨h4.1, h4.2, (h.pbit p h4.1 h4.2).2 ⟨i, f, j, h1, h2, h3⟩⟩
  ·rintro ⟨h1, h2, h3⟩
   obtain ⟨i, f, j, h4, h5, h6⟩ := (h.pbit p h1 h2).1 h3
   exact ⟨i, List.mem_range.2 (h.out i f h4).2, mem_slotsO.2 ⟨f, j, h4, h5, h6⟩⟩
 have hnd : (allS fs ino ++ frL Pg N ino).Nodup := by
  rw [List.nodup_append]
  refine ⟨h.nodupS, nodup_freeTo _ _ _, fun p hp q hq e => ?_⟩
  have h1 := (hmem p).1 hp
  have h2 := (mem_freeTo hn4).1 hq
  rw [<- e] at h2
  rw [h1.2.2] at h2
  cases h2.2.2
 have hp : List.Perm (allS fs ino ++ frL Pg N ino) (List.range' (3 + ino / 8) (N - (3 + ino / 8))) := (List.perm_ext_iff_of_nodup hnd (List.nodup_range' (step := 1))).2 (fun p => by
  rw [List.mem_append, hmem, List.mem_range'_1]
  unfold frL
  rw [mem_freeTo hn4]
  constructor
  ·rintro (h1 | h1) <;> omega
  ·intro h1
   cases hb : bitL (Pg 2) p
   ·exact .inr ⟨by omega, by omega, rfl⟩
   ·exact .inl ⟨by omega, by omega, rfl⟩)
 have hl := hp.length_eq
 rw [List.length_append, length_allS, List.length_range'] at hl
 omega
end
end
section
open Go.RowKit
def StC (w : World) (s m c : Nat) (F : Nat -> Prop) (N ino : Nat) (Pg : Nat -> List UInt8) (fs : Nat -> Option FileA) (o u : Nat) : Prop := St w s m c F N ino Pg Pg fs o u /\ Pc w c F 100 N Pg Pg (fun _ => false) o u
section
variable {w w' : World} {s m c ino : Nat} {F : Nat -> Prop} {N : Nat} {Pg Cm : Nat -> List UInt8} {fs : Nat -> Option FileA} {o u : Nat} {i : Nat} {f : FileA}
theorem iend_anyC {R1 : World -> Prop} {u' : Nat} {cs : Nat -> Option FileA} (hmF : ¬ F m) (hsF : ¬ F s) (hN : N <= 100) (hcm : GoodX noSk N ino Cm cs) {W : World} {r : Int} (hs : storeB W s m) (hm : mapB W m c ino) (hR : (r = 0 /\ R1 W) \/ (r = 7 /\ ∃ Pg' D', Pc W c F 100 N Pg' Cm D' o u')) :
  Calls Tryz.prog 37 #[.pointer (some ⟨s, 0, none⟩), .int .i64 r] W fun e w' => e = .returned (.int .i64 r) /\ Keeps F W w' /\ ((r = 0 /\ R1 w') \/ (r = 7 /\ StC w' s m c F N ino Cm cs o u')) := by
 rcases hR with ⟨rfl, h1⟩ | ⟨rfl, Pg', D', hp⟩
 ·refine (iend_ok s W).mono ?_
  rintro e w' ⟨rfl, rfl⟩
  exact ⟨rfl, Keeps.refl _ _, .inl ⟨rfl, h1⟩⟩
 ·refine (iend_full hs hm hp).mono ?_
  rintro e w' ⟨rfl, hk, hp'⟩
  exact ⟨rfl, hk, .inr ⟨rfl, ⟨hm.keep hk hmF, hs.keep hk hsF, hmF, hsF, hN, ⟨_, hp'⟩, hcm⟩, hp'⟩⟩
theorem iWrite_stC {cs : Nat -> Option FileA} (h : St w s m c F N ino Pg Cm fs o u) (hcm : GoodX noSk N ino Cm cs) (hf : fs i = some f) (hu : u < 800000) (a z t : Nat) (l : List UInt8) (blk of cp : Nat) (hl : bytesAt w ⟨blk, of, none⟩ l) (hcp : l.length <= cp) (hbF : ¬ F blk) (hbl : blk < w.heap.size) (haz : a + l.length = z) (h0 : 0 < l.length) (hz7 : z <= 70656) (ht : max z f.data.length = t) :
  Calls Tryz.prog 18 #[.pointer (some ⟨s, 0, none⟩), .int .i64 i, .int .i64 a, .slice (some ⟨blk, of, none⟩) l.length cp] w fun e w' => Keeps F w w' /\
   ((needN t - f.cnt <= (frL Pg N ino).length /\ e = .returned (.int .i64 0) /\ ∃ Pg' f', f'.kind = f.kind /\ f'.mode = f.mode /\ f'.links = f.links /\ f'.data = wrD f.data a l /\ St w' s m c F N ino Pg' Cm (updA fs i (some f')) o (u + 303)) \/
   ((frL Pg N ino).length < needN t - f.cnt /\ e = .returned (.int .i64 7) /\ StC w' s m c F N ino Cm cs o (u + 303))) := by
 refine (iWrite_by h hf (by omega) a l.length blk of cp h0 (by omega)
  (fun r W => (r = 0 /\ (needN t - f.cnt <= (frL Pg N ino).length /\ ∃ Pg' f', f'.kind = f.kind /\ f'.mode = f.mode /\ f'.links = f.links /\ f'.data = wrD f.data a l /\ GoodX noSk N ino Pg' (updA fs i (some f')) /\ ∃ D', Pc W c F 100 N Pg' Cm D' o (u + 303))) \/ (r = 7 /\ ∃ Pg' D', (frL Pg N ino).length < needN t - f.cnt /\ Pc W c F 100 N Pg' Cm D' o (u + 303)))
  (fun r W => (r = 0 /\ (needN t - f.cnt <= (frL Pg N ino).length /\ ∃ Pg' f', f'.kind = f.kind /\ f'.mode = f.mode /\ f'.links = f.links /\ f'.data = wrD f.data a l /\ GoodX noSk N ino Pg' (updA fs i (some f')) /\ ∃ D', Pc W c F 100 N Pg' Cm D' o (u + 303))) \/ (r = 7 /\ (frL Pg N ino).length < needN t - f.cnt /\ StC W s m c F N ino Cm cs o (u + 303)))
  (fun W p D hk hp hm hfi hpl => ?_) (fun W r hs hm hR => ?_)).mono ?_
 ·refine (ifwrite_good (k := 0) (kk := 1 + 2 * (needN t - f.cnt) + (fillN z - a / 512) + 2) hm h.mF ⟨D, rm100 h.few _ _, hp⟩ h.good hf hfi (fun hh => by have := h.lt _ hh; omega) (by omega) a z t l blk of cp (fun j hj => hk.cell (hl j hj) (by rw [Addr.add_mid]; exact hbF)) hcp hbF (by omega) (by have := hk.size; omega) haz h0 hz7 ht (Nat.le_refl _)).mono ?_
  rintro e w' ⟨hk', ⟨hy, rfl, Pg', f', h1, h2, h3, h4, h5, D', -, h6⟩ | ⟨hx, rfl, Pg', D', h6⟩⟩
  ·exact ⟨0, rfl, hk', .inl ⟨rfl, hy, Pg', f', h1, h2, h3, h4, h5, D', h6⟩⟩
  ·exact ⟨7, rfl, hk', .inr ⟨rfl, Pg', D', hx, h6⟩⟩
 ·have hR' : (r = 0 /\ (needN t - f.cnt <= (frL Pg N ino).length /\ ∃ Pg' f', f'.kind = f.kind /\ f'.mode = f.mode /\ f'.links = f.links /\ f'.data = wrD f.data a l /\ GoodX noSk N ino Pg' (updA fs i (some f')) /\ ∃ D', Pc W c F 100 N Pg' Cm D' o (u + 303))) \/ (r = 7 /\ ∃ Pg' D', Pc W c F 100 N Pg' Cm D' o (u + 303)) := by
   rcases hR with hR | ⟨rfl, Pg', D', -, h1⟩
   ·exact .inl hR
   ·exact .inr ⟨rfl, Pg', D', h1⟩
  refine (iend_anyC (R1 := fun W => needN t - f.cnt <= (frL Pg N ino).length /\ ∃ Pg' f', f'.kind = f.kind /\ f'.mode = f.mode /\ f'.links = f.links /\ f'.data = wrD f.data a l /\ GoodX noSk N ino Pg' (updA fs i (some f')) /\ ∃ D', Pc W c F 100 N Pg' Cm D' o (u + 303)) h.mF h.sF h.few hcm hs hm hR').mono ?_
  rintro e w' ⟨rfl, hk, hx | ⟨rfl, hx⟩⟩
  ·exact ⟨rfl, hk, .inl hx⟩
  ·refine ⟨rfl, hk, .inr ⟨rfl, ?_, hx⟩⟩
   rcases hR with ⟨e, -⟩ | ⟨-, -, -, h1, -⟩
   ·cases e
   ·exact h1
 ·rintro e w' ⟨r, rfl, hk, ⟨rfl, hy, Pg', f', h1, h2, h3, h4, h5, h6⟩ | ⟨rfl, hx, h1⟩⟩
  ·exact ⟨hk, .inl ⟨hy, rfl, Pg', f', h1, h2, h3, h4, h.map.keep hk h.mF, h.store.keep hk h.sF, h.mF, h.sF, h.few, h6, h5⟩⟩
  ·exact ⟨hk, .inr ⟨hx, rfl, h1⟩⟩
theorem StC.free (h : StC w s m c F N ino Pg fs o u) (hu : u < 900000) : Calls Tryz.prog 21 #[.pointer (some ⟨m, 0, none⟩)] w fun e w' => e = .returned (.tuple #[.int .i64 (frL Pg N ino).length, .int .i64 (freeTo (Pg 1) 1 ino 4096).length]) /\ Keeps F w w' /\ StC w' s m c F N ino Pg fs o (u + 2) := by
 have h1 := h.1.good.nf
 have h2 := h.1.few
 refine (aFree_any h.1.map h.1.mF (by omega) (by omega) h.1.good.i5 (by omega) h.2).mono ?_
 rintro e w' ⟨rfl, hk, hp⟩
 exact ⟨rfl, hk, ⟨h.1.map.keep hk h.1.mF, h.1.store.keep hk h.1.sF, h.1.mF, h.1.sF, h.1.few, ⟨_, hp⟩, h.1.good⟩, hp⟩
end
end
section
set_option maxRecDepth 100000
open Go.RowKit
section
variable {w w' : World} {s m c ino : Nat} {F : Nat -> Prop} {N : Nat} {Pg Cm : Nat -> List UInt8} {fs : Nat -> Option FileA} {o u : Nat} {i : Nat} {f : FileA}
theorem iWrite_neg (h : St w s m c F N ino Pg Cm fs o u) (hf : fs i = some f) (hu : u < 900000) (a : Int) (ha : a < 0) (n cp : Nat) (ad : Option Addr) :
  Calls Tryz.prog 18 #[.pointer (some ⟨s, 0, none⟩), .int .i64 i, .int .i64 a, .slice ad n cp] w fun e w' => e = .returned (.int .i64 2) /\ Keeps F w w' /\ St w' s m c F N ino Pg Cm fs o (u + 2) := by
 have HGt := hid (iGet_st h hf (by omega))
 have hok := h.good.file i f hf
 have hnf := h.good.nf
 have HNl : Hid ((nodeC f.node).length = 15) := by unfold Hid nodeC; rw [List.length_append, List.length_map, (hok.node (by omega) h.good.n4).pages]; rfl
 unfold nodeV at HGt
 clear h hf hok hnf
 have hnc1 := nodeC_one f.node
 generalize nodeC f.node = nc at *
 have HN1 := hid hnc1
 clear hnc1
 go_enter Tryz.func18, Tryz.ntmps18
 go_wp2_with fail
 refine HGt.out.mono ?_
 clear HGt
 rintro e w1 ⟨rfl, hk1, hs1⟩
 have HS1 := hid hs1
 have HK1 := hid hk1
 clear hk1 hs1
 go_wp2_with (refine wpList_store_block rfl 51 (.tmp 9) (.tmp 15) rfl w1.heap.size nc.toArray rfl rfl _ _ (block_new w1 _) (by rw [List.size_toArray, HNl.out]; rfl) (by rw [List.size_toArray, HNl.out]; kernel_rfl) HN1.out ?_; intro w2 hg2 hb2 hz2; have hb12 : Below w1.heap.size w1 w2 := ((Below.refl _ w1).alloc (Nat.le_refl _) _).grown hg2 (by simp) (fun k e => by cases e; exact Nat.le_refl _); have HB12 := hid hb12; clear hg2 hb2 hz2 hb12)
 go_ret
 exact ⟨rfl, HK1.out.trans (Keeps.of_below HB12.out : Keeps F w1 w2) (fun i e => .inl e), HS1.out.below HB12.out⟩
theorem iWrite_long (h : St w s m c F N ino Pg Cm fs o u) (hf : fs i = some f) (hu : u < 900000) (a : Int) (n cp : Nat) (ha : 0 <= a) (h0 : 0 < n) (hn8 : n <= 8000) (hl : 70656 < a + n) (ad : Option Addr) :
  Calls Tryz.prog 18 #[.pointer (some ⟨s, 0, none⟩), .int .i64 i, .int .i64 a, .slice ad n cp] w fun e w' => e = .returned (.int .i64 6) /\ Keeps F w w' /\ St w' s m c F N ino Pg Cm fs o (u + 2) := by
 have HGt := hid (iGet_st h hf (by omega))
 have hok := h.good.file i f hf
 have hnf := h.good.nf
 have HNl : Hid ((nodeC f.node).length = 15) := by unfold Hid nodeC; rw [List.length_append, List.length_map, (hok.node (by omega) h.good.n4).pages]; rfl
 have ha0 : ¬ (a < 0) := by omega
 have hn0 : ¬ (n = 0) := by omega
 have hn0' : ¬ ((n : Int) = 0) := by omega
 have han : (70656 : Int) - (n : Int) < a := by omega
 unfold nodeV at HGt
 clear h hf hok hnf
 have hnc1 := nodeC_one f.node
 generalize nodeC f.node = nc at *
 have HN1 := hid hnc1
 clear hnc1
 go_enter Tryz.func18, Tryz.ntmps18
 go_wp2_with fail
 refine HGt.out.mono ?_
 clear HGt
 rintro e w1 ⟨rfl, hk1, hs1⟩
 have HS1 := hid hs1
 have HK1 := hid hk1
 clear hk1 hs1
 go_wp2_with (refine wpList_store_block rfl 51 (.tmp 9) (.tmp 15) rfl w1.heap.size nc.toArray rfl rfl _ _ (block_new w1 _) (by rw [List.size_toArray, HNl.out]; rfl) (by rw [List.size_toArray, HNl.out]; kernel_rfl) HN1.out ?_; intro w2 hg2 hb2 hz2; have hb12 : Below w1.heap.size w1 w2 := ((Below.refl _ w1).alloc (Nat.le_refl _) _).grown hg2 (by simp) (fun k e => by cases e; exact Nat.le_refl _); have HB12 := hid hb12; clear hg2 hb2 hz2 hb12)
 go_ret
 exact ⟨rfl, HK1.out.trans (Keeps.of_below HB12.out : Keeps F w1 w2) (fun i e => .inl e), HS1.out.below HB12.out⟩
theorem iWrite_all {fc : FileA} (h : St w s m c F N ino Pg Cm fs o u) (hcm : GoodX noSk N ino Cm (updA fs i (some fc))) (hf : fs i = some f) (hu : u < 700000) (a : Int) (l : List UInt8) (g : Nat) (hl : ownB w g l) (hgF : ¬ F g) (hL : l.length <= 8000) :
  Calls Tryz.prog 18 #[.pointer (some ⟨s, 0, none⟩), .int .i64 i, .int .i64 a, .slice (some ⟨g, 0, none⟩) l.length l.length] w fun e w' => Keeps F w w' /\ ∃ (r : Int) (Pg' : Nat -> List UInt8) (f' : FileA), e = .returned (.int .i64 r) /\ St w' s m c F N ino Pg' Cm (updA fs i (some f')) o (u + 303) /\ (r = 0 -> 0 <= a /\ (f'.data = if l.length = 0 then f.data else wrD f.data a.toNat l) /\ (0 < l.length -> a + l.length <= 70656)) := by
 by_cases h1 : a < 0
 ·refine (iWrite_neg h hf (by omega) a h1 _ _ _).mono ?_
  rintro e w' ⟨rfl, hk, hs⟩
  exact ⟨hk, 2, Pg, f, rfl, by rw [updA_id hf]; exact hs.more (by omega), fun e => by omega⟩
 ·obtain ⟨an, rfl⟩ : ∃ an : Nat, a = (an : Int) := ⟨a.toNat, by omega⟩
  by_cases h0 : l.length = 0
  ·have hz := iWrite_zero h hf (by omega) an 0 (some ⟨g, 0, none⟩)
   rw [h0]
   refine hz.mono ?_
   rintro e w' ⟨rfl, hk, hs⟩
   exact ⟨hk, 0, Pg, f, rfl, by rw [updA_id hf]; exact hs.more (by omega), fun _ => ⟨by omega, by rw [if_pos rfl], fun hh => by omega⟩⟩
  ·by_cases h7 : 70656 < an + l.length
   ·refine (iWrite_long h hf (by omega) an _ _ (by omega) (by omega) hL (by omega) _).mono ?_
    rintro e w' ⟨rfl, hk, hs⟩
    exact ⟨hk, 6, Pg, f, rfl, by rw [updA_id hf]; exact hs.more (by omega), fun e => by omega⟩
   ·refine (iWrite_stC h hcm hf (by omega) an (an + l.length) _ l g 0 l.length hl.at (Nat.le_refl _) hgF hl.lt rfl (by omega) (by omega) rfl).mono ?_
    rintro e w' ⟨hk, ⟨-, rfl, Pg', f', e1, e2, e3, e4, hs⟩ | ⟨-, rfl, hs⟩⟩
    ·exact ⟨hk, 0, Pg', f', rfl, hs, fun _ => ⟨by omega, by rw [if_neg h0, e4]; rfl, fun _ => by omega⟩⟩
    ·exact ⟨hk, 7, Cm, fc, rfl, hs.1, fun e => by omega⟩
end
end
section
open Go.RowKit
theorem ownB.not {w : World} {b : Nat} {L : List UInt8} {ad : Addr} {v : Value} (h : ownB w b L) (hc : w.cell? ad = some v) (hv : ∀ n, v ≠ .int .u8 n) : ad.block ≠ b := fun e => by
 have hp := plain_addr hc
 rw [hp, e, cell_of_block h] at hc
 simp only [List.getElem?_toArray, List.getElem?_map] at hc
 cases hq : L[ad.off]? with
 | none => rw [hq] at hc; cases hc
 | some x =>
  rw [hq] at hc
  exact hv _ (Option.some.inj hc).symm
theorem encOp_not (o : OpS) (n : Int) : encOp o ≠ .int .u8 n := by cases o <;> simp [encOp]
theorem AnyAt.keepB {w w' : World} {d : DL} {S : DiskS} {F : Nat -> Prop} {b : Nat} {L : List UInt8} (h : AnyAt w d S F) (hb : ownB w b L) (hF : ¬ F b) (k : Keeps (fun i => i = b) w w') : AnyAt w' d S F := by
 rcases h with ⟨h, hf⟩ | ⟨h, hf⟩
 ·refine .inl ⟨?_, hf⟩
  have hne : ∀ i, d.cutFoot S.waits i -> ¬ i = b := fun i hi e => hF (e ▸ hf i hi)
  obtain ⟨h1, ⟨a, e1, e2, e3⟩, ⟨ad, c, e4, e5, e6⟩, h4⟩ := h
  refine ⟨h1.keep k (hne _ (.inl rfl)) (fun i hi => hne i (.inr hi)), ⟨a, e1, e2, fun q hq => ⟨fun j u hu => ?_, Nat.lt_of_lt_of_le (e3 q hq).2 k.size⟩⟩, ⟨ad, c, e4, fun j s hj => ?_, e6⟩, h4⟩
  ·refine k.cell ((e3 q hq).1 j u hu) (hb.not ((e3 q hq).1 j u hu) ?_)
   rw [List.getElem?_map] at hu
   cases ho : S.ops[j]? with
   | none => rw [ho] at hu; cases hu
   | some o => rw [ho] at hu; obtain rfl := Option.some.inj hu; exact encOp_not o
  ·exact k.cell (e5 j s hj) (hb.not (e5 j s hj) (fun n => by simp))
 ·refine .inr ⟨?_, hf⟩
  have hne : ∀ i, d.foot S.waits i -> ¬ i = b := fun i hi e => hF (e ▸ hf i hi)
  refine h.keep k hne (fun i hi e => ?_)
  obtain ⟨ad, c, e4, e5, e6⟩ := h.first
  have hpos : 0 < S.first.length := by rw [h.flen]; exact h.plates.pos
  have hc := e5 0 S.first[0] (List.getElem?_eq_getElem hpos)
  have h1 := hb.not hc (fun n => by simp)
  rw [add_block] at h1
  rw [e4] at hi
  exact h1 ((Option.some.inj hi).trans e)
theorem LogIn.keepB {w w' : World} {p : Nat} {d : DL} {S : DiskS} {size rec : Nat} {F : Nat -> Prop} {b : Nat} {L : List UInt8} (h : LogIn w p d S size rec F) (hb : ownB w b L) (hF : ¬ F b) (k : Keeps (fun i => i = b) w w') : LogIn w' p d S size rec F := by
 refine ⟨k.heap h.heap (fun e => ?_), h.disk.keepB hb hF k, h.off⟩
 have e2 : p = b := e
 have h1 := h.heap
 rw [e2, hb] at h1
 simp only [Option.some.injEq, Obj.cells.injEq] at h1
 exact absurd h1.2.1 (by decide)
end
section
open Go.RowKit
section
variable {w w' : World} {c : Nat} {L : CLay} {C : CS}
theorem CacheAt.keepB7 (h : CacheAt w c L C) {g : Nat} {l : List UInt8} (hg : ownB w g l) (hF : ¬ L.F g) (hd : ∀ n g' cap, L.dv n = some (.slice (some ⟨g', 0, none⟩) 512 cap) -> g' ≠ g) (k : Keeps (fun i => i = g) w w') : CacheAt w' c L C := by
 obtain ⟨es, kk, hm⟩ := h.dmap
 obtain ⟨es', kk', hu⟩ := h.umap
 have hmap : ∀ m e k0, w.heap[m]? = some (.map e k0) -> m ≠ g := fun m e k0 hm e1 => by
  subst e1
  rw [show w.heap[m]? = _ from hg] at hm
  cases hm
 exact {
  heap := k.heap h.heap (fun e => by
   have e1 : c = g := e
   have h1 := h.heap
   rw [e1, show w.heap[g]? = _ from hg] at h1
   simp only [Option.some.injEq, Obj.cells.injEq] at h1
   exact absurd h1.2.1 (by decide))
  log := h.log.keepB hg hF k
  lt := fun i hi => Nat.lt_of_lt_of_le (h.lt i hi) k.size
  dirty := h.dirty.keep k (hmap _ _ _ hm)
  bytes := fun n v hv => by
   obtain ⟨g', cap, bs, h1, h2, h3, h4, h5⟩ := h.bytes n v hv
   subst h2
   exact ⟨g', cap, bs, h1, rfl, fun j hj => k.cell (h3 j hj) (by rw [add_block]; exact hd n g' cap hv), h4, h5⟩
  clean := h.clean
  used := h.used.keep k (hmap _ _ _ hu)
  offc := h.offc
  offd := h.offd
  offu := h.offu
  ne := h.ne
  pages := h.pages
  fits := h.fits
  few := h.few
  ub := h.ub }
end
def heldC (N : Nat) (Cm : Nat -> List UInt8) (g : Nat) : Nat -> List UInt8 := fun k => if k = N + 1 + g then [7] else Cm k
theorem heldC_lt {N : Nat} {Cm : Nat -> List UInt8} {g k : Nat} (h : k < N) : heldC N Cm g k = Cm k := if_neg (by omega)
section
variable {w w' : World} {c g : Nat} {F : Nat -> Prop} {size N : Nat} {Pg Cm : Nat -> List UInt8} {D : Int -> Bool} {o u : Nat}
theorem Pc.held (h : Pc w c F size N Pg Cm D o u) (hb : Below w.heap.size w w') (hg : w.heap.size <= g) (hl : g < w'.heap.size) : Pc w' c F size N Pg (heldC N Cm g) D o u := by
 obtain ⟨L, C, h⟩ := h
 refine ⟨L, C, h.at_.below hb, h.sz, h.nn, h.made, h.ops, h.uses, h.pg, fun n hn => by rw [heldC_lt hn]; exact h.cm n hn, h.dirty, h.room, h.foot, fun i hi => Nat.lt_of_lt_of_le (h.lt i hi) hb.size, Nat.lt_of_lt_of_le h.p0 hb.size, fun q hq => ?_, h.quiet⟩
 by_cases e : q = g
 ·subst e
  refine ⟨hl, fun hh => by have := h.at_.lt q hh; omega, fun n cap hd => ?_⟩
  obtain ⟨g', cap', bs, -, h2, h3, h4, -⟩ := h.at_.bytes n _ hd
  rw [Value.slice.injEq] at h2
  have e2 : q = g' := congrArg Addr.block (Option.some.inj h2.1)
  have h5 := World.block_lt_of_cell? w _ (h3 0 (by omega))
  rw [add_block] at h5
  have h6 : g' < w.heap.size := h5
  omega
 ·refine (h.sep.mono hb.size) q (hq.imp id (fun h1 => ?_))
  unfold heldC at h1
  rw [if_neg (by omega)] at h1
  exact h1
theorem Pc.keepC {l : List UInt8} (h : Pc w c F size N Pg Cm D o u) (hc : Cm (N + 1 + g) = [7]) (hb : ownB w g l) (k : Keeps (fun i => i = g) w w') : Pc w' c F size N Pg Cm D o u := by
 obtain ⟨L, C, h⟩ := h
 obtain ⟨-, h2, h3⟩ := h.sep g (.inr hc)
 exact ⟨L, C, h.at_.keepB7 hb h2 (fun n g' cap e e2 => h3 n cap (by rw [<- e2]; exact e)) k, h.sz, h.nn, h.made, h.ops, h.uses, h.pg, h.cm, h.dirty, h.room, h.foot, fun i hi => Nat.lt_of_lt_of_le (h.lt i hi) k.size, Nat.lt_of_lt_of_le h.p0 k.size, h.sep.mono k.size, h.quiet⟩
end
theorem GoodX.same {sk : Nat -> Prop} {N ino : Nat} {Pg Pg' : Nat -> List UInt8} {fs : Nat -> Option FileA} (h : GoodX sk N ino Pg fs) (he : ∀ p, p < N -> Pg' p = Pg p) : GoodX sk N ino Pg' fs := by
 have h0 := h.nf
 have hi : ∀ i f, fs i = some f -> Pg' (3 + i / 8) = Pg (3 + i / 8) := fun i f hf => he _ (by have := h.tabLt (h.out i f hf).2; omega)
 have hs : ∀ i f, fs i = some f -> ∀ j, Pg' (f.slot j) = Pg (f.slot j) := fun i f hf j => he _ ((h.file i f hf).lt (by omega) j)
 refine ⟨h.n4, h.nf, h.h8, h.i5, fun p hp => by rw [he p hp]; exact h.len p hp, fun i hi => by rw [he 1 (by omega)]; exact h.ibit i hi, h.out, h.file, fun i f hf => ?_, fun i f hf hk => ?_, fun i f hf k hk => ?_, fun p hp1 hp2 => by rw [he 2 (by omega)]; exact h.pbit p hp1 hp2, h.apart⟩
 ·have h1 := h.tab i f hf
  unfold tabOk at h1 ⊢
  rw [hi i f hf]; exact h1
 ·rw [hi i f hf, hs i f hf]; exact h.node i f hf hk
 ·rw [hs i f hf]; exact h.data i f hf k hk
section
variable {w w' : World} {s m c ino g : Nat} {F : Nat -> Prop} {N : Nat} {Pg Cm : Nat -> List UInt8} {fs : Nat -> Option FileA} {o u : Nat}
theorem St.held (h : St w s m c F N ino Pg Cm fs o u) (hb : Below w.heap.size w w') (hg : w.heap.size <= g) (hl : g < w'.heap.size) : St w' s m c F N ino Pg (heldC N Cm g) fs o u := by
 obtain ⟨D, hp⟩ := h.pc
 exact ⟨h.map.below hb, h.store.below hb, h.mF, h.sF, h.few, ⟨D, hp.held hb hg hl⟩, h.good⟩
theorem St.more2 {o' u' : Nat} (h : St w s m c F N ino Pg Cm fs o u) (ho : o <= o') (hu : u <= u') : St w s m c F N ino Pg Cm fs o' u' := by
 obtain ⟨D, hp⟩ := h.pc
 exact ⟨h.map, h.store, h.mF, h.sF, h.few, ⟨D, hp.more ho hu⟩, h.good⟩
theorem St.keepC {l : List UInt8} (h : St w s m c F N ino Pg Cm fs o u) (hc : Cm (N + 1 + g) = [7]) (hb : ownB w g l) (k : Keeps (fun i => i = g) w w') : St w' s m c F N ino Pg Cm fs o u := by
 obtain ⟨D, hp⟩ := h.pc
 have hm : ¬ m = g := fun e => by
  have h1 := h.map
  unfold mapB at h1
  rw [e, show w.heap[g]? = _ from hb] at h1
  simp at h1
 have hs : ¬ s = g := fun e => by
  have h1 := h.store
  unfold storeB at h1
  rw [e, show w.heap[g]? = _ from hb] at h1
  simp at h1
 exact ⟨h.map.keep k hm, h.store.keep k hs, h.mF, h.sF, h.few, ⟨D, hp.keepC hc hb k⟩, h.good⟩
end
end
section
open Go.RowKit
section
variable {w w' : World} {F : Nat -> Prop} {r m : Nat}
theorem RSide.six {Z : Nat -> Prop} {lb : Nat} {fl : List RF} (h : RSide w Z lb fl) (j : Nat) (hj : j < 16) : ∃ k0 m0 l0 b0 ba bc d0 da dc ind, w.cell? ⟨lb, j * 6, none⟩ = some (.int .i64 k0) /\ w.cell? ⟨lb, j * 6 + 1, none⟩ = some (.int .i64 m0) /\ w.cell? ⟨lb, j * 6 + 2, none⟩ = some (.int .i64 l0) /\
  w.cell? ⟨lb, j * 6 + 3, none⟩ = some (.slice ba (List.length b0) bc) /\ w.cell? ⟨lb, j * 6 + 4, none⟩ = some (.slice da (List.length d0) dc) /\ w.cell? ⟨lb, j * 6 + 5, none⟩ = some (.int .i64 ind) /\ RF.ok w Z ⟨k0, m0, l0, b0, ba, bc, d0, da, dc, ind⟩ := by
 have hj' : j < fl.length := by rw [h.len]; exact hj
 have hrow := h.row j hj'
 have hok := h.ok j hj'
 generalize fl[j] = f0 at hrow hok
 obtain ⟨k0, m0, l0, b0, ba, bc, d0, da, dc, ind⟩ := f0
 exact ⟨k0, m0, l0, b0, ba, bc, d0, da, dc, ind, hrow 0 _ rfl, hrow 1 _ rfl, hrow 2 _ rfl, hrow 3 _ rfl, hrow 4 _ rfl, hrow 5 _ rfl, hok⟩
end
end
section
open Go.RowKit
theorem wpList_append_row {w : World} {ops : Array Oper} {rest : List Oper} {o : Oper} {a : Act} {Q : Exit -> Act -> World -> Prop} {t e : TypeId} {i0 : TypeInfo} {z : Value} {bb : Nat} (ht : Tryz.prog.underlying t = some (.slice e)) (hi : Tryz.prog.info? e = some i0) (hz0 : i0.zero = some z) (hz1 : i0.size = 1) (hz2 : i0.bytes = bb) (hzc : z.cells.size = 1) (hbb : bb <= 8)
  (hgd : o.guard = none) (s x : Operand) (ho : o.op = .call { callee := .builtin .append, args := #[s, x], argTypes := #[t, t] }) (base : Nat) (v : Value) (n : Nat) (xs : List Value) (hs : a.eval s = v) (hown : w.ownsRow base e 1 v n xs)
  (sa : Option Addr) (m c : Nat) (news : List Value) (hx : a.eval x = .slice sa m c) (hl : news.length = m * 1) (hc : 0 < m -> ∃ ad, sa = some ad /\ ∀ j u, news[j]? = some u -> w.cell? (ad.add j) = some u) (h1 : ∀ u ∈ news, u.oneCell' = true)
  (hn : n + m <= 200000) (hbase : base <= w.heap.size)
  (h : ∀ v' w', w'.ownsRow base e 1 v' (n + m) (xs ++ news) -> w.grownBy w' v.ownBlock -> (v'.ownBlock = v.ownBlock \/ v'.ownBlock = some w.heap.size) -> wpList Tryz.prog ops Q rest (a.put o.dst v') w') : wpList Tryz.prog ops Q (o :: rest) a w := by
 rcases Nat.eq_zero_or_pos m with rfl | hpos
 ·obtain rfl : news = [] := List.eq_nil_of_length_eq_zero (by simpa using hl)
  rw [List.append_nil, Nat.add_zero] at h
  have hrun : (Builtin.append_ #[t, t] o.type #[v, .slice sa 0 c]).run Tryz.prog w = .ok v w := by
   rcases hown.2 with ⟨rfl, -⟩ | ⟨g, cap, cur, rfl, -, -, hle, -⟩
   ·exact run_append_noneP t o.type e i0 ht hi sa c
   ·exact run_append_more t o.type e i0 ht hi _ n cap hle sa c
  refine wpList_plain hgd fun K hK => ?_
  unfold Oper.wp
  simp [execOp, ho, resolve, invoke, builtin, hs, hx, hrun, Result.andThen]
  exact hK _ _ (h v w hown (grown_refl _ _) (.inl rfl))
 ·obtain ⟨ad, rfl, hcell⟩ := hc hpos
  have hmul : (n + m) * bb <= 140737488355328 := Nat.le_trans (Nat.mul_le_mul hn hbb) (by omega)
  refine wpList_append_lies _ hgd s x t ho base e i0 z 1 bb ht hi hz0 hz1 hz2 hzc (by omega) v n xs hs hown ad m c news hx hl hcell h1 hpos (by unfold maxLen; omega) hmul hbase w.heap.size rfl ?_
  intro g cap w1 hown1 hgr hat _
  refine h _ w1 hown1 hgr ?_
  rcases hat with e | e
  ·exact .inl e.symm
  ·exact .inr (by rw [e]; rfl)
end
section
set_option maxRecDepth 100000
set_option maxHeartbeats 2000000
open Go.RowKit
section
variable {w w' : World} {F : Nat -> Prop} {r m : Nat}
theorem v6data_any (s : Nat) (hs : s <= 1000000) (w : World) : Calls Tryz.prog 149 #[.int .i64 s] w fun e w' => e = .returned (.int .i64 (fillN s : Nat)) /\ w' = w := by
 have h1 : IntKind.i64.wrap ((s : Int) + 511) = (s : Int) + 511 := IntWalk.i64_in _ (by omega)
 go_enter Tryz.func149, Tryz.ntmps149
 go_wp2_with fail
 go_ret
 refine ⟨?_, rfl⟩
 have : ((s : Int) + 511) / 512 = ((fillN s : Nat) : Int) := by unfold fillN; omega
 simp [this]
theorem row_ge {base n : Nat} {e : TypeId} {v : Value} {xs : List Value} (h : w.ownsRow base e 1 v n xs) (i : Nat) (hi : v.ownBlock = some i) : base <= i /\ i < w.heap.size := by
 rcases h.2 with ⟨rfl, -⟩ | ⟨g, cap, cur, rfl, h1, h2, -⟩
 ·cases hi
 ·cases hi; exact ⟨h1, lt_of_heap h2⟩
theorem Ref6.cell0 (h : Ref6 w F r m) : w.cell? ⟨r, 0, none⟩ = some (.pointer (some ⟨m, 0, none⟩)) := by
 obtain ⟨lb, lc, km, kb, kc, fl, kl, h1, -⟩ := h.heap
 exact cell_of_block h1 0
theorem numsI_snoc (xs : List Int) (x : Int) : numsI (xs ++ [x]) = numsI xs ++ numsI [x] := by simp [numsI]
def sliceLen : Value -> Nat
 | .slice _ n _ => n
 | _ => 0
def szF (w : World) (F : Nat -> Prop) (pv : Value) : Nat -> Prop := fun i => F i \/ i = w.heap.size \/ pv.ownBlock = some i
structure SzI (w wr : World) (F : Nat -> Prop) (r m : Nat) (k0 m0 l0 : Int) (bv dv : Value) (pv : Value) (xs : List Int) : Prop where
 ref : Ref6 wr (szF w F pv) r m
 box : ∃ ind : Int, wr.heap[w.heap.size]? = some (.cells #[.int .i64 k0, .int .i64 m0, .int .i64 l0, bv, dv, .int .i64 ind] 94 (0, 0))
 row : wr.ownsRow (w.heap.size + 1) 3 1 pv xs.length (numsI xs)
 keep : Keeps (fun i => i = m) w wr
theorem sz_next {W2 W3 W4 : World} {k0 m0 l0 ind1 : Int} {bv dv : Value} {pa : Option Addr} {pc n2 ds : Nat} {xs : List Int} {pv' : Value} (hlt : xs.length < ds) (hds : ds <= 138) (hr : Ref6 W2 (szF w F (.slice pa xs.length pc)) r m)
  (hbx : W2.heap[w.heap.size]? = some (.cells #[.int .i64 k0, .int .i64 m0, .int .i64 l0, bv, dv, .int .i64 ind1] 94 (0, 0))) (hrw : W2.ownsRow (w.heap.size + 1) 3 1 (.slice pa xs.length pc) xs.length (numsI xs)) (hk : Keeps (fun i => i = m) w W2)
  (hb3 : Below W2.heap.size W2 W3) (hs3 : W3.heap.size = W2.heap.size + 1) (hown : W4.ownsRow (w.heap.size + 1) 3 1 pv' (xs.length + 1) (numsI (xs ++ [(n2 : Int)]))) (hgr : W3.grownBy W4 (Value.slice pa xs.length pc).ownBlock) (hat : pv'.ownBlock = (Value.slice pa xs.length pc).ownBlock \/ pv'.ownBlock = some W3.heap.size) :
  (∃ (xs' : List Int) (pa' : Option Addr) (pc' : Nat), pv' = .slice pa' xs'.length pc' /\ xs'.length <= 138 /\ Hid (SzI w W4 F r m k0 m0 l0 bv dv pv' xs')) /\ ds - sliceLen pv' < ds - sliceLen (.slice pa xs.length pc) := by
 have hl : (xs ++ [(n2 : Int)]).length = xs.length + 1 := by simp
 obtain ⟨pa', pc', rfl⟩ : ∃ pa' pc', pv' = .slice pa' (xs.length + 1) pc' := by
  rcases hown.2 with ⟨e, h0⟩ | ⟨g, cap, cur, e, -⟩
  ·omega
  ·exact ⟨_, cap, e⟩
 have k34 : Keeps (fun i => (Value.slice pa xs.length pc).ownBlock = some i) W3 W4 := Keeps.of_grown hgr (fun i e => e)
 have k24 : Keeps (fun i => (Value.slice pa xs.length pc).ownBlock = some i) W2 W4 := (Keeps.of_below hb3 : Keeps (fun i => (Value.slice pa xs.length pc).ownBlock = some i) W2 W3).trans k34 (fun i e => .inl e)
 have hbi : ∀ i, (Value.slice pa xs.length pc).ownBlock = some i -> w.heap.size + 1 <= i := fun i e => (row_ge hrw i e).1
 refine ⟨⟨xs ++ [(n2 : Int)], pa', pc', by rw [hl], by omega, ?_⟩, by show ds - (xs.length + 1) < ds - xs.length; omega⟩
 refine ⟨hr.keep k24 (fun i e => .inr (.inr e)) (fun i e => ?_), ⟨ind1, k24.heap hbx (fun e => by have := hbi _ e; omega)⟩, by rw [hl]; exact hown, hk.trans k24 (fun i e => .inr (by have := hbi i e; omega))⟩
 rcases e with e | e | e
 ·exact .inl (.inl e)
 ·exact .inl (.inr (.inl e))
 ·rcases hat with h1 | h1
  ·exact .inl (.inr (.inr (h1.symm.trans e)))
  ·rw [h1] at e; cases e; exact .inr (by omega)
theorem sz_cut {W2 : World} {k0 m0 l0 ind1 : Int} {bv dv : Value} {g pc q ds : Nat} {xs : List Int} (hq : q + 1 = xs.length) (hxl : xs.length <= 138) (hgt : ds < xs.length) (hr : Ref6 W2 (szF w F (.slice (some ⟨g, 0, none⟩) xs.length pc)) r m)
  (hbx : W2.heap[w.heap.size]? = some (.cells #[.int .i64 k0, .int .i64 m0, .int .i64 l0, bv, dv, .int .i64 ind1] 94 (0, 0))) (hrw : W2.ownsRow (w.heap.size + 1) 3 1 (.slice (some ⟨g, 0, none⟩) xs.length pc) xs.length (numsI xs)) (hk : Keeps (fun i => i = m) w W2) :
  (∃ (xs' : List Int) (pa' : Option Addr) (pc' : Nat), Value.slice (some ⟨g, 0, none⟩) q pc = .slice pa' xs'.length pc' /\ xs'.length <= 138 /\ ds <= xs'.length /\ Hid (SzI w W2 F r m k0 m0 l0 bv dv (.slice (some ⟨g, 0, none⟩) q pc) xs')) /\ sliceLen (.slice (some ⟨g, 0, none⟩) q pc) < sliceLen (.slice (some ⟨g, 0, none⟩) xs.length pc) := by
 have hl : (xs.take q).length = q := by rw [List.length_take]; omega
 refine ⟨⟨xs.take q, _, pc, by rw [hl], by omega, by omega, hr, ⟨ind1, hbx⟩, ?_, hk⟩, by show q < xs.length; omega⟩
 rw [hl]
 rcases hrw.2 with ⟨e, h0⟩ | ⟨g', cap, cur, e, h1, h2, h3, h4, h5, h6⟩
 ·omega
 ·rw [Value.slice.injEq] at e
  obtain ⟨e, -, rfl⟩ := e
  cases e
  refine ⟨by simp [numsI]; omega, .inr ⟨g, pc, cur, rfl, h1, h2, by omega, h4, h5, ?_⟩⟩
  have h7 := congrArg (List.take (q * 1)) h6
  rw [List.take_take, Nat.min_eq_left (by omega)] at h7
  rw [h7, numsI, numsI, List.map_take, Nat.mul_one]
structure BzI (w W : World) (F : Nat -> Prop) (r m : Nat) (k0 m0 l0 : Int) (bv dv pv : Value) (xs : List Int) (B : Nat) (v : Value) (l : List UInt8) : Prop where
 ref : Ref6 W (fun i => F i \/ i = w.heap.size \/ v.ownBlock = some i) r m
 box : ∃ ind : Int, W.heap[w.heap.size]? = some (.cells #[.int .i64 k0, .int .i64 m0, .int .i64 l0, bv, dv, .int .i64 ind] 94 (0, 0))
 row : W.ownsRow (w.heap.size + 1) 3 1 pv xs.length (numsI xs)
 own : W.ownsRow B 5 1 v l.length (l.map U8)
 keep : Keeps (fun i => i = m) w W
 pvB : ∀ i, pv.ownBlock = some i -> i < B
 boxB : w.heap.size < B
 size : B <= W.heap.size
theorem bz_next {W2 W3 W4 : World} {k0 m0 l0 : Int} {bv dv pv : Value} {xs : List Int} {B : Nat} {va : Option Addr} {vc : Nat} {l : List UInt8} {v' : Value} (h : BzI w W2 F r m k0 m0 l0 bv dv pv xs B (.slice va l.length vc) l)
  (hb3 : Below W2.heap.size W2 W3) (hs3 : W3.heap.size = W2.heap.size + 1) (hown : W4.ownsRow B 5 1 v' (l.length + 1) ((l ++ [0]).map U8)) (hgr : W3.grownBy W4 (Value.slice va l.length vc).ownBlock) (hat : v'.ownBlock = (Value.slice va l.length vc).ownBlock \/ v'.ownBlock = some W3.heap.size) :
  ∃ va' vc', v' = .slice va' (l ++ [(0 : UInt8)]).length vc' /\ BzI w W4 F r m k0 m0 l0 bv dv pv xs B v' (l ++ [0]) := by
 have hl : (l ++ [(0 : UInt8)]).length = l.length + 1 := by simp
 obtain ⟨va', vc', rfl⟩ : ∃ va' vc', v' = .slice va' (l.length + 1) vc' := by
  rcases hown.2 with ⟨e, h0⟩ | ⟨g, cap, cur, e, -⟩
  ·omega
  ·exact ⟨_, cap, e⟩
 have k34 : Keeps (fun i => (Value.slice va l.length vc).ownBlock = some i) W3 W4 := Keeps.of_grown hgr (fun i e => e)
 have k24 : Keeps (fun i => (Value.slice va l.length vc).ownBlock = some i) W2 W4 := (Keeps.of_below hb3 : Keeps (fun i => (Value.slice va l.length vc).ownBlock = some i) W2 W3).trans k34 (fun i e => .inl e)
 have hbi : ∀ i, (Value.slice va l.length vc).ownBlock = some i -> B <= i := fun i e => (row_ge h.own i e).1
 have hbb := h.boxB
 have hws := h.keep.size
 obtain ⟨ind, hbx⟩ := h.box
 refine ⟨va', vc', by rw [hl], h.ref.keep k24 (fun i e => .inr (.inr e)) (fun i e => ?_), ⟨ind, k24.heap hbx (fun e => by have := hbi _ e; omega)⟩, k24.row h.row (fun i e => by have h5 := h.pvB i e; intro e2; have := hbi i e2; omega), by rw [hl]; exact hown, h.keep.trans k24 (fun i e => .inr (by have := hbi i e; omega)), h.pvB, hbb, Nat.le_trans h.size k24.size⟩
 rcases e with e | e | e
 ·exact .inl (.inl e)
 ·exact .inl (.inr (.inl e))
 ·rcases hat with h1 | h1
  ·exact .inl (.inr (.inr (h1.symm.trans e)))
  ·rw [h1] at e; cases e; exact .inr (by omega)
theorem v6resize_r (h : Ref6 w F r m) (hFl : ∀ i, F i -> i < w.heap.size) (j : Nat) (hj : j < 16) (s : Nat) (hs : s <= 70656) : Calls Tryz.prog 100 #[.pointer (some ⟨r, 0, none⟩), .int .i64 j, .int .i64 s] w fun e w' => R6To w F r m w' /\ ((∃ b : Bool, b = false /\ e = .returned (.bool b)) \/ (e = .returned (.bool true) /\ Keeps (fun i => i = r \/ i = m) w w' /\ Ref6 w' F r m /\ ∃ g cp f, w'.cell? ⟨r, 1, none⟩ = some (.slice (some ⟨g, 0, none⟩) 16 cp) /\ w'.rangeAt g (j * 6) (RF.cells f) /\ f.ok w' (zOf F r m) /\ f.b.length = s)) := by
 obtain ⟨lb, lc, km, kb, kc, fl, kl, h1, h2, -⟩ := h.heap
 have c1 : w.cell? ⟨r, 1, none⟩ = some (.slice (some ⟨lb, 0, none⟩) 16 lc) := cell_of_block h1 1
 obtain ⟨k0, m0, l0, b0, ba, bc, d0, da, dc, ind, x0, x1, x2, x3, x4, x5, hok⟩ := h2.six j hj
 have HFl := hid hFl
 have HR := hid h
 have HOk := hid hok
 obtain ⟨i0, hi0, hz0, hz1, hz2⟩ := info_parts infoInt
 have HII := hid hi0
 obtain ⟨w1, hw1⟩ : ∃ w1, w1 = w.alloc (.cells #[.int .i64 k0, .int .i64 m0, .int .i64 l0, .slice ba b0.length bc, .slice da d0.length dc, .int .i64 ind] 94) := ⟨_, rfl⟩
 have HB1 : Hid (Below w.heap.size w w1) := by rw [hw1]; exact (Below.refl _ w).alloc (Nat.le_refl _) _
 have HX1 : Hid (w1.heap[w.heap.size]? = some (.cells #[.int .i64 k0, .int .i64 m0, .int .i64 l0, .slice ba b0.length bc, .slice da d0.length dc, .int .i64 ind] 94 (0, 0))) := by rw [hw1]; exact block_new w _
 have HS1 : Hid (w1.heap.size = w.heap.size + 1) := by rw [hw1]; exact World.size_alloc _ _
 have HW1 := hid hw1
 have HD1 : Hid (0 < d0.length -> ∃ ad, da = some ad /\ ∀ j u, (numsI d0)[j]? = some u -> w1.cell? (ad.add j) = some u) := fun hp => by
  obtain ⟨b, o, e, hc⟩ := hok.data 0 hp
  refine ⟨⟨b, o, none⟩, e, fun t u hu => ?_⟩
  have ht : t < d0.length := by have := (List.getElem?_eq_some_iff.1 hu).1; simpa [numsI] using this
  have h5 := hc t ht
  rw [Addr.add_mid, HB1.out.cell (World.block_lt_of_cell? w _ h5), h5]
  rw [numsI, List.getElem?_map, List.getElem?_eq_getElem ht] at hu
  exact hu
 have hdl : d0.length <= 138 := hok.dl
 clear h h1 h2 hFl hok hi0 hw1
 go_enter Tryz.func100, Tryz.ntmps100
 go_wp2_with (rw [<- HW1.out]; refine wpList_append_row Tryz.underlying60 HII.out hz0 hz1 hz2 rfl (by omega) rfl (.tmp 21) (.tmp 23) rfl (w.heap.size + 1) (.slice none 0 0) 0 [] rfl (World.ownsRow_nil _ _ _ _) da d0.length dc (numsI d0) rfl (by simp [numsI]) HD1.out (fun u hu => by obtain ⟨n, rfl⟩ := numsI_int u hu; rfl) (by omega) (by rw [HS1.out]; exact Nat.le_refl _) ?_; intro pv w2 hown hgr hat; rw [Nat.zero_add, List.nil_append] at hown)
 have hb12 : Below w1.heap.size w1 w2 := ⟨hgr.os, hgr.tape, hgr.output, hgr.size, fun k hk => hgr.block k hk (by simp [Value.ownBlock])⟩
 have hb02 := HB1.out.trans (hb12.mono HB1.out.size)
 obtain ⟨pa, pc, hpv⟩ : ∃ pa pc, pv = .slice pa d0.length pc := by
  rcases hown.2 with ⟨e, h0⟩ | ⟨g, cap, cur, e, -⟩
  ·exact ⟨none, 0, by rw [e, h0]⟩
  ·exact ⟨_, cap, e⟩
 have HSt : Hid (SzI w w2 F r m k0 m0 l0 (.slice ba b0.length bc) (.slice da d0.length dc) pv d0) := ⟨HR.out.keep (Keeps.of_below hb02 : Keeps (fun _ => False) w w2) (fun _ e => e.elim) (fun i e => by rcases e with e | e | e; exact .inl e; exact .inr (by omega); exact .inr (by have := (row_ge hown i e).1; omega)), ⟨ind, below_block hb12 HX1.out (lt_of_heap HX1.out)⟩, hown, Keeps.of_below hb02⟩
 subst hpv
 have HDt := hid (fun W => v6data_any s (by omega) W)
 have HML : Hid (m < w.heap.size) := HR.out.lt.2
 have hds : fillN s <= 138 := by unfold fillN; omega
 generalize fillN s = ds at *
 clear hown hgr hat hb12 hb02 c1 x0 x1 x2 x3 x4 x5 HX1 HD1 HW1 HS1 HB1
 go_loopw [8] (fun v wr => ∃ (xs : List Int) (pa : Option Addr) (pc : Nat), v = .slice pa xs.length pc /\ xs.length <= 138 /\ Hid (SzI w wr F r m k0 m0 l0 (.slice ba b0.length bc) (.slice da d0.length dc) v xs)) (fun v _ => ds - sliceLen v)
 case atStart => exact ⟨d0, pa, pc, rfl, hdl, HSt⟩
 case round =>
  obtain ⟨xs, pa, pc, rfl, hxl, HI⟩ := hrel
  clear HSt
  by_cases hlt : xs.length < ds
  ·have hlt' : (xs.length : Int) < (ds : Int) := by omega
   obtain ⟨ind1, hbx⟩ := HI.out.box
   have HRf := hid HI.out.ref
   have HRw := hid HI.out.row
   have HKp := hid HI.out.keep
   have HBx := hid hbx
   have y5 : wr.cell? ⟨w.heap.size, 5, none⟩ = some (.int .i64 ind1) := cell_of_block hbx 5
   clear HI hbx
   by_cases h10 : xs.length = 10
   ·have hq10 : ((xs.length : Int) == 10) = true := by rw [h10]; rfl
    clear h10
    by_cases hi0 : ind1 = 0
    ·go_wp2_with fail
     refine (HDt.out wr).mono ?_
     rintro e W0 ⟨rfl, h3⟩
     obtain rfl := h3.symm
     clear h3
     have hsz : ∀ i, szF w F (.slice pa xs.length pc) i -> i < wr.heap.size := fun i hi => by
      rcases hi with hi | hi | hi
      ·exact Nat.lt_of_lt_of_le (HFl.out i hi) HKp.out.size
      ·rw [hi]; exact lt_of_heap HBx.out
      ·exact (row_ge HRw.out i hi).2
     have HPg := hid (v5Page_r HRf.out hsz)
     have cr : wr.cell? ⟨r, 0, none⟩ = some (.pointer (some ⟨m, 0, none⟩)) := HRf.out.cell0
     clear hsz
     go_wp2_with fail
     refine HPg.out.mono ?_
     clear HPg
     rintro e W1 ⟨hk2, hr2, rfl | ⟨n1, rfl⟩⟩
     ·have HK2 := hid (HKp.out.trans hk2 (fun i e => .inl e))
      have HR2 := hid (hr2.keep (Keeps.refl (fun _ => False) W1) (fun _ e => e.elim) (F' := F) (fun i e => .inl (.inl e)))
      clear hk2 hr2 cr
      go_wp2_with fail
      go_ret
      exact ⟨⟨HK2.out.mono (fun i e => .inr e), m, .inl rfl, HR2.out⟩, .inl ⟨false, rfl, rfl⟩⟩
     ·have HK2 := hid (HKp.out.trans hk2 (fun i e => .inl e))
      have HR2 := hid hr2
      have HRw2 := hid (hk2.row HRw.out (fun i e => by have h5 := row_ge HRw.out i e; have h7 := HML.out; intro e2; have e2' : i = m := e2; omega))
      have HBx2 := hid (hk2.heap HBx.out (fun e => by have e' : w.heap.size = m := e; have h7 := HML.out; omega))
      clear hk2 hr2 cr HRf HRw HKp HBx
      have z5 : W1.cell? ⟨w.heap.size, 5, none⟩ = some (.int .i64 ind1) := cell_of_block HBx2.out 5
      have g5 : W1.frozen? ⟨w.heap.size, 5, none⟩ = false := frozen_of_block HBx2.out 5
      obtain ⟨W5, hW5⟩ : ∃ W5, W5 = W1.setCell ⟨w.heap.size, 5, none⟩ (.int .i64 (n1 : Int)) := ⟨_, rfl⟩
      have k5 : Keeps (fun i => i = w.heap.size) W1 W5 := by rw [hW5]; exact (Keeps.refl _ W1).grown (grown_setCell (grown_refl _ _) _ _) (fun i e => .inl (Option.some.inj e).symm)
      have HBx : Hid (W5.heap[w.heap.size]? = some (.cells #[.int .i64 k0, .int .i64 m0, .int .i64 l0, .slice ba b0.length bc, .slice da d0.length dc, .int .i64 (n1 : Int)] 94 (0, 0))) := by rw [hW5]; exact block_setCell HBx2.out 5 _
      have HRf := hid (HR2.out.keep k5 (fun i e => .inr (.inl e)) (fun i e => .inl e))
      have HRw := hid (k5.row HRw2.out (fun i e => by have h5 := (row_ge HRw2.out i e).1; intro e2; have e2' : i = w.heap.size := e2; omega))
      have HKp := hid (HK2.out.trans k5 (fun i e => .inr (by have e' : i = w.heap.size := e; omega)))
      have HW5 := hid hW5
      clear k5 hW5 HR2 HRw2 HK2 HBx2 y5
      have hsz : ∀ i, szF w F (.slice pa xs.length pc) i -> i < W5.heap.size := fun i hi => by
       rcases hi with hi | hi | hi
       ·exact Nat.lt_of_lt_of_le (HFl.out i hi) HKp.out.size
       ·rw [hi]; exact lt_of_heap HBx.out
       ·exact (row_ge HRw.out i hi).2
      have HPg := hid (v5Page_r HRf.out hsz)
      have cr : (W1.setCell ⟨w.heap.size, 5, none⟩ (.int .i64 (n1 : Int))).cell? ⟨r, 0, none⟩ = some (.pointer (some ⟨m, 0, none⟩)) := by rw [<- HW5.out]; exact HRf.out.cell0
      clear hsz
      go_wp2_with fail
      rw [<- HW5.out]
      refine HPg.out.mono ?_
      clear HPg
      rintro e W2 ⟨hk2, hr2, rfl | ⟨n2, rfl⟩⟩
      ·have HK2 := hid (HKp.out.trans hk2 (fun i e => .inl e))
       have HR2 := hid (hr2.keep (Keeps.refl (fun _ => False) W2) (fun _ e => e.elim) (F' := F) (fun i e => .inl (.inl e)))
       clear hk2 hr2 cr
       go_wp2_with fail
       go_ret
       exact ⟨⟨HK2.out.mono (fun i e => .inr e), m, .inl rfl, HR2.out⟩, .inl ⟨false, rfl, rfl⟩⟩
      ·have HK2 := hid (HKp.out.trans hk2 (fun i e => .inl e))
       have HR2 := hid hr2
       have HRw2 := hid (hk2.row HRw.out (fun i e => by have h5 := row_ge HRw.out i e; have h7 := HML.out; intro e2; have e2' : i = m := e2; omega))
       have HBx2 := hid (hk2.heap HBx.out (fun e => by have e' : w.heap.size = m := e; have h7 := HML.out; omega))
       clear hk2 hr2 cr HRf HRw HKp HBx
       obtain ⟨W3, hW3⟩ : ∃ W3, W3 = W2.alloc (.cells #[.int .i64 (n2 : Int)] 3) := ⟨_, rfl⟩
       have hb3 : Below W2.heap.size W2 W3 := by rw [hW3]; exact (Below.refl _ W2).alloc (Nat.le_refl _) _
       have hc3 : W3.cell? ⟨W2.heap.size, 0, none⟩ = some (.int .i64 (n2 : Int)) := by rw [hW3]; exact cell_of_block (block_new W2 _) 0
       have hs3 : W3.heap.size = W2.heap.size + 1 := by rw [hW3]; exact World.size_alloc _ _
       have HRw3 := hid ((Keeps.of_below hb3 : Keeps (fun _ => False) W2 W3).row HRw2.out (fun _ _ e => e))
       have HW3 := hid hW3
       have HB3 := hid hb3
       have HC3 := hid hc3
       have HS3 := hid hs3
       clear hW3 hb3 hc3 hs3
       go_wp2_with (rw [<- HW3.out]; refine wpList_append_row Tryz.underlying60 HII.out hz0 hz1 hz2 rfl (by omega) rfl (.tmp 60) (.tmp 62) rfl (w.heap.size + 1) (.slice pa xs.length pc) xs.length (numsI xs) rfl HRw3.out (some ⟨W2.heap.size, 0, none⟩) 1 1 (numsI [(n2 : Int)]) rfl rfl (fun _ => ⟨_, rfl, fun t u hu => by obtain ⟨ht, e⟩ := List.getElem?_eq_some_iff.1 hu; have ht' : t = 0 := (by simp [numsI] at ht; omega); subst ht'; rw [<- e]; exact HC3.out⟩) (fun u hu => by obtain ⟨n, rfl⟩ := numsI_int u hu; rfl) (by omega) (by have h1 := lt_of_heap HBx2.out; have h2 := HS3.out; omega) ?_; intro pv' W4 hown4 hgr4 hat4; rw [<- numsI_snoc] at hown4)
       exact sz_next hlt hds HR2.out HBx2.out HRw2.out HK2.out HB3.out HS3.out hown4 hgr4 hat4
    ·go_wp2_with fail
     refine (HDt.out wr).mono ?_
     rintro e W0 ⟨rfl, h3⟩
     obtain rfl := h3.symm
     clear h3
     have hsz : ∀ i, szF w F (.slice pa xs.length pc) i -> i < wr.heap.size := fun i hi => by
      rcases hi with hi | hi | hi
      ·exact Nat.lt_of_lt_of_le (HFl.out i hi) HKp.out.size
      ·rw [hi]; exact lt_of_heap HBx.out
      ·exact (row_ge HRw.out i hi).2
     have HPg := hid (v5Page_r HRf.out hsz)
     have cr : wr.cell? ⟨r, 0, none⟩ = some (.pointer (some ⟨m, 0, none⟩)) := HRf.out.cell0
     clear hsz
     go_wp2_with fail
     refine HPg.out.mono ?_
     clear HPg
     rintro e W2 ⟨hk2, hr2, rfl | ⟨n2, rfl⟩⟩
     ·have HK2 := hid (HKp.out.trans hk2 (fun i e => .inl e))
      have HR2 := hid (hr2.keep (Keeps.refl (fun _ => False) W2) (fun _ e => e.elim) (F' := F) (fun i e => .inl (.inl e)))
      clear hk2 hr2 cr
      go_wp2_with fail
      go_ret
      exact ⟨⟨HK2.out.mono (fun i e => .inr e), m, .inl rfl, HR2.out⟩, .inl ⟨false, rfl, rfl⟩⟩
     ·have HK2 := hid (HKp.out.trans hk2 (fun i e => .inl e))
      have HR2 := hid hr2
      have HRw2 := hid (hk2.row HRw.out (fun i e => by have h5 := row_ge HRw.out i e; have h7 := HML.out; intro e2; have e2' : i = m := e2; omega))
      have HBx2 := hid (hk2.heap HBx.out (fun e => by have e' : w.heap.size = m := e; have h7 := HML.out; omega))
      clear hk2 hr2 cr HRf HRw HKp HBx
      clear y5
      obtain ⟨W3, hW3⟩ : ∃ W3, W3 = W2.alloc (.cells #[.int .i64 (n2 : Int)] 3) := ⟨_, rfl⟩
      have hb3 : Below W2.heap.size W2 W3 := by rw [hW3]; exact (Below.refl _ W2).alloc (Nat.le_refl _) _
      have hc3 : W3.cell? ⟨W2.heap.size, 0, none⟩ = some (.int .i64 (n2 : Int)) := by rw [hW3]; exact cell_of_block (block_new W2 _) 0
      have hs3 : W3.heap.size = W2.heap.size + 1 := by rw [hW3]; exact World.size_alloc _ _
      have HRw3 := hid ((Keeps.of_below hb3 : Keeps (fun _ => False) W2 W3).row HRw2.out (fun _ _ e => e))
      have HW3 := hid hW3
      have HB3 := hid hb3
      have HC3 := hid hc3
      have HS3 := hid hs3
      clear hW3 hb3 hc3 hs3
      go_wp2_with (rw [<- HW3.out]; refine wpList_append_row Tryz.underlying60 HII.out hz0 hz1 hz2 rfl (by omega) rfl (.tmp 60) (.tmp 62) rfl (w.heap.size + 1) (.slice pa xs.length pc) xs.length (numsI xs) rfl HRw3.out (some ⟨W2.heap.size, 0, none⟩) 1 1 (numsI [(n2 : Int)]) rfl rfl (fun _ => ⟨_, rfl, fun t u hu => by obtain ⟨ht, e⟩ := List.getElem?_eq_some_iff.1 hu; have ht' : t = 0 := (by simp [numsI] at ht; omega); subst ht'; rw [<- e]; exact HC3.out⟩) (fun u hu => by obtain ⟨n, rfl⟩ := numsI_int u hu; rfl) (by omega) (by have h1 := lt_of_heap HBx2.out; have h2 := HS3.out; omega) ?_; intro pv' W4 hown4 hgr4 hat4; rw [<- numsI_snoc] at hown4)
      exact sz_next hlt hds HR2.out HBx2.out HRw2.out HK2.out HB3.out HS3.out hown4 hgr4 hat4
   ·have h10' : ¬ (xs.length : Int) = 10 := by omega
    go_wp2_with fail
    refine (HDt.out wr).mono ?_
    rintro e W0 ⟨rfl, h3⟩
    obtain rfl := h3.symm
    clear h3 y5
    have hsz : ∀ i, szF w F (.slice pa xs.length pc) i -> i < wr.heap.size := fun i hi => by
     rcases hi with hi | hi | hi
     ·exact Nat.lt_of_lt_of_le (HFl.out i hi) HKp.out.size
     ·rw [hi]; exact lt_of_heap HBx.out
     ·exact (row_ge HRw.out i hi).2
    have HPg := hid (v5Page_r HRf.out hsz)
    have cr : wr.cell? ⟨r, 0, none⟩ = some (.pointer (some ⟨m, 0, none⟩)) := HRf.out.cell0
    clear hsz
    go_wp2_with fail
    refine HPg.out.mono ?_
    clear HPg
    rintro e W2 ⟨hk2, hr2, rfl | ⟨n2, rfl⟩⟩
    ·have HK2 := hid (HKp.out.trans hk2 (fun i e => .inl e))
     have HR2 := hid (hr2.keep (Keeps.refl (fun _ => False) W2) (fun _ e => e.elim) (F' := F) (fun i e => .inl (.inl e)))
     clear hk2 hr2 cr
     go_wp2_with fail
     go_ret
     exact ⟨⟨HK2.out.mono (fun i e => .inr e), m, .inl rfl, HR2.out⟩, .inl ⟨false, rfl, rfl⟩⟩
    ·have HK2 := hid (HKp.out.trans hk2 (fun i e => .inl e))
     have HR2 := hid hr2
     have HRw2 := hid (hk2.row HRw.out (fun i e => by have h5 := row_ge HRw.out i e; have h7 := HML.out; intro e2; have e2' : i = m := e2; omega))
     have HBx2 := hid (hk2.heap HBx.out (fun e => by have e' : w.heap.size = m := e; have h7 := HML.out; omega))
     clear hk2 hr2 cr HRf HRw HKp HBx
     obtain ⟨W3, hW3⟩ : ∃ W3, W3 = W2.alloc (.cells #[.int .i64 (n2 : Int)] 3) := ⟨_, rfl⟩
     have hb3 : Below W2.heap.size W2 W3 := by rw [hW3]; exact (Below.refl _ W2).alloc (Nat.le_refl _) _
     have hc3 : W3.cell? ⟨W2.heap.size, 0, none⟩ = some (.int .i64 (n2 : Int)) := by rw [hW3]; exact cell_of_block (block_new W2 _) 0
     have hs3 : W3.heap.size = W2.heap.size + 1 := by rw [hW3]; exact World.size_alloc _ _
     have HRw3 := hid ((Keeps.of_below hb3 : Keeps (fun _ => False) W2 W3).row HRw2.out (fun _ _ e => e))
     have HW3 := hid hW3
     have HB3 := hid hb3
     have HC3 := hid hc3
     have HS3 := hid hs3
     clear hW3 hb3 hc3 hs3
     go_wp2_with (rw [<- HW3.out]; refine wpList_append_row Tryz.underlying60 HII.out hz0 hz1 hz2 rfl (by omega) rfl (.tmp 60) (.tmp 62) rfl (w.heap.size + 1) (.slice pa xs.length pc) xs.length (numsI xs) rfl HRw3.out (some ⟨W2.heap.size, 0, none⟩) 1 1 (numsI [(n2 : Int)]) rfl rfl (fun _ => ⟨_, rfl, fun t u hu => by obtain ⟨ht, e⟩ := List.getElem?_eq_some_iff.1 hu; have ht' : t = 0 := (by simp [numsI] at ht; omega); subst ht'; rw [<- e]; exact HC3.out⟩) (fun u hu => by obtain ⟨n, rfl⟩ := numsI_int u hu; rfl) (by omega) (by have h1 := lt_of_heap HBx2.out; have h2 := HS3.out; omega) ?_; intro pv' W4 hown4 hgr4 hat4; rw [<- numsI_snoc] at hown4)
     exact sz_next hlt hds HR2.out HBx2.out HRw2.out HK2.out HB3.out HS3.out hown4 hgr4 hat4
  ·have hge : ¬ (xs.length : Int) < (ds : Int) := by omega
   go_wp2_with fail
   refine (HDt.out wr).mono ?_
   rintro e W0 ⟨rfl, h3⟩
   obtain rfl := h3.symm
   clear h3
   go_wp2_with fail
   have HSt := hid HI.out
   have hdx0 : ds <= xs.length := by omega
   clear HI hlt hge
   go_loopw [8] (fun v wr => ∃ (xs : List Int) (pa : Option Addr) (pc : Nat), v = .slice pa xs.length pc /\ xs.length <= 138 /\ ds <= xs.length /\ Hid (SzI w wr F r m k0 m0 l0 (.slice ba b0.length bc) (.slice da d0.length dc) v xs)) (fun v _ => sliceLen v)
   case atStart => exact ⟨xs, pa, pc, rfl, hxl, hdx0, HSt⟩
   case round =>
    obtain ⟨xs, pa, pc, rfl, hxl, hdx, HI⟩ := hrel
    clear HSt
    by_cases hgt : ds < xs.length
    ·have hgt' : (ds : Int) < (xs.length : Int) := by omega
     obtain ⟨ind1, hbx⟩ := HI.out.box
     have HRf := hid HI.out.ref
     have HRw := hid HI.out.row
     have HKp := hid HI.out.keep
     have HBx := hid hbx
     clear hbx
     obtain ⟨q, hq⟩ : ∃ q, q + 1 = xs.length := ⟨xs.length - 1, by omega⟩
     obtain ⟨g, z, hpa, hcl⟩ : ∃ g z, pa = some ⟨g, 0, none⟩ /\ wr.cell? ⟨g, q, none⟩ = some (.int .i64 z) := by
      rcases HRw.out.2 with ⟨e, h0⟩ | ⟨g, cap, cur, e, -⟩
      ·omega
      ·rw [Value.slice.injEq] at e
       obtain ⟨rfl, -, rfl⟩ := e
       refine ⟨g, xs[q]'(by omega), rfl, ?_⟩
       rw [HRw.out.cellAt _ (by omega), numsI, List.getElem?_map, List.getElem?_eq_getElem (by omega)]; rfl
     subst hpa
     have hqw : IntKind.i64.wrap ((xs.length : Int) - 1) = (q : Int) := by rw [IntWalk.i64_in _ (by omega)]; omega
     have hql : q < xs.length := by omega
     have hql' : (q : Int) < (xs.length : Int) := by omega
     have HQ := hid hq
     clear HI hq
     go_wp2_with fail
     refine (HDt.out wr).mono ?_
     rintro e W0 ⟨rfl, h3⟩
     obtain rfl := h3.symm
     clear h3
     have hsz : ∀ i, szF w F (.slice (some ⟨g, 0, none⟩) xs.length pc) i -> i < wr.heap.size := fun i hi => by
      rcases hi with hi | hi | hi
      ·exact Nat.lt_of_lt_of_le (HFl.out i hi) HKp.out.size
      ·rw [hi]; exact lt_of_heap HBx.out
      ·exact (row_ge HRw.out i hi).2
     have hbd : Below wr.heap.size wr wr.drew := (Below.refl _ wr).drew
     have HGv := hid (v5GivePage_r (HRf.out.below hbd) (fun i hi => Nat.lt_of_lt_of_le (hsz i hi) hbd.size) z)
     have cr := (HRf.out.below hbd).cell0
     have hcd := (hbd.cell (World.block_lt_of_cell? wr _ hcl)).trans hcl
     have HBd := hid hbd
     have HSz := hid hsz
     clear hsz hbd hcl
     go_wp2_with fail
     refine wp_region_noPanic ?_
     refine wp_region_held_drew (S := fun W => W.cell? ⟨r, 0, none⟩ = some (.pointer (some ⟨m, 0, none⟩)) /\ W.cell? ⟨g, q, none⟩ = some (.int .i64 z)) (by kernel_rfl) ⟨cr, hcd⟩ (fun hHeld => ?_)
     generalize wr.drew = wd at *
     refine tq 0 _ ?_
     try simp only [tS]
     refine tq 1 _ ?_
     try simp only [tS]
     refine tq 2 _ ?_
     try simp only [tS]
     refine tq 3 _ ?_
     try simp only [tS]
     refine tq 4 _ ?_
     try simp only [tS]
     refine tq 5 _ ?_
     try simp only [tS]
     refine tq 6 _ ?_
     try simp only [tS]
     refine tq 7 (.int .i64 (q : Int)) ?_
     try simp only [tS]
     refine tq 8 _ ?_
     try simp only [tS]
     refine tq 9 _ ?_
     try simp only [tS]
     refine wpAnyH_ready (rs := [10]) (by kernel_rfl) (by simp) (AllReadyH.cons rfl (fun K hK => ?_) AllReadyH.nil)
     rw [if_pos (by rfl)]
     go_simp
     refine HGv.out.mono ?_
     clear HGv
     rintro e W2 ⟨hk2, hr2, c2, rfl⟩
     have HK2 := hid ((HKp.out.trans (Keeps.of_below HBd.out : Keeps (fun _ => False) wr wd) (fun _ e => e.elim)).trans hk2 (fun i e => .inl e))
     have hgm : g ≠ m := fun e => by have h5 := (row_ge HRw.out g rfl).1; have h7 := HML.out; omega
     have e0 := hr2.cell0
     have e1 := hk2.cell hcd (fun e => hgm e)
     have HR2 := hid hr2
     have HRw2 := hid (hk2.row ((Keeps.of_below HBd.out : Keeps (fun _ => False) wr wd).row HRw.out (fun _ _ e => e)) (fun i e => by have h5 := row_ge HRw.out i e; have h7 := HML.out; intro e2; have e2' : i = m := e2; omega))
     have HBx2 := hid (hk2.heap (below_block HBd.out HBx.out (lt_of_heap HBx.out)) (fun e => by have e' : w.heap.size = m := e; have h7 := HML.out; omega))
     clear hk2 hr2 hgm cr hcd
     go_wp2_with fail
     refine hK.out _ _ ⟨e0, e1⟩ (fun hHeld => ?_)
     clear hK K
     try simp only [tS]
     refine wpAnyH_done (by kernel_rfl) ?_ _
     refine NoPanic.normal ?_
     clear hHeld e1
     have hpc : xs.length <= pc := by
      rcases HRw2.out.2 with ⟨e, h0⟩ | ⟨g', cap, cur, e, -, -, hle, -⟩
      ·omega
      ·rw [Value.slice.injEq] at e
       obtain ⟨-, -, rfl⟩ := e
       exact hle
     have hqc : q <= pc := by omega
     have hqc' : (q : Int) <= (pc : Int) := by omega
     have hq0' : (0 : Int) <= (q : Int) := by omega
     by_cases h10 : q = 10
     ·have hq10 : ((q : Int) == 10) = true := by rw [h10]; rfl
      clear h10
      have y5 : W2.cell? ⟨w.heap.size, 5, none⟩ = some (.int .i64 ind1) := cell_of_block HBx2.out 5
      have hsz2 : ∀ i, szF w F (.slice (some ⟨g, 0, none⟩) xs.length pc) i -> i < W2.heap.size := fun i hi => by
       rcases hi with hi | hi | hi
       ·exact Nat.lt_of_lt_of_le (HFl.out i hi) HK2.out.size
       ·rw [hi]; exact lt_of_heap HBx2.out
       ·exact (row_ge HRw2.out i hi).2
      have hbd2 : Below W2.heap.size W2 W2.drew := (Below.refl _ W2).drew
      have HGv := hid (v5GivePage_r (HR2.out.below hbd2) (fun i hi => Nat.lt_of_lt_of_le (hsz2 i hi) hbd2.size) ind1)
      have cr := (HR2.out.below hbd2).cell0
      have hcd := (hbd2.cell (World.block_lt_of_cell? W2 _ y5)).trans y5
      have HBd2 := hid hbd2
      clear hsz2 hbd2 y5 e0
      go_wp2_with fail
      refine wp_region_noPanic ?_
      refine wp_region_held_drew (S := fun W => W.cell? ⟨r, 0, none⟩ = some (.pointer (some ⟨m, 0, none⟩)) /\ W.cell? ⟨w.heap.size, 5, none⟩ = some (.int .i64 ind1)) (by kernel_rfl) ⟨cr, hcd⟩ (fun hHeld => ?_)
      generalize W2.drew = we at *
      refine tq 0 _ ?_
      try simp only [tS]
      refine tq 1 _ ?_
      try simp only [tS]
      refine tq 2 _ ?_
      try simp only [tS]
      refine tq 3 _ ?_
      try simp only [tS]
      refine tq 4 _ ?_
      try simp only [tS]
      refine tq 5 _ ?_
      try simp only [tS]
      refine wpAnyH_ready (rs := [6]) (by kernel_rfl) (by simp) (AllReadyH.cons rfl (fun K hK => ?_) AllReadyH.nil)
      rw [if_pos (by rfl)]
      go_simp
      refine HGv.out.mono ?_
      clear HGv
      rintro e W6 ⟨hk6, hr6, c6, rfl⟩
      have hbm : ¬ w.heap.size = m := fun e => by have h7 := HML.out; omega
      have k26 : Keeps (fun i => i = m) W2 W6 := (Keeps.of_below HBd2.out : Keeps (fun i => i = m) W2 we).trans hk6 (fun i e => .inl e)
      have HK6 := hid (HK2.out.trans k26 (fun i e => .inl e))
      have hbx6 := k26.heap HBx2.out (fun e => hbm e)
      have e0 := hr6.cell0
      have e1 : W6.cell? ⟨w.heap.size, 5, none⟩ = some (.int .i64 ind1) := cell_of_block hbx6 5
      have g1 : W6.frozen? ⟨w.heap.size, 5, none⟩ = false := frozen_of_block hbx6 5
      have HR6 := hid hr6
      have HBx6 := hid hbx6
      have HRw6 := hid (k26.row HRw2.out (fun i e => by have h5 := row_ge HRw2.out i e; have h7 := HML.out; intro e2; have e2' : i = m := e2; omega))
      clear hk6 hr6 hbx6 k26 hbm cr hcd
      go_wp2_with fail
      refine hK.out _ _ ⟨e0, e1⟩ (fun hHeld => ?_)
      clear hK K
      try simp only [tS]
      refine wpAnyH_done (by kernel_rfl) ?_ _
      refine NoPanic.normal ?_
      clear hHeld
      go_wp2_with fail
      have k7 : Keeps (fun i => i = w.heap.size) W6 (W6.setCell ⟨w.heap.size, 5, none⟩ (.int .i64 0)) := (Keeps.refl _ W6).grown (grown_setCell (grown_refl _ _) _ _) (fun i e => .inl (Option.some.inj e).symm)
      exact sz_cut HQ.out hxl hgt (HR6.out.keep k7 (fun i e => .inr (.inl e)) (fun i e => .inl e)) (block_setCell HBx6.out 5 (.int .i64 0)) (k7.row HRw6.out (fun i e => by have h5 := (row_ge HRw6.out i e).1; intro e2; have e2' : i = w.heap.size := e2; omega)) (HK6.out.trans k7 (fun i e => .inr (by have e' : i = w.heap.size := e; omega)))
     ·have h10' : ¬ (q : Int) = 10 := by omega
      go_wp2_with fail
      exact sz_cut HQ.out hxl hgt HR2.out HBx2.out HRw2.out HK2.out
    ·have hle : ¬ (ds : Int) < (xs.length : Int) := by omega
     have hxe : xs.length = ds := by omega
     obtain ⟨ind1, hbx⟩ := HI.out.box
     have y3 : wr.cell? ⟨w.heap.size, 3, none⟩ = some (.slice ba b0.length bc) := cell_of_block hbx 3
     have HXe := hid hxe
     clear hbx hxe
     go_wp2_with fail
     refine (HDt.out wr).mono ?_
     rintro e W0 ⟨rfl, h3⟩
     obtain rfl := h3.symm
     clear h3
     obtain ⟨i8, hi8, hy0, hy1, hy2⟩ := info_parts infoU8
     have HI8 := hid hi8
     have HBb : Hid (0 < b0.length -> ∃ ad, ba = some ad /\ ∀ t u, (b0.map U8)[t]? = some u -> wr.cell? (ad.add t) = some u) := fun hp => by
      obtain ⟨b, o, e, hc⟩ := HOk.out.bytes 0 hp
      refine ⟨⟨b, o, none⟩, e, fun t u hu => ?_⟩
      have ht : t < b0.length := by have := (List.getElem?_eq_some_iff.1 hu).1; simpa using this
      have h5 := HI.out.keep.cell (hc t ht) (fun e2 => (HOk.out.bz b o e).1 (.inr (.inr e2)))
      rw [Addr.add_mid, h5]
      rw [List.getElem?_map, List.getElem?_eq_getElem ht] at hu
      exact hu
     have hbl : b0.length <= 70656 := HOk.out.bl
     clear hi8
     go_wp2_with (refine wpList_append_row Tryz.underlying42 HI8.out hy0 hy1 hy2 rfl (by omega) rfl (.tmp 96) (.tmp 98) rfl wr.heap.size (.slice none 0 0) 0 [] rfl (World.ownsRow_nil _ _ _ _) ba b0.length bc (b0.map U8) rfl (by simp) HBb.out (fun u hu => by obtain ⟨x, -, rfl⟩ := List.mem_map.1 hu; rfl) (by omega) (Nat.le_refl _) ?_; intro bv W2 hown hgr hat; rw [Nat.zero_add, List.nil_append] at hown)
     have hb2 : Below wr.heap.size wr W2 := ⟨hgr.os, hgr.tape, hgr.output, hgr.size, fun k hk => hgr.block k hk (by simp [Value.ownBlock])⟩
     obtain ⟨va, vc, hbv⟩ : ∃ va vc, bv = .slice va b0.length vc := by
      rcases hown.2 with ⟨e, h0⟩ | ⟨g, cap, cur, e, -⟩
      ·exact ⟨none, 0, by rw [e, h0]⟩
      ·exact ⟨_, cap, e⟩
     subst hbv
     have HBz : Hid (BzI w W2 F r m k0 m0 l0 (.slice ba b0.length bc) (.slice da d0.length dc) (.slice pa xs.length pc) xs wr.heap.size (.slice va b0.length vc) b0) := by
      have hI := HI.out
      obtain ⟨ind2, hbx⟩ := hI.box
      exact ⟨hI.ref.keep (Keeps.of_below hb2 : Keeps (fun _ => False) wr W2) (fun _ e => e.elim) (fun i e => by rcases e with e | e | e; exact .inl (.inl e); exact .inl (.inr (.inl e)); exact .inr (row_ge hown i e).1), ⟨ind2, below_block hb2 hbx (lt_of_heap hbx)⟩, (Keeps.of_below hb2 : Keeps (fun _ => False) wr W2).row hI.row (fun _ _ e => e), hown, hI.keep.trans (Keeps.of_below hb2 : Keeps (fun _ => False) wr W2) (fun _ e => e.elim), fun i e => (row_ge hI.row i e).2, lt_of_heap hbx, hb2.size⟩
     generalize wr.heap.size = B at *
     clear hgr hat hb2 hown HI HBb
     go_loopw [13] (fun v wr => ∃ (l : List UInt8) (va : Option Addr) (vc : Nat), v = .slice va l.length vc /\ l.length <= 70656 /\ Hid (BzI w wr F r m k0 m0 l0 (.slice ba b0.length bc) (.slice da d0.length dc) (.slice pa xs.length pc) xs B v l)) (fun v _ => s - sliceLen v)
     case atStart => exact ⟨b0, va, vc, rfl, hbl, HBz⟩
     case round =>
      obtain ⟨l, va, vc, rfl, hll, HI⟩ := hrel
      clear HBz
      by_cases hlt : l.length < s
      ·have hlt' : (l.length : Int) < (s : Int) := by omega
       obtain ⟨W3, hW3⟩ : ∃ W3, W3 = wr.alloc (.cells #[.int .u8 0] 5) := ⟨_, rfl⟩
       have hb3 : Below wr.heap.size wr W3 := by rw [hW3]; exact (Below.refl _ wr).alloc (Nat.le_refl _) _
       have hc3 : W3.cell? ⟨wr.heap.size, 0, none⟩ = some (.int .u8 0) := by rw [hW3]; exact cell_of_block (block_new wr _) 0
       have hs3 : W3.heap.size = wr.heap.size + 1 := by rw [hW3]; exact World.size_alloc _ _
       have HOw3 := hid ((Keeps.of_below hb3 : Keeps (fun _ => False) wr W3).row HI.out.own (fun _ _ e => e))
       have HW3 := hid hW3
       have HB3 := hid hb3
       have HC3 := hid hc3
       have HS3 := hid hs3
       clear hW3 hb3 hc3 hs3
       go_wp2_with (rw [<- HW3.out]; refine wpList_append_row Tryz.underlying42 HI8.out hy0 hy1 hy2 rfl (by omega) rfl (.tmp 104) (.tmp 105) rfl B (.slice va l.length vc) l.length (l.map U8) rfl HOw3.out (some ⟨wr.heap.size, 0, none⟩) 1 1 ([(0 : UInt8)].map U8) rfl rfl (fun _ => ⟨_, rfl, fun t u hu => by obtain ⟨ht, e⟩ := List.getElem?_eq_some_iff.1 hu; have ht' : t = 0 := (by simp at ht; omega); subst ht'; rw [<- e]; exact HC3.out⟩) (fun u hu => by obtain ⟨x, -, rfl⟩ := List.mem_map.1 hu; rfl) (by omega) (by have h1 := HI.out.size; have h2 := HS3.out; omega) ?_; intro v' W4 hown4 hgr4 hat4; rw [<- List.map_append] at hown4)
       obtain ⟨va', vc', rfl, hnx⟩ := bz_next HI.out HB3.out HS3.out hown4 hgr4 hat4
       exact ⟨⟨l ++ [0], va', vc', rfl, by simp; omega, hnx⟩, by show s - (l ++ [(0 : UInt8)]).length < s - l.length; simp; omega⟩
      ·have hge : ¬ (l.length : Int) < (s : Int) := by omega
       have hsl : s <= l.length := by omega
       obtain ⟨ind2, hbx⟩ := HI.out.box
       have hvc : l.length <= vc := by
        rcases HI.out.own.2 with ⟨e, h0⟩ | ⟨g, cap, cur, e, -, -, hle, -⟩
        ·omega
        ·rw [Value.slice.injEq] at e
         obtain ⟨-, -, rfl⟩ := e
         exact hle
       have hsc : (s : Int) <= (vc : Int) := by omega
       have hs0 : (0 : Int) <= (s : Int) := by omega
       have HBx := hid hbx
       clear hbx
       have hrs : ∀ W, (Instr.slice 42 (.slice va l.length vc) none (some (.int .i64 (s : Int))) none).run Tryz.prog W = .ok (.slice va s vc) W := fun W => by
        cases va with
        | none => simp [Instr.slice, Instr.sliceBounds, go_sem, hs0, hsc]
        | some ad => simp [Instr.slice, Instr.sliceBounds, go_sem, hs0, hsc]
       have HRs := hid hrs
       clear hrs
       go_wp2_with fail
       have hbd : Below wr.heap.size wr wr.drew := (Below.refl _ wr).drew
       have hbxd := below_block hbd HBx.out (lt_of_heap HBx.out)
       have HId : Hid (BzI w wr.drew F r m k0 m0 l0 (.slice ba b0.length bc) (.slice da d0.length dc) (.slice pa xs.length pc) xs B (.slice va l.length vc) l) :=
        ⟨HI.out.ref.below hbd, ⟨ind2, hbxd⟩, (Keeps.of_below hbd : Keeps (fun _ => False) wr wr.drew).row HI.out.row (fun _ _ e => e), (Keeps.of_below hbd : Keeps (fun _ => False) wr wr.drew).row HI.out.own (fun _ _ e => e), HI.out.keep.trans (Keeps.of_below hbd : Keeps (fun _ => False) wr wr.drew) (fun _ e => e.elim), HI.out.pvB, HI.out.boxB, Nat.le_trans HI.out.size hbd.size⟩
       refine wp_region_noPanic ?_
       refine wp_region_held_drew (S := fun _ => True) (by kernel_rfl) trivial (fun hHeld => ?_)
       generalize wr.drew = wd at *
       have z3 : wd.cell? ⟨w.heap.size, 3, none⟩ = some (.slice ba b0.length bc) := cell_of_block hbxd 3
       have z4 : wd.cell? ⟨w.heap.size, 4, none⟩ = some (.slice da d0.length dc) := cell_of_block hbxd 4
       have q3 : wd.frozen? ⟨w.heap.size, 3, none⟩ = false := frozen_of_block hbxd 3
       have q4 : wd.frozen? ⟨w.heap.size, 4, none⟩ = false := frozen_of_block hbxd 4
       have HBd := hid hbxd
       clear hbd hbxd HI HBx
       refine tq 0 _ ?_
       try simp only [tS]
       refine tq 1 _ ?_
       try simp only [tS]
       refine tq 2 _ ?_
       try simp only [tS]
       have hrs := HRs.out
       refine tq 3 (.slice va s vc) ?_
       try simp only [tS]
       clear hrs
       refine tq 4 _ ?_
       try simp only [tS]
       refine wpAnyH_ready (rs := [5]) (by kernel_rfl) (by simp) (AllReadyH.cons rfl (fun K hK => ?_) AllReadyH.nil)
       rw [if_pos (by rfl)]
       go_simp
       refine hK _ _ trivial (fun hHeld => ?_)
       clear hK K z3 z4 q3 q4
       try simp only [tS]
       obtain ⟨we, hwe⟩ : ∃ we, we = wd.setCell ⟨w.heap.size, 4, none⟩ (.slice pa xs.length pc) := ⟨_, rfl⟩
       rw [<- hwe]
       have hbe : we.heap[w.heap.size]? = some (.cells #[.int .i64 k0, .int .i64 m0, .int .i64 l0, .slice ba b0.length bc, .slice pa xs.length pc, .int .i64 ind2] 94 (0, 0)) := by rw [hwe]; exact block_setCell HBd.out 4 _
       have hke : Keeps (fun i => i = w.heap.size) wd we := by rw [hwe]; exact (Keeps.refl _ wd).grown (grown_setCell (grown_refl _ _) _ _) (fun i e => .inl (Option.some.inj e).symm)
       have z3 : we.cell? ⟨w.heap.size, 3, none⟩ = some (.slice ba b0.length bc) := cell_of_block hbe 3
       have q3 : we.frozen? ⟨w.heap.size, 3, none⟩ = false := frozen_of_block hbe 3
       have HBe := hid hbe
       have HKe := hid hke
       clear hbe hke hwe
       refine tq 6 _ ?_
       try simp only [tS]
       refine wpAnyH_ready (rs := [7]) (by kernel_rfl) (by simp) (AllReadyH.cons rfl (fun K hK => ?_) AllReadyH.nil)
       rw [if_pos (by rfl)]
       go_simp
       refine hK _ _ trivial (fun hHeld => ?_)
       clear hK K z3 q3
       try simp only [tS]
       refine wpAnyH_done (by kernel_rfl) ?_ _
       refine NoPanic.normal ?_
       clear hHeld
       obtain ⟨wf, hwf⟩ : ∃ wf, wf = we.setCell ⟨w.heap.size, 3, none⟩ (.slice va s vc) := ⟨_, rfl⟩
       rw [<- hwf]
       have hbf : wf.heap[w.heap.size]? = some (.cells #[.int .i64 k0, .int .i64 m0, .int .i64 l0, .slice va s vc, .slice pa xs.length pc, .int .i64 ind2] 94 (0, 0)) := by rw [hwf]; exact block_setCell HBe.out 3 _
       have hkf : Keeps (fun i => i = w.heap.size) wd wf := by rw [hwf]; exact HKe.out.grown (grown_setCell (grown_refl _ _) _ _) (fun i e => .inl (Option.some.inj e).symm)
       have z0 : wf.cell? ⟨w.heap.size, 0, none⟩ = some (.int .i64 k0) := cell_of_block hbf 0
       have z1 : wf.cell? ⟨w.heap.size, 1, none⟩ = some (.int .i64 m0) := cell_of_block hbf 1
       have z2 : wf.cell? ⟨w.heap.size, 2, none⟩ = some (.int .i64 l0) := cell_of_block hbf 2
       have z3 : wf.cell? ⟨w.heap.size, 3, none⟩ = some (.slice va s vc) := cell_of_block hbf 3
       have z4 : wf.cell? ⟨w.heap.size, 4, none⟩ = some (.slice pa xs.length pc) := cell_of_block hbf 4
       have z5 : wf.cell? ⟨w.heap.size, 5, none⟩ = some (.int .i64 ind2) := cell_of_block hbf 5
       have hI := HId.out
       have hBb := hI.boxB
       have hrl := HR.out.lt
       have hown := hkf.row hI.own (fun i e e2 => by have h5 := (row_ge hI.own i e).1; have e3 : i = w.heap.size := e2; omega)
       have hrow := hkf.row hI.row (fun i e e2 => by have h5 := (row_ge hI.row i e).1; have e3 : i = w.heap.size := e2; omega)
       have hl' : (l.take s).length = s := by rw [List.length_take]; omega
       have hnew : ∀ i, w.heap.size < i -> i < wf.heap.size -> rdZ wf (zOf F r m) i := fun i h1 h2 => ⟨fun hh => by
        rcases hh with hh | hh | hh
        ·have := HFl.out i hh; omega
        ·omega
        ·omega, h2⟩
       have hok' : RF.ok wf (zOf F r m) ⟨k0, m0, l0, l.take s, va, vc, xs, pa, pc, ind2⟩ := by
        refine ⟨fun j hj => ?_, fun b o e => ?_, fun j hj => ?_, fun b o e => ?_, by show (l.take s).length <= 70656; omega, hxl⟩
        ·have hj' : j < l.length := by have h5 : j < (l.take s).length := hj; omega
         rcases hown.2 with ⟨e, h0⟩ | ⟨g, cap, cur, e, -⟩
         ·omega
         ·rw [Value.slice.injEq] at e
          obtain ⟨e, -, rfl⟩ := e
          subst e
          refine ⟨g, 0, rfl, fun i hi => ?_⟩
          have hi' : i < l.length := by have h5 : i < (l.take s).length := hi; omega
          rw [Nat.zero_add, hown.cellAt i (by omega), List.getElem?_map, List.getElem?_eq_getElem hi']
          simp [U8]
        ·have hv : va = some ⟨b, o, none⟩ := e
         subst hv
         rcases hown.2 with ⟨e, h0⟩ | ⟨g, cap, cur, e, h5, h6, -⟩
         ·cases e
         ·cases e
          exact hnew b (by omega) (lt_of_heap h6)
        ·have hj' : j < xs.length := hj
         rcases hrow.2 with ⟨e, h0⟩ | ⟨g, cap, cur, e, -⟩
         ·omega
         ·rw [Value.slice.injEq] at e
          obtain ⟨e, -, rfl⟩ := e
          subst e
          refine ⟨g, 0, rfl, fun i hi => ?_⟩
          have hi' : i < xs.length := hi
          rw [Nat.zero_add, hrow.cellAt i (by omega), numsI, List.getElem?_map, List.getElem?_eq_getElem hi']
          rfl
        ·have hv : pa = some ⟨b, o, none⟩ := e
         subst hv
         rcases hrow.2 with ⟨e, h0⟩ | ⟨g, cap, cur, e, h5, h6, -⟩
         ·cases e
         ·cases e
          exact hnew b (by omega) (lt_of_heap h6)
       have href : Ref6 wf F r m := hI.ref.keep hkf (fun i e => .inr (.inl e)) (fun i e => .inl (.inl e))
       have hwl : w.heap.size <= wf.heap.size := by have h5 := lt_of_heap hbf; omega
       have hse := v6set_any href (fun i hi => Nat.lt_of_lt_of_le (HFl.out i hi) hwl) j hj ⟨k0, m0, l0, l.take s, va, vc, xs, pa, pc, ind2⟩ hok'
       have hce : (RF.cells ⟨k0, m0, l0, l.take s, va, vc, xs, pa, pc, ind2⟩).toArray = #[.int .i64 k0, .int .i64 m0, .int .i64 l0, .slice va s vc, .slice pa xs.length pc, .int .i64 ind2] := by
        unfold RF.cells
        rw [hl']
       rw [hce] at hse
       have HSe := hid hse
       have HKf : Hid (Keeps (fun i => i = m) w wf) := hI.keep.trans hkf (fun i e => .inr (by have e' : i = w.heap.size := e; omega))
       have HOk2 := hid hok'
       have HLs := hid hl'
       clear hse hce href hwl hok' hnew hl' hrow hown hrl hBb hI hkf hbf hwf HId HKe HBe HBd
       go_wp2_with fail
       refine HSe.out.mono ?_
       clear HSe
       rintro e wg ⟨rfl, hkg, hrg, g, cp, hcg, hrowg⟩
       have HKg := hid hkg
       have HRg := hid (And.intro hrg (And.intro hcg hrowg))
       clear hkg hrg hcg hrowg
       go_wp2
       go_ret
       obtain ⟨hrg, hcg, hrowg⟩ := HRg.out
       have kk : Keeps (fun i => i = r \/ i = m) w wg := (HKf.out.mono (fun i e => .inr e)).trans HKg.out (fun i e => .inl (.inl e))
       exact ⟨⟨kk, m, .inl rfl, hrg⟩, .inr ⟨rfl, kk, hrg, g, cp, _, hcg, hrowg, HOk2.out.keep HKg.out (fun i _ hn e => hn (.inr (.inl e))) (fun _ _ hn => hn), HLs.out⟩⟩
end
end
section
set_option maxRecDepth 100000
set_option maxHeartbeats 2000000
open Go.RowKit
theorem own_set {w : World} {B g n c : Nat} {l : List UInt8} (h : w.ownsRow B 5 1 (.slice (some ⟨g, 0, none⟩) n c) n (l.map U8)) (hl : l.length = n) (j : Nat) (hj : j < n) (x : UInt8) :
  (∃ old, w.cell? ⟨g, j, none⟩ = some old) /\ w.frozen? ⟨g, j, none⟩ = false /\ (w.setCell ⟨g, j, none⟩ (.int .u8 (x.toNat : Int))).ownsRow B 5 1 (.slice (some ⟨g, 0, none⟩) n c) n ((l.set j x).map U8) := by
 refine ⟨?_, ?_, ?_⟩
 ·rw [h.cellAt j (by omega), List.getElem?_map, List.getElem?_eq_getElem (by omega)]
  exact ⟨_, rfl⟩
 ·rcases h.2 with ⟨e, h0⟩ | ⟨g', cap, cur, e, h1, h2, -⟩
  ·cases e
  ·cases e
   exact frozen_of_block h2 _
 ·rcases h.2 with ⟨e, h0⟩ | ⟨g', cap, cur, e, h1, h2, h3, h4, h5, h6⟩
  ·cases e
  ·cases e
   refine ⟨by simp [hl], .inr ⟨g, c, _, rfl, h1, block_setCell h2 j _, h3, h4, by rw [Array.size_setIfInBounds]; exact h5, ?_⟩⟩
   rw [Array.toList_setIfInBounds, List.take_set, h6, List.map_set]
   rfl
section
variable {w w' : World} {F : Nat -> Prop} {r m : Nat}
theorem v6Write_r (h : Ref6 w F r m) (hFl : ∀ i, F i -> i < w.heap.size) (i a : Int) (g : Nat) (l : List UInt8) (hl : ownB w g l) (hgz : ¬ zOf F r m g) (hL : l.length <= 8000) : Calls Tryz.prog 45 #[.pointer (some ⟨r, 0, none⟩), .int .i64 i, .int .i64 a, .slice (some ⟨g, 0, none⟩) l.length l.length] w fun e w' => R6To w F r m w' /\ ∃ c : Int, e = .returned (.int .i64 c) := by
 obtain ⟨lb, lc, km, kb, kc, fl, kl, h1, h2, -⟩ := h.heap
 have c1 : w.cell? ⟨r, 1, none⟩ = some (.slice (some ⟨lb, 0, none⟩) 16 lc) := cell_of_block h1 1
 have HLk := hid (v6look_any h i)
 have HFl := hid hFl
 have HR := hid h
 have HSd := hid h2
 have HOb := hid hl
 have HGz := hid hgz
 obtain ⟨n, hn⟩ : ∃ n, n = l.length := ⟨_, rfl⟩
 rw [<- hn] at hL ⊢
 have HN := hid hn
 clear h h1 h2 hFl hl hgz hn
 go_enter Tryz.func45, Tryz.ntmps45
 go_wp2_with fail
 refine HLk.out.mono ?_
 clear HLk
 rintro e w1 ⟨h1, nn, rfl, hn⟩
 obtain rfl := h1.symm
 clear h1
 rcases hn with rfl | rfl | ⟨rfl, hi1, hi2⟩
 ·go_wp2_with fail
  go_ret
  exact ⟨R6To.refl HR.out, 2, rfl⟩
 ·go_wp2_with fail
  go_ret
  exact ⟨R6To.refl HR.out, 4, rfl⟩
 ·obtain ⟨j, rfl⟩ : ∃ j : Nat, i = (j : Int) := ⟨i.toNat, by omega⟩
  have HK := hid (R6To.refl HR.out)
  by_cases b1 : a < 0
  ·clear HSd HR
   go_wp2_with fail
   go_ret
   exact ⟨HK.out, 2, rfl⟩
  ·by_cases b2 : n = 0
   ·by_cases b3 : a <= 70656
    ·clear HSd HR
     go_wp2_with fail
     go_ret
     exact ⟨HK.out, 0, rfl⟩
    ·have b3' : 70656 < a := by omega
     clear HSd HR
     go_wp2_with fail
     go_ret
     exact ⟨HK.out, 6, rfl⟩
   ·have b2' : ¬ ((n : Int) = 0) := by omega
    by_cases b3 : 70656 < a
    ·clear HSd HR
     go_wp2_with fail
     go_ret
     exact ⟨HK.out, 6, rfl⟩
    ·by_cases b4 : 70656 - a < (n : Int)
     ·clear HSd HR
      go_wp2_with fail
      go_ret
      exact ⟨HK.out, 6, rfl⟩
     ·obtain ⟨an, rfl⟩ : ∃ an : Nat, a = (an : Int) := ⟨a.toNat, by omega⟩
      obtain ⟨q, hq⟩ : ∃ q : Nat, (an : Int) + (n : Int) = (q : Int) := ⟨an + n, by omega⟩
      have hq7 : q <= 70656 := by omega
      have hqn : an + n = q := by omega
      obtain ⟨k0, m0, l0, b0, ba, bc, d0, da, dc, ind, x0, x1, x2, x3, x4, x5, hok⟩ := HSd.out.six j (by omega)
      have hb7 : b0.length <= 70656 := hok.bl
      have hj16 : j < 16 := by omega
      clear hok HSd
      by_cases b5 : b0.length < q
      ·have b5' : (b0.length : Int) < (q : Int) := by omega
       have HRz := hid (v6resize_r HR.out HFl.out j hj16 q hq7)
       have hqs : an + n <= q := by omega
       clear x0 x1 x2 x4 x5
       go_wp2_with fail
       refine HRz.out.mono ?_
       clear HRz
       rintro e w1 ⟨hto, ⟨b, rfl, rfl⟩ | ⟨rfl, hk1, hr1, g1, cp1, f1, hc1, hrow1, hok1, hl1⟩⟩
       ·obtain ⟨kk, m', hm', hr'⟩ := hto
        have HFu := hid (v6full_r hr' (fun i hi => Nat.lt_of_lt_of_le (HFl.out i hi) kk.size))
        have HKk := hid kk
        clear kk hr' c1 x3
        go_wp2_with fail
        refine HFu.out.mono ?_
        clear HFu
        rintro e w2 ⟨rfl, hk2, m2, hm2, hr2⟩
        have HK2 := hid hk2
        have HR2 := hid hr2
        clear hk2 hr2
        go_wp2_with fail
        go_ret
        have hs := HKk.out.size
        exact ⟨⟨HKk.out.trans HK2.out (fun i e => .inl (.inl e)), m2, .inr (by omega), HR2.out⟩, 7, rfl⟩
       ·clear hto
        obtain ⟨k1, m1, l1, b1, ba1, bc1, d1, da1, dc1, ind1⟩ := f1
        have y0 : w1.cell? ⟨g1, j * 6, none⟩ = some (.int .i64 k1) := hrow1 0 _ rfl
        have y1 : w1.cell? ⟨g1, j * 6 + 1, none⟩ = some (.int .i64 m1) := hrow1 1 _ rfl
        have y2 : w1.cell? ⟨g1, j * 6 + 2, none⟩ = some (.int .i64 l1) := hrow1 2 _ rfl
        have y3 : w1.cell? ⟨g1, j * 6 + 3, none⟩ = some (.slice ba1 b1.length bc1) := hrow1 3 _ rfl
        have y4 : w1.cell? ⟨g1, j * 6 + 4, none⟩ = some (.slice da1 d1.length dc1) := hrow1 4 _ rfl
        have y5 : w1.cell? ⟨g1, j * 6 + 5, none⟩ = some (.int .i64 ind1) := hrow1 5 _ rfl
        have HOk1 := hid hok1
        have HK1 := hid hk1
        have HR1 := hid hr1
        have HL1 := hid hl1
        clear hrow1 hok1 hk1 hr1 hl1 x3 c1
        obtain ⟨W2, hW2⟩ : ∃ W2, W2 = w1.alloc (.cells #[.int .i64 k1, .int .i64 m1, .int .i64 l1, .slice ba1 b1.length bc1, .slice da1 d1.length dc1, .int .i64 ind1] 94) := ⟨_, rfl⟩
        have HB12 : Hid (Below w1.heap.size w1 W2) := by rw [hW2]; exact (Below.refl _ w1).alloc (Nat.le_refl _) _
        have HBx : Hid (W2.heap[w1.heap.size]? = some (.cells #[.int .i64 k1, .int .i64 m1, .int .i64 l1, .slice ba1 b1.length bc1, .slice da1 d1.length dc1, .int .i64 ind1] 94 (0, 0))) := by rw [hW2]; exact block_new w1 _
        have HS2 : Hid (W2.heap.size = w1.heap.size + 1) := by rw [hW2]; exact World.size_alloc _ _
        have HW2 := hid hW2
        have hb17 : b1.length <= 70656 := HOk1.out.bl
        have HBb : Hid (0 < b1.length -> ∃ ad, ba1 = some ad /\ ∀ t u, (b1.map U8)[t]? = some u -> W2.cell? (ad.add t) = some u) := fun hp => by
         obtain ⟨b, o, e, hc⟩ := HOk1.out.bytes 0 hp
         refine ⟨⟨b, o, none⟩, e, fun t u hu => ?_⟩
         have ht : t < b1.length := by have := (List.getElem?_eq_some_iff.1 hu).1; simpa using this
         have h5 := hc t ht
         rw [Addr.add_mid, HB12.out.cell (World.block_lt_of_cell? w1 _ h5), h5]
         rw [List.getElem?_map, List.getElem?_eq_getElem ht] at hu
         exact hu
        obtain ⟨i8, hi8, hy0, hy1, hy2⟩ := info_parts infoU8
        have HI8 := hid hi8
        clear hi8 hW2
        go_wp2_with (rw [<- HW2.out]; refine wpList_append_row Tryz.underlying42 HI8.out hy0 hy1 hy2 rfl (by omega) rfl (.tmp 74) (.tmp 76) rfl W2.heap.size (.slice none 0 0) 0 [] rfl (World.ownsRow_nil _ _ _ _) ba1 b1.length bc1 (b1.map U8) rfl (by simp) HBb.out (fun u hu => by obtain ⟨x, -, rfl⟩ := List.mem_map.1 hu; rfl) (by omega) (Nat.le_refl _) ?_; intro bv W3 hown hgr hat; rw [Nat.zero_add, List.nil_append] at hown)
        have hb23 : Below W2.heap.size W2 W3 := ⟨hgr.os, hgr.tape, hgr.output, hgr.size, fun k hk => hgr.block k hk (by simp [Value.ownBlock])⟩
        have hb1q := HL1.out
        obtain ⟨gc, cc, hbv⟩ : ∃ gc cc, bv = .slice (some ⟨gc, 0, none⟩) b1.length cc := by
         rcases hown.2 with ⟨e, h0⟩ | ⟨g0, cap, cur, e, -⟩
         ·omega
         ·exact ⟨g0, cap, e⟩
        subst hbv
        have hgc := row_ge hown gc rfl
        have hbx3 := below_block hb23 HBx.out (by have := HS2.out; omega)
        have hzg : g < w.heap.size := HOb.out.lt
        have hob1 := HOb.out.keep HK1.out (fun hh => HGz.out (hh.elim (fun e => .inr (.inl e)) (fun e => .inr (.inr e))))
        have hob3 := (hob1.below HB12.out).below hb23
        have hw1 := HK1.out.size
        have HRow : Hid (∃ l' : List UInt8, l'.length = b1.length /\ W3.ownsRow W2.heap.size 5 1 (.slice (some ⟨gc, 0, none⟩) b1.length cc) b1.length (l'.map U8)) := ⟨b1, rfl, hown⟩
        have HOb3 := hid hob3
        have HBx3 := hid hbx3
        have HB13 := hid (HB12.out.trans (hb23.mono HB12.out.size))
        have hgcg : gc ≠ g := by have := HS2.out; omega
        have hgcb : gc ≠ w1.heap.size := by have := HS2.out; omega
        have HGc := hid hgc
        clear hown hgr hat hb23 hbx3 hob1 hob3 HBb HI8 HW2 HBx y0 y1 y2 y3 y4 y5 hgc
        obtain ⟨bl, hbl⟩ : ∃ bl, bl = b1.length := ⟨_, rfl⟩
        rw [<- hbl] at hb1q HRow hb17 ⊢
        have HBl := hid hbl
        clear hbl
        subst hb1q
        go_loopw [13] (fun kv wr => ∃ k : Nat, k <= n /\ kv = .int .i64 k /\ Hid (∃ l' : List UInt8, l'.length = bl /\ wr.ownsRow W2.heap.size 5 1 (.slice (some ⟨gc, 0, none⟩) bl cc) bl (l'.map U8)) /\ Hid (Keeps (fun i => i = gc) W3 wr)) (fun kv _ => n - (intOf kv).toNat)
        case atStart => exact ⟨0, by omega, rfl, HRow, Keeps.refl _ _⟩
        case round =>
         obtain ⟨k, hk, rfl, HRw, HKw⟩ := hrel
         by_cases hkn : k < n
         ·have hkn' : (k : Int) < (n : Int) := by omega
          obtain ⟨l', hl', hrw⟩ := HRw.out
          obtain ⟨t, ht⟩ : ∃ t : Nat, (an : Int) + (k : Int) = (t : Int) := ⟨an + k, by omega⟩
          have htb : t < bl := by omega
          have htb' : (t : Int) < (bl : Int) := by omega
          have hln : k < l.length := by have := HN.out; omega
          have c3 := (HOb3.out.keep HKw.out (fun e => hgcg (by have e' : g = gc := e; exact e'.symm))).cell k hln
          obtain ⟨⟨old, c4⟩, f4, hset⟩ := own_set hrw hl' t htb (l[k])
          have HSet : Hid (∃ l'' : List UInt8, l''.length = bl /\ (wr.setCell ⟨gc, t, none⟩ (.int .u8 ((l[k]).toNat : Int))).ownsRow W2.heap.size 5 1 (.slice (some ⟨gc, 0, none⟩) bl cc) bl (l''.map U8)) := ⟨l'.set t l[k], by rw [List.length_set]; exact hl', hset⟩
          generalize ((l[k]).toNat : Int) = x at *
          clear hrw hset HRw hl'
          go_wp2
          exact ⟨⟨k + 1, by omega, by go_num, HSet, HKw.out.grown (grown_setCell (grown_refl _ _) _ _) (fun i e => .inl (Option.some.inj e).symm)⟩, by simp [intOf]; omega⟩
         ·have hge : ¬ (k : Int) < (n : Int) := by omega
          have hbx := HKw.out.heap HBx3.out (fun e => hgcb (by have e' : w1.heap.size = gc := e; exact e'.symm))
          have z3 : wr.cell? ⟨w1.heap.size, 3, none⟩ = some (.slice ba1 b1.length bc1) := cell_of_block hbx 3
          have f3 : wr.frozen? ⟨w1.heap.size, 3, none⟩ = false := frozen_of_block hbx 3
          have z0 : wr.cell? ⟨w1.heap.size, 0, none⟩ = some (.int .i64 k1) := cell_of_block hbx 0
          have z1 : wr.cell? ⟨w1.heap.size, 1, none⟩ = some (.int .i64 m1) := cell_of_block hbx 1
          have z2 : wr.cell? ⟨w1.heap.size, 2, none⟩ = some (.int .i64 l1) := cell_of_block hbx 2
          have z4 : wr.cell? ⟨w1.heap.size, 4, none⟩ = some (.slice da1 d1.length dc1) := cell_of_block hbx 4
          have z5 : wr.cell? ⟨w1.heap.size, 5, none⟩ = some (.int .i64 ind1) := cell_of_block hbx 5
          have HBx4 := hid hbx
          clear hbx
          go_wp2_with fail
          obtain ⟨W4, hW4⟩ : ∃ W4, W4 = wr.setCell ⟨w1.heap.size, 3, none⟩ (.slice (some ⟨gc, 0, none⟩) bl cc) := ⟨_, rfl⟩
          rw [<- hW4]
          obtain ⟨l', hl', hrw⟩ := HRw.out
          have hgc := HGc.out
          have hs2 := HS2.out
          have hs13 := HB13.out.size
          have hs1 := HK1.out.size
          have hs3 := HKw.out.size
          have hbl4 := lt_of_heap HBx4.out
          have k34 : Keeps (fun i => i = w1.heap.size) wr W4 := by rw [hW4]; exact (Keeps.refl _ wr).grown (grown_setCell (grown_refl _ _) _ _) (fun i e => .inl (Option.some.inj e).symm)
          have k14 : Keeps (fun i => w1.heap.size <= i) w1 W4 := ((Keeps.of_below HB13.out : Keeps (fun i => w1.heap.size <= i) w1 W3).trans HKw.out (fun i e => .inl (by have e' : i = gc := e; show w1.heap.size <= i; omega))).trans k34 (fun i e => .inl (by have e' : i = w1.heap.size := e; show w1.heap.size <= i; omega))
          have kw4 : Keeps (fun i => i = r \/ i = m) w W4 := HK1.out.trans k14 (fun i e => .inr (by have e' : w1.heap.size <= i := e; omega))
          have hrw4 := k34.row hrw (fun i e e2 => by have h5 := (row_ge hrw i e).1; have e3 : i = w1.heap.size := e2; omega)
          have href : Ref6 W4 F r m := by
           have q3 : Ref6 W3 (fun i => F i \/ i = gc \/ i = w1.heap.size) r m := HR1.out.keep (Keeps.of_below HB13.out : Keeps (fun _ => False) w1 W3) (fun _ e => e.elim) (fun i e => by rcases e with e | e | e; exact .inl e; exact .inr (by omega); exact .inr (by omega))
           have q4 : Ref6 wr (fun i => F i \/ i = gc \/ i = w1.heap.size) r m := q3.keep HKw.out (fun i e => .inr (.inl e)) (fun i e => .inl e)
           exact q4.keep k34 (fun i e => .inr (.inr e)) (fun i e => .inl (.inl e))
          have hrl := HR.out.lt
          have hok4 : RF.ok W4 (zOf F r m) ⟨k1, m1, l1, l', some ⟨gc, 0, none⟩, cc, d1, da1, dc1, ind1⟩ := by
           have h9 := HOk1.out.keep k14 (Z' := zOf F r m) (fun i hi _ e => by have e' : w1.heap.size <= i := e; omega) (fun _ _ hn => hn)
           refine ⟨fun j hj => ⟨gc, 0, rfl, fun i hi => ?_⟩, fun b o e => ?_, h9.data, h9.dz, by show l'.length <= 70656; omega, h9.dl⟩
           ·have hi' : i < l'.length := hi
            rw [Nat.zero_add, hrw4.cellAt i (by omega), List.getElem?_map, List.getElem?_eq_getElem hi']
            rfl
           ·have e' : (⟨gc, 0, none⟩ : Addr) = ⟨b, o, none⟩ := Option.some.inj e
            cases e'
            refine ⟨fun hh => ?_, by have := k34.size; have := (row_ge hrw gc rfl).2; omega⟩
            rcases hh with hh | hh | hh
            ·have := HFl.out _ hh; omega
            ·omega
            ·omega
          have hse := v6set_any href (fun i hi => Nat.lt_of_lt_of_le (HFl.out i hi) kw4.size) j hj16 ⟨k1, m1, l1, l', some ⟨gc, 0, none⟩, cc, d1, da1, dc1, ind1⟩ hok4
          have hce : (RF.cells ⟨k1, m1, l1, l', some ⟨gc, 0, none⟩, cc, d1, da1, dc1, ind1⟩).toArray = #[.int .i64 k1, .int .i64 m1, .int .i64 l1, .slice (some ⟨gc, 0, none⟩) bl cc, .slice da1 d1.length dc1, .int .i64 ind1] := by
           unfold RF.cells
           rw [hl']
          rw [hce] at hse
          have HSe := hid hse
          have HK4 := hid kw4
          clear hse hce hok4 hrl href hrw4 k34 k14 kw4 hrw hl' hgc hs2 hs13 hs1 hs3 hbl4 hW4 z0 z1 z2 z3 z4 z5 f3
          refine HSe.out.mono ?_
          clear HSe
          rintro e wg ⟨rfl, hkg, hrg, -⟩
          have HKg := hid hkg
          have HRg := hid hrg
          clear hkg hrg
          go_wp2
          go_ret
          exact ⟨⟨HK4.out.trans HKg.out (fun i e => .inl (.inl e)), m, .inl rfl, HRg.out⟩, 0, rfl⟩
      ·have b5' : ¬ (b0.length : Int) < (q : Int) := by omega
       have hqs : an + n <= b0.length := by omega
       clear x0 x1 x2 x4 x5
       generalize b0.length = qz at *
       have HRz := hid (v6resize_r HR.out HFl.out j hj16 qz hb7)
       go_wp2_with fail
       refine HRz.out.mono ?_
       clear HRz
       rintro e w1 ⟨hto, ⟨b, rfl, rfl⟩ | ⟨rfl, hk1, hr1, g1, cp1, f1, hc1, hrow1, hok1, hl1⟩⟩
       ·obtain ⟨kk, m', hm', hr'⟩ := hto
        have HFu := hid (v6full_r hr' (fun i hi => Nat.lt_of_lt_of_le (HFl.out i hi) kk.size))
        have HKk := hid kk
        clear kk hr' c1 x3
        go_wp2_with fail
        refine HFu.out.mono ?_
        clear HFu
        rintro e w2 ⟨rfl, hk2, m2, hm2, hr2⟩
        have HK2 := hid hk2
        have HR2 := hid hr2
        clear hk2 hr2
        go_wp2_with fail
        go_ret
        have hs := HKk.out.size
        exact ⟨⟨HKk.out.trans HK2.out (fun i e => .inl (.inl e)), m2, .inr (by omega), HR2.out⟩, 7, rfl⟩
       ·clear hto
        obtain ⟨k1, m1, l1, b1, ba1, bc1, d1, da1, dc1, ind1⟩ := f1
        have y0 : w1.cell? ⟨g1, j * 6, none⟩ = some (.int .i64 k1) := hrow1 0 _ rfl
        have y1 : w1.cell? ⟨g1, j * 6 + 1, none⟩ = some (.int .i64 m1) := hrow1 1 _ rfl
        have y2 : w1.cell? ⟨g1, j * 6 + 2, none⟩ = some (.int .i64 l1) := hrow1 2 _ rfl
        have y3 : w1.cell? ⟨g1, j * 6 + 3, none⟩ = some (.slice ba1 b1.length bc1) := hrow1 3 _ rfl
        have y4 : w1.cell? ⟨g1, j * 6 + 4, none⟩ = some (.slice da1 d1.length dc1) := hrow1 4 _ rfl
        have y5 : w1.cell? ⟨g1, j * 6 + 5, none⟩ = some (.int .i64 ind1) := hrow1 5 _ rfl
        have HOk1 := hid hok1
        have HK1 := hid hk1
        have HR1 := hid hr1
        have HL1 := hid hl1
        clear hrow1 hok1 hk1 hr1 hl1 x3 c1
        obtain ⟨W2, hW2⟩ : ∃ W2, W2 = w1.alloc (.cells #[.int .i64 k1, .int .i64 m1, .int .i64 l1, .slice ba1 b1.length bc1, .slice da1 d1.length dc1, .int .i64 ind1] 94) := ⟨_, rfl⟩
        have HB12 : Hid (Below w1.heap.size w1 W2) := by rw [hW2]; exact (Below.refl _ w1).alloc (Nat.le_refl _) _
        have HBx : Hid (W2.heap[w1.heap.size]? = some (.cells #[.int .i64 k1, .int .i64 m1, .int .i64 l1, .slice ba1 b1.length bc1, .slice da1 d1.length dc1, .int .i64 ind1] 94 (0, 0))) := by rw [hW2]; exact block_new w1 _
        have HS2 : Hid (W2.heap.size = w1.heap.size + 1) := by rw [hW2]; exact World.size_alloc _ _
        have HW2 := hid hW2
        have hb17 : b1.length <= 70656 := HOk1.out.bl
        have HBb : Hid (0 < b1.length -> ∃ ad, ba1 = some ad /\ ∀ t u, (b1.map U8)[t]? = some u -> W2.cell? (ad.add t) = some u) := fun hp => by
         obtain ⟨b, o, e, hc⟩ := HOk1.out.bytes 0 hp
         refine ⟨⟨b, o, none⟩, e, fun t u hu => ?_⟩
         have ht : t < b1.length := by have := (List.getElem?_eq_some_iff.1 hu).1; simpa using this
         have h5 := hc t ht
         rw [Addr.add_mid, HB12.out.cell (World.block_lt_of_cell? w1 _ h5), h5]
         rw [List.getElem?_map, List.getElem?_eq_getElem ht] at hu
         exact hu
        obtain ⟨i8, hi8, hy0, hy1, hy2⟩ := info_parts infoU8
        have HI8 := hid hi8
        clear hi8 hW2
        go_wp2_with (rw [<- HW2.out]; refine wpList_append_row Tryz.underlying42 HI8.out hy0 hy1 hy2 rfl (by omega) rfl (.tmp 74) (.tmp 76) rfl W2.heap.size (.slice none 0 0) 0 [] rfl (World.ownsRow_nil _ _ _ _) ba1 b1.length bc1 (b1.map U8) rfl (by simp) HBb.out (fun u hu => by obtain ⟨x, -, rfl⟩ := List.mem_map.1 hu; rfl) (by omega) (Nat.le_refl _) ?_; intro bv W3 hown hgr hat; rw [Nat.zero_add, List.nil_append] at hown)
        have hb23 : Below W2.heap.size W2 W3 := ⟨hgr.os, hgr.tape, hgr.output, hgr.size, fun k hk => hgr.block k hk (by simp [Value.ownBlock])⟩
        have hb1q := HL1.out
        obtain ⟨gc, cc, hbv⟩ : ∃ gc cc, bv = .slice (some ⟨gc, 0, none⟩) b1.length cc := by
         rcases hown.2 with ⟨e, h0⟩ | ⟨g0, cap, cur, e, -⟩
         ·omega
         ·exact ⟨g0, cap, e⟩
        subst hbv
        have hgc := row_ge hown gc rfl
        have hbx3 := below_block hb23 HBx.out (by have := HS2.out; omega)
        have hzg : g < w.heap.size := HOb.out.lt
        have hob1 := HOb.out.keep HK1.out (fun hh => HGz.out (hh.elim (fun e => .inr (.inl e)) (fun e => .inr (.inr e))))
        have hob3 := (hob1.below HB12.out).below hb23
        have hw1 := HK1.out.size
        have HRow : Hid (∃ l' : List UInt8, l'.length = b1.length /\ W3.ownsRow W2.heap.size 5 1 (.slice (some ⟨gc, 0, none⟩) b1.length cc) b1.length (l'.map U8)) := ⟨b1, rfl, hown⟩
        have HOb3 := hid hob3
        have HBx3 := hid hbx3
        have HB13 := hid (HB12.out.trans (hb23.mono HB12.out.size))
        have hgcg : gc ≠ g := by have := HS2.out; omega
        have hgcb : gc ≠ w1.heap.size := by have := HS2.out; omega
        have HGc := hid hgc
        clear hown hgr hat hb23 hbx3 hob1 hob3 HBb HI8 HW2 HBx y0 y1 y2 y3 y4 y5 hgc
        obtain ⟨bl, hbl⟩ : ∃ bl, bl = b1.length := ⟨_, rfl⟩
        rw [<- hbl] at hb1q HRow hb17 ⊢
        have HBl := hid hbl
        clear hbl
        subst hb1q
        go_loopw [13] (fun kv wr => ∃ k : Nat, k <= n /\ kv = .int .i64 k /\ Hid (∃ l' : List UInt8, l'.length = bl /\ wr.ownsRow W2.heap.size 5 1 (.slice (some ⟨gc, 0, none⟩) bl cc) bl (l'.map U8)) /\ Hid (Keeps (fun i => i = gc) W3 wr)) (fun kv _ => n - (intOf kv).toNat)
        case atStart => exact ⟨0, by omega, rfl, HRow, Keeps.refl _ _⟩
        case round =>
         obtain ⟨k, hk, rfl, HRw, HKw⟩ := hrel
         by_cases hkn : k < n
         ·have hkn' : (k : Int) < (n : Int) := by omega
          obtain ⟨l', hl', hrw⟩ := HRw.out
          obtain ⟨t, ht⟩ : ∃ t : Nat, (an : Int) + (k : Int) = (t : Int) := ⟨an + k, by omega⟩
          have htb : t < bl := by omega
          have htb' : (t : Int) < (bl : Int) := by omega
          have hln : k < l.length := by have := HN.out; omega
          have c3 := (HOb3.out.keep HKw.out (fun e => hgcg (by have e' : g = gc := e; exact e'.symm))).cell k hln
          obtain ⟨⟨old, c4⟩, f4, hset⟩ := own_set hrw hl' t htb (l[k])
          have HSet : Hid (∃ l'' : List UInt8, l''.length = bl /\ (wr.setCell ⟨gc, t, none⟩ (.int .u8 ((l[k]).toNat : Int))).ownsRow W2.heap.size 5 1 (.slice (some ⟨gc, 0, none⟩) bl cc) bl (l''.map U8)) := ⟨l'.set t l[k], by rw [List.length_set]; exact hl', hset⟩
          generalize ((l[k]).toNat : Int) = x at *
          clear hrw hset HRw hl'
          go_wp2
          exact ⟨⟨k + 1, by omega, by go_num, HSet, HKw.out.grown (grown_setCell (grown_refl _ _) _ _) (fun i e => .inl (Option.some.inj e).symm)⟩, by simp [intOf]; omega⟩
         ·have hge : ¬ (k : Int) < (n : Int) := by omega
          have hbx := HKw.out.heap HBx3.out (fun e => hgcb (by have e' : w1.heap.size = gc := e; exact e'.symm))
          have z3 : wr.cell? ⟨w1.heap.size, 3, none⟩ = some (.slice ba1 b1.length bc1) := cell_of_block hbx 3
          have f3 : wr.frozen? ⟨w1.heap.size, 3, none⟩ = false := frozen_of_block hbx 3
          have z0 : wr.cell? ⟨w1.heap.size, 0, none⟩ = some (.int .i64 k1) := cell_of_block hbx 0
          have z1 : wr.cell? ⟨w1.heap.size, 1, none⟩ = some (.int .i64 m1) := cell_of_block hbx 1
          have z2 : wr.cell? ⟨w1.heap.size, 2, none⟩ = some (.int .i64 l1) := cell_of_block hbx 2
          have z4 : wr.cell? ⟨w1.heap.size, 4, none⟩ = some (.slice da1 d1.length dc1) := cell_of_block hbx 4
          have z5 : wr.cell? ⟨w1.heap.size, 5, none⟩ = some (.int .i64 ind1) := cell_of_block hbx 5
          have HBx4 := hid hbx
          clear hbx
          go_wp2_with fail
          obtain ⟨W4, hW4⟩ : ∃ W4, W4 = wr.setCell ⟨w1.heap.size, 3, none⟩ (.slice (some ⟨gc, 0, none⟩) bl cc) := ⟨_, rfl⟩
          rw [<- hW4]
          obtain ⟨l', hl', hrw⟩ := HRw.out
          have hgc := HGc.out
          have hs2 := HS2.out
          have hs13 := HB13.out.size
          have hs1 := HK1.out.size
          have hs3 := HKw.out.size
          have hbl4 := lt_of_heap HBx4.out
          have k34 : Keeps (fun i => i = w1.heap.size) wr W4 := by rw [hW4]; exact (Keeps.refl _ wr).grown (grown_setCell (grown_refl _ _) _ _) (fun i e => .inl (Option.some.inj e).symm)
          have k14 : Keeps (fun i => w1.heap.size <= i) w1 W4 := ((Keeps.of_below HB13.out : Keeps (fun i => w1.heap.size <= i) w1 W3).trans HKw.out (fun i e => .inl (by have e' : i = gc := e; show w1.heap.size <= i; omega))).trans k34 (fun i e => .inl (by have e' : i = w1.heap.size := e; show w1.heap.size <= i; omega))
          have kw4 : Keeps (fun i => i = r \/ i = m) w W4 := HK1.out.trans k14 (fun i e => .inr (by have e' : w1.heap.size <= i := e; omega))
          have hrw4 := k34.row hrw (fun i e e2 => by have h5 := (row_ge hrw i e).1; have e3 : i = w1.heap.size := e2; omega)
          have href : Ref6 W4 F r m := by
           have q3 : Ref6 W3 (fun i => F i \/ i = gc \/ i = w1.heap.size) r m := HR1.out.keep (Keeps.of_below HB13.out : Keeps (fun _ => False) w1 W3) (fun _ e => e.elim) (fun i e => by rcases e with e | e | e; exact .inl e; exact .inr (by omega); exact .inr (by omega))
           have q4 : Ref6 wr (fun i => F i \/ i = gc \/ i = w1.heap.size) r m := q3.keep HKw.out (fun i e => .inr (.inl e)) (fun i e => .inl e)
           exact q4.keep k34 (fun i e => .inr (.inr e)) (fun i e => .inl (.inl e))
          have hrl := HR.out.lt
          have hok4 : RF.ok W4 (zOf F r m) ⟨k1, m1, l1, l', some ⟨gc, 0, none⟩, cc, d1, da1, dc1, ind1⟩ := by
           have h9 := HOk1.out.keep k14 (Z' := zOf F r m) (fun i hi _ e => by have e' : w1.heap.size <= i := e; omega) (fun _ _ hn => hn)
           refine ⟨fun j hj => ⟨gc, 0, rfl, fun i hi => ?_⟩, fun b o e => ?_, h9.data, h9.dz, by show l'.length <= 70656; omega, h9.dl⟩
           ·have hi' : i < l'.length := hi
            rw [Nat.zero_add, hrw4.cellAt i (by omega), List.getElem?_map, List.getElem?_eq_getElem hi']
            rfl
           ·have e' : (⟨gc, 0, none⟩ : Addr) = ⟨b, o, none⟩ := Option.some.inj e
            cases e'
            refine ⟨fun hh => ?_, by have := k34.size; have := (row_ge hrw gc rfl).2; omega⟩
            rcases hh with hh | hh | hh
            ·have := HFl.out _ hh; omega
            ·omega
            ·omega
          have hse := v6set_any href (fun i hi => Nat.lt_of_lt_of_le (HFl.out i hi) kw4.size) j hj16 ⟨k1, m1, l1, l', some ⟨gc, 0, none⟩, cc, d1, da1, dc1, ind1⟩ hok4
          have hce : (RF.cells ⟨k1, m1, l1, l', some ⟨gc, 0, none⟩, cc, d1, da1, dc1, ind1⟩).toArray = #[.int .i64 k1, .int .i64 m1, .int .i64 l1, .slice (some ⟨gc, 0, none⟩) bl cc, .slice da1 d1.length dc1, .int .i64 ind1] := by
           unfold RF.cells
           rw [hl']
          rw [hce] at hse
          have HSe := hid hse
          have HK4 := hid kw4
          clear hse hce hok4 hrl href hrw4 k34 k14 kw4 hrw hl' hgc hs2 hs13 hs1 hs3 hbl4 hW4 z0 z1 z2 z3 z4 z5 f3
          refine HSe.out.mono ?_
          clear HSe
          rintro e wg ⟨rfl, hkg, hrg, -⟩
          have HKg := hid hkg
          have HRg := hid hrg
          clear hkg hrg
          go_wp2
          go_ret
          exact ⟨⟨HK4.out.trans HKg.out (fun i e => .inl (.inl e)), m, .inl rfl, HRg.out⟩, 0, rfl⟩
end
end
section
set_option maxRecDepth 100000
set_option maxHeartbeats 2000000
open Go.RowKit
theorem results_v6Get {w : World} {tmps : Array Value} {b : Nat} {cs : List Value} {t : Value} (h1 : tmps.getD 4 undef = .pointer (some ⟨b, 0, none⟩)) (h2 : tmps.getD 5 undef = t) (r : w.heap[b]? = some (.cells cs.toArray 51 (0, 0))) (hl : cs.length = 15) :
  (results Tryz.f44 tmps).run Tryz.prog w = .ok (.tuple #[.agg cs.toArray, t]) w := by
 have h1' : tmps[4]?.getD undef = .pointer (some ⟨b, 0, none⟩) := by simpa using h1
 have h2' : tmps[5]?.getD undef = t := by simpa using h2
 have hr := run_loadVar_mid (P := Tryz.prog) w b 0 51 cs _ (by have := range_of_block r; exact this) Tryz.underlying51 rfl (by rw [hl]; kernel_rfl)
 simp only [results, Tryz.results44]
 simp [h1', h2', asAddr, hr]
def zero15L : List Value := [.int .i64 0, .int .i64 0, .int .i64 0, .int .i64 0, .int .i64 0, .int .i64 0, .int .i64 0, .int .i64 0, .int .i64 0, .int .i64 0, .int .i64 0, .int .i64 0, .int .i64 0, .int .i64 0, .int .i64 0]
def GetTo (w : World) (e : Ending) (w' : World) : Prop := Below w.heap.size w w' /\ ∃ (cs : List Value) (z c : Int), cs.length = 15 /\ cs[3]? = some (.int .i64 z) /\ (∀ v ∈ cs, ∃ n, v = .int .i64 n) /\ 0 <= z /\ z <= 70656 /\ e = .returned (.tuple #[.agg cs.toArray, .int .i64 c])
theorem getTo_mk {w w' : World} {cs : List Value} {z c : Int} (hb : Below w.heap.size w w') (h1 : cs.length = 15) (h2 : cs[3]? = some (.int .i64 z)) (h3 : ∀ v ∈ cs, ∃ n, v = .int .i64 n) (h4 : 0 <= z) (h5 : z <= 70656) : GetTo w (.returned (.tuple #[.agg cs.toArray, .int .i64 c])) w' := ⟨hb, cs, z, c, h1, h2, h3, h4, h5, rfl⟩
theorem zero15_int : ∀ v ∈ zero15L, ∃ n, v = .int .i64 n := fun v hv => by
 simp only [zero15L, List.mem_cons, List.mem_nil_iff, or_false] at hv
 rcases hv with rfl | rfl | rfl | rfl | rfl | rfl | rfl | rfl | rfl | rfl | rfl | rfl | rfl | rfl | rfl <;> exact ⟨0, rfl⟩
theorem zero15_one : zero15L.toArray.all (·.oneCell') = true := by kernel_rfl
section
variable {w w' : World} {F : Nat -> Prop} {r m : Nat}
theorem v6Get_r (h : Ref6 w F r m) (i : Int) : Calls Tryz.prog 44 #[.pointer (some ⟨r, 0, none⟩), .int .i64 i] w fun e w' => GetTo w e w' := by
 obtain ⟨wb, hwb⟩ : ∃ wb, wb = w.alloc (.cells #[.int .i64 0, .int .i64 0, .int .i64 0, .int .i64 0, .int .i64 0, .int .i64 0, .int .i64 0, .int .i64 0, .int .i64 0, .int .i64 0, .int .i64 0, .int .i64 0, .int .i64 0, .int .i64 0, .int .i64 0] 51) := ⟨_, rfl⟩
 have hB : Below w.heap.size w wb := by rw [hwb]; exact (Below.refl _ w).alloc (Nat.le_refl _) _
 have hr0 : wb.heap[w.heap.size]? = some (.cells zero15L.toArray 51 (0, 0)) := by rw [hwb]; exact block_new w _
 have hrb := h.below hB
 obtain ⟨lb, lc, km, kb, kc, fl, kl, h1, h2, -⟩ := hrb.heap
 have c1 : wb.cell? ⟨r, 1, none⟩ = some (.slice (some ⟨lb, 0, none⟩) 16 lc) := cell_of_block h1 1
 have HLk := hid (v6look_any hrb i)
 have HSd := hid h2
 have HB := hid hB
 have HR0 := hid hr0
 have HWb := hid hwb
 clear h h1 h2 hrb hB hr0 hwb
 go_enter Tryz.func44, Tryz.ntmps44
 go_wp2_with fail
 rw [<- HWb.out]
 refine HLk.out.mono ?_
 clear HLk HWb
 rintro e w1 ⟨h1, nn, rfl, hn⟩
 obtain rfl := h1.symm
 clear h1
 rcases hn with rfl | rfl | ⟨rfl, hi1, hi2⟩
 ·go_wp2_with (refine wpList_store_block rfl 51 (.tmp 4) (.tmp 15) rfl w.heap.size zero15L.toArray rfl rfl _ _ HR0.out rfl (by kernel_rfl) zero15_one ?_; intro w6 hg6 hb6 hz6)
  have hb06 : Below w.heap.size w w6 := HB.out.grown hg6 HB.out.size (fun k e => by cases e; exact Nat.le_refl _)
  exact bodyPost_ret (results_v6Get rfl rfl hb6 rfl) rfl (getTo_mk (z := 0) (c := 2) hb06 rfl rfl zero15_int (by omega) (by omega))
 ·go_wp2_with (refine wpList_store_block rfl 51 (.tmp 4) (.tmp 15) rfl w.heap.size zero15L.toArray rfl rfl _ _ HR0.out rfl (by kernel_rfl) zero15_one ?_; intro w6 hg6 hb6 hz6)
  have hb06 : Below w.heap.size w w6 := HB.out.grown hg6 HB.out.size (fun k e => by cases e; exact Nat.le_refl _)
  exact bodyPost_ret (results_v6Get rfl rfl hb6 rfl) rfl (getTo_mk (z := 0) (c := 4) hb06 rfl rfl zero15_int (by omega) (by omega))
 ·obtain ⟨j, rfl⟩ : ∃ j : Nat, i = (j : Int) := ⟨i.toNat, by omega⟩
  obtain ⟨k0, m0, l0, b0, ba, bc, d0, da, dc, ind, x0, x1, x2, x3, x4, x5, hok⟩ := HSd.out.six j (by omega)
  have hb7 : b0.length <= 70656 := hok.bl
  have HD0 := hid hok.data
  clear hok HSd
  go_wp2_with fail
  obtain ⟨W, hW⟩ : ∃ W, W = (wb.alloc (.cells #[.int .i64 k0, .int .i64 m0, .int .i64 l0, .slice ba b0.length bc, .slice da d0.length dc, .int .i64 ind] 94)).alloc (.cells #[.int .i64 k0, .int .i64 m0, .int .i64 l0, .int .i64 b0.length, .int .i64 0, .int .i64 0, .int .i64 0, .int .i64 0, .int .i64 0, .int .i64 0, .int .i64 0, .int .i64 0, .int .i64 0, .int .i64 0, .int .i64 0] 51) := ⟨_, rfl⟩
  rw [<- hW]
  have hbf : W.heap[wb.heap.size]? = some (.cells #[.int .i64 k0, .int .i64 m0, .int .i64 l0, .slice ba b0.length bc, .slice da d0.length dc, .int .i64 ind] 94 (0, 0)) := by rw [hW]; exact block_alloc (block_new wb _) _
  have hbx : W.heap[wb.heap.size + 1]? = some (.cells ([.int .i64 k0, .int .i64 m0, .int .i64 l0, .int .i64 b0.length, .int .i64 0, .int .i64 0, .int .i64 0, .int .i64 0, .int .i64 0, .int .i64 0, .int .i64 0, .int .i64 0, .int .i64 0, .int .i64 0, .int .i64 0] : List Value).toArray 51 (0, 0)) := by
   rw [hW]
   have h5 := block_new (wb.alloc (.cells #[.int .i64 k0, .int .i64 m0, .int .i64 l0, .slice ba b0.length bc, .slice da d0.length dc, .int .i64 ind] 94)) (.cells #[.int .i64 k0, .int .i64 m0, .int .i64 l0, .int .i64 b0.length, .int .i64 0, .int .i64 0, .int .i64 0, .int .i64 0, .int .i64 0, .int .i64 0, .int .i64 0, .int .i64 0, .int .i64 0, .int .i64 0, .int .i64 0] 51)
   rw [World.size_alloc] at h5
   exact h5
  have hbw : Below wb.heap.size wb W := by rw [hW]; exact ((Below.refl _ wb).alloc (Nat.le_refl _) _).alloc (by simp) _
  have HCs : Hid (∃ C : List Value, C.length = 15 /\ C[3]? = some (.int .i64 b0.length) /\ (∀ v ∈ C, ∃ n, v = .int .i64 n) /\ W.heap[wb.heap.size + 1]? = some (.cells C.toArray 51 (0, 0))) :=
   ⟨_, rfl, rfl, fun v hv => by
    simp only [List.mem_cons, List.mem_nil_iff, or_false] at hv
    rcases hv with rfl | rfl | rfl | rfl | rfl | rfl | rfl | rfl | rfl | rfl | rfl | rfl | rfl | rfl | rfl <;> exact ⟨_, rfl⟩, hbx⟩
  have HBf := hid hbf
  have HBw := hid hbw
  have hwl : w.heap.size < wb.heap.size := lt_of_heap HR0.out
  clear hbf hbx hbw hW x0 x1 x2 x3 x4 x5 c1
  go_loopw [9] (fun kv wr => ∃ k : Nat, k <= 10 /\ kv = .int .i64 k /\ Hid (∃ C : List Value, C.length = 15 /\ C[3]? = some (.int .i64 b0.length) /\ (∀ v ∈ C, ∃ n, v = .int .i64 n) /\ wr.heap[wb.heap.size + 1]? = some (.cells C.toArray 51 (0, 0))) /\ Hid (Keeps (fun i => i = wb.heap.size + 1) W wr)) (fun kv _ => 10 - (intOf kv).toNat)
  case atStart => exact ⟨0, by omega, rfl, HCs, Keeps.refl _ _⟩
  case round =>
   obtain ⟨k, hk, rfl, HC, HK⟩ := hrel
   obtain ⟨C, hl, h3, hi, hb⟩ := HC.out
   have hf := HK.out.heap HBf.out (by omega)
   have f4 : wr.cell? ⟨wb.heap.size, 4, none⟩ = some (.slice da d0.length dc) := cell_of_block hf 4
   have f5 : wr.cell? ⟨wb.heap.size, 5, none⟩ = some (.int .i64 ind) := cell_of_block hf 5
   by_cases hk1 : k < d0.length
   ·have hk1' : (k : Int) < (d0.length : Int) := by omega
    by_cases hk2 : k < 10
    ·have hk2' : (k : Int) < 10 := by omega
     obtain ⟨db, dof, e, hc⟩ := HD0.out k hk1
     subst e
     have hdc := hc k hk1
     have hdl := World.block_lt_of_cell? wb _ hdc
     have hd2 : wr.cell? ⟨db, dof + k, none⟩ = some (.int .i64 d0[k]) := HK.out.cell ((HBw.out.cell hdl).trans hdc) (fun e => by have e' : db = wb.heap.size + 1 := e; have hdl' : db < wb.heap.size := hdl; omega)
     generalize d0[k] = dv at *
     obtain ⟨old, cx⟩ : ∃ old, wr.cell? ⟨wb.heap.size + 1, 4 + k, none⟩ = some old := by
      rw [cell_of_block hb, List.getElem?_toArray, List.getElem?_eq_getElem (by omega)]
      exact ⟨_, rfl⟩
     have fx : wr.frozen? ⟨wb.heap.size + 1, 4 + k, none⟩ = false := frozen_of_block hb _
     have hst := block_setCell hb (4 + k) (.int .i64 dv)
     rw [List.setIfInBounds_toArray] at hst
     have HC2 : Hid (∃ C : List Value, C.length = 15 /\ C[3]? = some (.int .i64 b0.length) /\ (∀ v ∈ C, ∃ n, v = .int .i64 n) /\ (wr.setCell ⟨wb.heap.size + 1, 4 + k, none⟩ (.int .i64 dv)).heap[wb.heap.size + 1]? = some (.cells C.toArray 51 (0, 0))) :=
      ⟨_, by rw [List.length_set]; exact hl, by rw [List.getElem?_set_ne (by omega)]; exact h3, fun v hv => (List.mem_or_eq_of_mem_set hv).elim (fun h => hi v h) (fun h => ⟨dv, h⟩), hst⟩
     clear hst hb hi h3 hf hdc hdl hc HC
     go_wp2
     exact ⟨⟨k + 1, by omega, by go_num, HC2, HK.out.grown (grown_setCell (grown_refl _ _) _ _) (fun i e => .inl (Option.some.inj e).symm)⟩, by simp [intOf]; omega⟩
    ·have hk2' : ¬ (k : Int) < 10 := by omega
     obtain ⟨old, cx⟩ : ∃ old, wr.cell? ⟨wb.heap.size + 1, 14, none⟩ = some old := by
      rw [cell_of_block hb, List.getElem?_toArray, List.getElem?_eq_getElem (by omega)]
      exact ⟨_, rfl⟩
     have fx : wr.frozen? ⟨wb.heap.size + 1, 14, none⟩ = false := frozen_of_block hb _
     have hst := block_setCell hb 14 (.int .i64 ind)
     rw [List.setIfInBounds_toArray] at hst
     have hl2 : (C.set 14 (.int .i64 ind)).length = 15 := by rw [List.length_set]; exact hl
     have h32 : (C.set 14 (.int .i64 ind))[3]? = some (.int .i64 b0.length) := by rw [List.getElem?_set_ne (by omega)]; exact h3
     have hi2 : ∀ v ∈ C.set 14 (.int .i64 ind), ∃ n, v = .int .i64 n := fun v hv => (List.mem_or_eq_of_mem_set hv).elim (fun h => hi v h) (fun h => ⟨ind, h⟩)
     have hrs : (wr.setCell ⟨wb.heap.size + 1, 14, none⟩ (.int .i64 ind)).heap[w.heap.size]? = some (.cells zero15L.toArray 51 (0, 0)) := by
      rw [block_setCell_other 14 _ (by omega)]
      exact HK.out.heap (below_block HBw.out HR0.out (by omega)) (fun e => by have e' : w.heap.size = wb.heap.size + 1 := e; omega)
     have hbz : Below w.heap.size w (wr.setCell ⟨wb.heap.size + 1, 14, none⟩ (.int .i64 ind)) := by
      have h5 := HB.out.trans (HBw.out.mono HB.out.size)
      have h6 := h5.trans (HK.out.below h5.size (fun i e => by have e' : i = wb.heap.size + 1 := e; omega))
      exact h6.grown (grown_setCell (grown_refl _ _) _ _) h6.size (fun i e => by have e' : wb.heap.size + 1 = i := Option.some.inj e; omega)
     generalize C.set 14 (.int .i64 ind) = C2 at *
     have HSt := hid hst
     have HL2 := hid (And.intro hl2 (And.intro h32 hi2))
     have HRs := hid hrs
     have HBz := hid hbz
     have hon : C2.toArray.all (·.oneCell') = true := by
      rw [Array.all_eq_true_iff_forall_mem]
      intro v hv
      obtain ⟨n, rfl⟩ := hi2 v (by simpa using hv)
      rfl
     have HOn := hid hon
     clear hst hb hi h3 hf HC hl hl2 h32 hi2 hrs hbz hon
     go_wp2_with (first
      | refine wpList_load_block rfl 51 (.tmp 8) rfl (wb.heap.size + 1) rfl C2.toArray _ _ HSt.out _ Tryz.underlying51 rfl (by rw [List.size_toArray, HL2.out.1]; kernel_rfl) ?_
      | (refine wpList_store_block rfl 51 (.tmp 4) (.tmp 57) rfl w.heap.size C2.toArray rfl rfl _ _ HRs.out (by rw [List.size_toArray, HL2.out.1]; rfl) (by rw [List.size_toArray, HL2.out.1]; kernel_rfl) HOn.out ?_; intro w6 hg6 hb6 hz6))
     have hb06 : Below w.heap.size w w6 := HBz.out.grown hg6 HBz.out.size (fun k e => by cases e; exact Nat.le_refl _)
     exact bodyPost_ret (results_v6Get rfl rfl hb6 HL2.out.1) rfl (getTo_mk (c := 0) hb06 HL2.out.1 HL2.out.2.1 HL2.out.2.2 (by omega) (by omega))
   ·have hk1' : ¬ (k : Int) < (d0.length : Int) := by omega
    obtain ⟨old, cx⟩ : ∃ old, wr.cell? ⟨wb.heap.size + 1, 14, none⟩ = some old := by
     rw [cell_of_block hb, List.getElem?_toArray, List.getElem?_eq_getElem (by omega)]
     exact ⟨_, rfl⟩
    have fx : wr.frozen? ⟨wb.heap.size + 1, 14, none⟩ = false := frozen_of_block hb _
    have hst := block_setCell hb 14 (.int .i64 ind)
    rw [List.setIfInBounds_toArray] at hst
    have hl2 : (C.set 14 (.int .i64 ind)).length = 15 := by rw [List.length_set]; exact hl
    have h32 : (C.set 14 (.int .i64 ind))[3]? = some (.int .i64 b0.length) := by rw [List.getElem?_set_ne (by omega)]; exact h3
    have hi2 : ∀ v ∈ C.set 14 (.int .i64 ind), ∃ n, v = .int .i64 n := fun v hv => (List.mem_or_eq_of_mem_set hv).elim (fun h => hi v h) (fun h => ⟨ind, h⟩)
    have hrs : (wr.setCell ⟨wb.heap.size + 1, 14, none⟩ (.int .i64 ind)).heap[w.heap.size]? = some (.cells zero15L.toArray 51 (0, 0)) := by
     rw [block_setCell_other 14 _ (by omega)]
     exact HK.out.heap (below_block HBw.out HR0.out (by omega)) (fun e => by have e' : w.heap.size = wb.heap.size + 1 := e; omega)
    have hbz : Below w.heap.size w (wr.setCell ⟨wb.heap.size + 1, 14, none⟩ (.int .i64 ind)) := by
     have h5 := HB.out.trans (HBw.out.mono HB.out.size)
     have h6 := h5.trans (HK.out.below h5.size (fun i e => by have e' : i = wb.heap.size + 1 := e; omega))
     exact h6.grown (grown_setCell (grown_refl _ _) _ _) h6.size (fun i e => by have e' : wb.heap.size + 1 = i := Option.some.inj e; omega)
    generalize C.set 14 (.int .i64 ind) = C2 at *
    have HSt := hid hst
    have HL2 := hid (And.intro hl2 (And.intro h32 hi2))
    have HRs := hid hrs
    have HBz := hid hbz
    have hon : C2.toArray.all (·.oneCell') = true := by
     rw [Array.all_eq_true_iff_forall_mem]
     intro v hv
     obtain ⟨n, rfl⟩ := hi2 v (by simpa using hv)
     rfl
    have HOn := hid hon
    clear hst hb hi h3 hf HC hl hl2 h32 hi2 hrs hbz hon
    go_wp2_with (first
     | refine wpList_load_block rfl 51 (.tmp 8) rfl (wb.heap.size + 1) rfl C2.toArray _ _ HSt.out _ Tryz.underlying51 rfl (by rw [List.size_toArray, HL2.out.1]; kernel_rfl) ?_
     | (refine wpList_store_block rfl 51 (.tmp 4) (.tmp 57) rfl w.heap.size C2.toArray rfl rfl _ _ HRs.out (by rw [List.size_toArray, HL2.out.1]; rfl) (by rw [List.size_toArray, HL2.out.1]; kernel_rfl) HOn.out ?_; intro w6 hg6 hb6 hz6))
    have hb06 : Below w.heap.size w w6 := HBz.out.grown hg6 HBz.out.size (fun k e => by cases e; exact Nat.le_refl _)
    exact bodyPost_ret (results_v6Get rfl rfl hb6 HL2.out.1) rfl (getTo_mk (c := 0) hb06 HL2.out.1 HL2.out.2.1 HL2.out.2.2 (by omega) (by omega))
end
end
section
set_option maxRecDepth 100000
set_option maxHeartbeats 8000000
open Go.RowKit
def MuchTo (w : World) (e : Ending) (w' : World) : Prop := Below w.heap.size w w' /\ ∃ b : Bool, e = .returned (.bool b)
theorem muchTo_mk {w w' : World} {b : Bool} (h : Below w.heap.size w w') : MuchTo w (.returned (.bool b)) w' := ⟨h, b, rfl⟩
section
variable {w w' : World} {F : Nat -> Prop} {r m : Nat}
theorem l6much_one (h : Ref6 w F r m) (ii aa n nd md lk : Int) (x : UInt8) : Calls Tryz.prog 14 #[.pointer (some ⟨r, 0, none⟩), .agg #[.int .i64 1, .int .i64 ii, .int .i64 aa, .int .i64 n, .int .i64 nd, .int .i64 md, .int .i64 lk, .int .u8 (x.toNat : Int)]] w fun e w' => MuchTo w e w' := by
 obtain ⟨wA, hA⟩ : ∃ wA, wA = w.alloc (.cells #[.int .i64 1, .int .i64 ii, .int .i64 aa, .int .i64 n, .int .i64 nd, .int .i64 md, .int .i64 lk, .int .u8 (x.toNat : Int)] 25) := ⟨_, rfl⟩
 have HBA : Hid (Below w.heap.size w wA) := by rw [hA]; exact (Below.refl _ w).alloc (Nat.le_refl _) _
 have HXA : Hid (wA.heap[w.heap.size]? = some (.cells #[.int .i64 1, .int .i64 ii, .int .i64 aa, .int .i64 n, .int .i64 nd, .int .i64 md, .int .i64 lk, .int .u8 (x.toNat : Int)] 25 (0, 0))) := by rw [hA]; exact block_new w _
 have HGt := hid (v6Get_r (h.below HBA.out) ii)
 clear h
 go_enter Tryz.func14, Tryz.ntmps14
 go_wp2_with fail
 rw [<- hA]
 clear hA
 refine HGt.out.mono ?_
 clear HGt
 rintro e w1 ⟨hb1, cs, z, c, hl, h3, hi, hz0, hz7, rfl⟩
 have HX1 := hid (below_block hb1 HXA.out (lt_of_heap HXA.out))
 have HB1 := hid (HBA.out.trans (hb1.mono HBA.out.size))
 have HCs := hid (And.intro hl (And.intro h3 hi))
 have hon : cs.toArray.all (·.oneCell') = true := by
  rw [Array.all_eq_true_iff_forall_mem]
  intro v hv
  obtain ⟨q, rfl⟩ := hi v (by simpa using hv)
  rfl
 have HOn := hid hon
 clear hb1 hl h3 hi hon HXA HBA
 by_cases hc : c = 0
 ·subst hc
  ·have HBy := hid (fun W => l6bytes_any 1 ii aa n nd md lk x W)
   have hL8 := bLen_le n
   generalize bLen n = L at *
   go_wp2_with (refine wpList_store_block rfl 51 (.tmp 5) (.tmp 13) rfl w1.heap.size cs.toArray rfl rfl _ _ (block_new w1 _) (by rw [List.size_toArray, HCs.out.1]; rfl) (by rw [List.size_toArray, HCs.out.1]; kernel_rfl) HOn.out ?_; intro w2 hg2 hb2 hz2; have c3 : w2.cell? ⟨w1.heap.size, 3, none⟩ = some (.int .i64 z) := (by rw [cell_of_block hb2, List.getElem?_toArray]; exact HCs.out.2.1); have hb12 : Below w1.heap.size w1 w2 := ((Below.refl _ w1).alloc (Nat.le_refl _) _).grown hg2 (by simp) (fun k e => by cases e; exact Nat.le_refl _); have HB12 := hid hb12; have hx2 := below_block hb12 HX1.out (lt_of_heap HX1.out); have HB2 := hid (HB1.out.trans (hb12.mono HB1.out.size)); have d0 : w2.cell? ⟨w.heap.size, 0, none⟩ = some (.int .i64 1) := cell_of_block hx2 0; have d1 : w2.cell? ⟨w.heap.size, 1, none⟩ = some (.int .i64 ii) := cell_of_block hx2 1; have d2 : w2.cell? ⟨w.heap.size, 2, none⟩ = some (.int .i64 aa) := cell_of_block hx2 2; have d3 : w2.cell? ⟨w.heap.size, 3, none⟩ = some (.int .i64 n) := cell_of_block hx2 3; have d4 : w2.cell? ⟨w.heap.size, 4, none⟩ = some (.int .i64 nd) := cell_of_block hx2 4; have d5 : w2.cell? ⟨w.heap.size, 5, none⟩ = some (.int .i64 md) := cell_of_block hx2 5; have d6 : w2.cell? ⟨w.heap.size, 6, none⟩ = some (.int .i64 lk) := cell_of_block hx2 6; have d7 : w2.cell? ⟨w.heap.size, 7, none⟩ = some (.int .u8 (x.toNat : Int)) := cell_of_block hx2 7; have HX2 := hid hx2; clear hg2 hz2 hb12 hb2 hx2)
   refine (HBy.out w2).mono ?_
   clear HBy
   rintro e w3 ⟨hb3, g, hg, rfl, -⟩
   have HBf := hid (HB2.out.trans (hb3.mono HB2.out.size))
   have hx3 := below_block hb3 HX2.out (lt_of_heap HX2.out)
   have e0 : w3.cell? ⟨w.heap.size, 0, none⟩ = some (.int .i64 1) := cell_of_block hx3 0
   have e2 : w3.cell? ⟨w.heap.size, 2, none⟩ = some (.int .i64 aa) := cell_of_block hx3 2
   have e3 : w3.cell? ⟨w1.heap.size, 3, none⟩ = some (.int .i64 z) := (hb3.cell (World.block_lt_of_cell? w2 _ c3)).trans c3
   clear d0 d1 d2 d3 d4 d5 d6 d7 c3 hb3 hx3 hg
   by_cases ha : 0 < aa
   ·by_cases ha7 : aa <= 70656
    ·by_cases hC : z < (L : Int) + aa
     ·by_cases hD : 30000 < (L : Int) + aa - z
      ·go_wp2
       go_ret
       exact muchTo_mk HBf.out
      ·go_wp2
       go_ret
       exact muchTo_mk HBf.out
     ·go_wp2
      go_ret
      exact muchTo_mk HBf.out
    ·have ha7' : 70656 < aa := by omega
     by_cases hC : z < (L : Int)
     ·have hD : ¬ 30000 < (L : Int) - z := by omega
      go_wp2
      go_ret
      exact muchTo_mk HBf.out
     ·go_wp2
      go_ret
      exact muchTo_mk HBf.out
   ·have ha' : aa <= 0 := by omega
    by_cases hC : z < (L : Int)
    ·have hD : ¬ 30000 < (L : Int) - z := by omega
     go_wp2
     go_ret
     exact muchTo_mk HBf.out
    ·go_wp2
     go_ret
     exact muchTo_mk HBf.out
 ·go_wp2_with (refine wpList_store_block rfl 51 (.tmp 5) (.tmp 13) rfl w1.heap.size cs.toArray rfl rfl _ _ (block_new w1 _) (by rw [List.size_toArray, HCs.out.1]; rfl) (by rw [List.size_toArray, HCs.out.1]; kernel_rfl) HOn.out ?_; intro w2 hg2 hb2 hz2; have c3 : w2.cell? ⟨w1.heap.size, 3, none⟩ = some (.int .i64 z) := (by rw [cell_of_block hb2, List.getElem?_toArray]; exact HCs.out.2.1); have hb12 : Below w1.heap.size w1 w2 := ((Below.refl _ w1).alloc (Nat.le_refl _) _).grown hg2 (by simp) (fun k e => by cases e; exact Nat.le_refl _); have HB12 := hid hb12; have hx2 := below_block hb12 HX1.out (lt_of_heap HX1.out); have HB2 := hid (HB1.out.trans (hb12.mono HB1.out.size)); have d0 : w2.cell? ⟨w.heap.size, 0, none⟩ = some (.int .i64 1) := cell_of_block hx2 0; have d1 : w2.cell? ⟨w.heap.size, 1, none⟩ = some (.int .i64 ii) := cell_of_block hx2 1; have d2 : w2.cell? ⟨w.heap.size, 2, none⟩ = some (.int .i64 aa) := cell_of_block hx2 2; have d3 : w2.cell? ⟨w.heap.size, 3, none⟩ = some (.int .i64 n) := cell_of_block hx2 3; have d4 : w2.cell? ⟨w.heap.size, 4, none⟩ = some (.int .i64 nd) := cell_of_block hx2 4; have d5 : w2.cell? ⟨w.heap.size, 5, none⟩ = some (.int .i64 md) := cell_of_block hx2 5; have d6 : w2.cell? ⟨w.heap.size, 6, none⟩ = some (.int .i64 lk) := cell_of_block hx2 6; have d7 : w2.cell? ⟨w.heap.size, 7, none⟩ = some (.int .u8 (x.toNat : Int)) := cell_of_block hx2 7; have HX2 := hid hx2; clear hg2 hz2 hb12 hb2 hx2)
  go_ret
  exact muchTo_mk HB2.out
end
end
end Go.Proofs.YtamfgnfclamamaaGreat
