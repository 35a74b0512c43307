/- The free ones: the iterator. -/
import Derived.RangeFuncNested
import Derived.RangeFuncBound
import Derived.RangeFuncCalls
import Derived.RangeFuncLeaves
import Derived.Shelf.Abstract
import Derived.Shelf.RegionOpen
import Derived.WalkKit
import Derived.OwnWalkIn
import Derived.TacticsInMore
import Derived.LoopNIn
import Derived.LoopIn
import Derived.Scope
import Derived.Test.YtkkmbgjlmdddoabGreatAlMap
namespace Go.Proofs.YtkkmbgjlmdddoabGreat
open Go.RowKit Go.Shelf
attribute [local go_sem] Oper.semAt_some
/-- Is n free? -/
def isFree (L : List UInt8) (a z n : Nat) : Bool := decide (a ≤ n ∧ n < z) && !bitL L n
/-- The free ones below k, rising. -/
def freeTo (L : List UInt8) (a z k : Nat) : List Nat := (List.range k).filter (isFree L a z)
theorem freeTo_zero (L : List UInt8) (a z : Nat) : freeTo L a z 0 = [] := rfl
theorem freeTo_yes {L : List UInt8} {a z k : Nat} (h : isFree L a z k = true) : freeTo L a z (k + 1) = freeTo L a z k ++ [k] := by
  unfold freeTo; rw [List.range_succ, List.filter_append]; simp [h]
theorem freeTo_no {L : List UInt8} {a z k : Nat} (h : isFree L a z k = false) : freeTo L a z (k + 1) = freeTo L a z k := by
  unfold freeTo; rw [List.range_succ, List.filter_append]; simp [h]
theorem freeTo_len (L : List UInt8) (a z k : Nat) : (freeTo L a z k).length ≤ k := by
  unfold freeTo; exact Nat.le_trans (List.length_filter_le _ _) (by simp)
theorem freeTo_end {L : List UInt8} {a z k : Nat} (h : z ≤ k) : ∀ d, freeTo L a z (k + d) = freeTo L a z k
  | 0 => rfl
  | d + 1 => by
    rw [show k + (d + 1) = (k + d) + 1 by omega, freeTo_no, freeTo_end h d]
    unfold isFree
    rw [decide_eq_false (fun hh => by omega)]; rfl
theorem noGoto_normal {Q : Exit → Act → World → Prop} {a : Act} {w : World} (h : Q .normal a w) : Exit.noGoto Q .normal a w := h
set_option maxRecDepth 100000 in
set_option maxHeartbeats 4000000 in
theorem afree1_in (n : Nat) (hn : 2 ≤ n) (l bb kb g cap a z : Nat) (G : Nat → Prop) (L : List UInt8) (hL : L.length = 512) (hz : z ≤ 4096) (hbn : ¬ G bb) (hkn : ¬ G kb) (hgn : ¬ G g) (J Jx : List Nat → World → Prop)
    (hY : ∀ pre (x : Nat) W, x < 4096 → J pre W → pre.length < z → YieldAt Fence.wide (n - 1) Tryz.prog l #[.int .i64 (x : Int)] W fun e W' =>
      (e = .returned (.bool true) ∧ J (pre ++ [x]) W' ∧ Keeps G W W') ∨ (e = .returned (.bool false) ∧ Jx (pre ++ [x]) W'))
    (W : World) (hbb : W.cell? ⟨bb, 0, none⟩ = some (.slice (some ⟨g, 0, none⟩) 512 cap)) (hk1 : W.cell? ⟨kb, 1, none⟩ = some (.int .i64 a)) (hk2 : W.cell? ⟨kb, 2, none⟩ = some (.int .i64 z)) (hby : bytesAt W ⟨g, 0, none⟩ L) (h0 : J [] W) :
    CallsIn Fence.wide n Tryz.prog 93 #[.func (.yield l) #[] #[], .pointer (some ⟨bb, 0, none⟩), .pointer (some ⟨kb, 0, none⟩)] W fun e W' => (∃ v, e = .returned v) ∧
      ((∃ ys, ys = freeTo L a z 4096 ∧ J ys W') ∨ (∃ pre, (∃ q, isFree L a z q = true ∧ q < 4096 ∧ pre = freeTo L a z q ++ [q]) ∧ Jx pre W')) := by
  have HY := hid hY
  have HC : Hid (∀ wr, Keeps G W wr → wr.cell? ⟨bb, 0, none⟩ = some (.slice (some ⟨g, 0, none⟩) 512 cap) ∧ wr.cell? ⟨kb, 1, none⟩ = some (.int .i64 a) ∧ wr.cell? ⟨kb, 2, none⟩ = some (.int .i64 z)) := fun wr hb => ⟨hb.cell hbb hbn, hb.cell hk1 hkn, hb.cell hk2 hkn⟩
  have HS : Hid (∀ wr q, Keeps G W wr → q < 4096 → CallsIn (Fence.wide) (n - 1) Tryz.prog 68 #[.slice (some ⟨g, 0, none⟩) 512 cap, .int .i64 (q : Nat)] wr fun e w' => e = .returned (.bool (bitL L q)) ∧ w' = wr) := fun wr q hb hq =>
    callsIn_wide.2 (isSet_any g q cap L wr (fun j hj => hb.cell (hby j hj) (by rw [add_block]; exact hgn)) hL hq)
  have HJ0 := hid h0
  clear hY hk1 hk2 hby h0
  have hf9 : Fence.wide.fn 68 := trivial
  have h1n : 1 ≤ n := by omega
  refine callsIn_of_wp Tryz.func93 rfl trivial ?_ rfl
  simp only [Tryz.ntmps93, List.size_toArray, List.length_cons, List.length_nil, Nat.reduceAdd, Nat.reduceSub, Array.replicate_succ, Array.replicate_zero, List.push_toArray, List.append_toArray, List.nil_append, List.cons_append]
  refine wpIn_wide.2 (wp_scope_straight ((wpIn_wide (n := n)).1 ?_))
  gi_wp2
  refine wpIn_label ?_
  gi_wp2
  clear hbb
  gi_loopw [8] (fun i wr => ∃ k : Nat, k ≤ 512 ∧ i = .int .i64 k ∧ Hid (J (freeTo L a z (8 * k)) wr) ∧ Hid (Keeps G W wr)) (fun i _ => 512 - (intOf i).toNat)
  case atStart => exact ⟨0, by omega, rfl, HJ0, Keeps.refl _ _⟩
  case round =>
    obtain ⟨k, hk, rfl, HJ, HB⟩ := hrel
    clear HJ0
    by_cases hlt : k < 512
    · have hlt' : (k : Int) < 512 := by omega
      have hk0 : (0 : Int) ≤ (k : Int) := by omega
      gi_wp2
      gi_loopw [5] (fun i wi => ∃ q : Nat, 8 * k ≤ q ∧ q ≤ 8 * k + 8 ∧ i = .int .i64 q ∧ Hid (J (freeTo L a z q) wi) ∧ Hid (Keeps G W wi)) (fun i _ => 8 * k + 8 - (intOf i).toNat)
      case atStart => exact ⟨8 * k, by omega, by omega, by go_num, HJ, HB⟩
      case round =>
        obtain ⟨q, hq1, hq2, rfl, HJq, HBq⟩ := hrel
        clear HJ HB
        obtain ⟨cb, ck1, ck2⟩ := HC.out wr HBq.out
        by_cases hqe : q < 8 * k + 8
        · have hqe' : (q : Int) < 8 * (k : Int) + 8 := by omega
          by_cases hzq : z ≤ q
          · have hzq' : (z : Int) ≤ (q : Int) := by omega
            have he : freeTo L a z 4096 = freeTo L a z q := by
              have := freeTo_end (L := L) (a := a) hzq (4096 - q)
              rwa [show q + (4096 - q) = 4096 by omega] at this
            have HE : Hid (J (freeTo L a z 4096) wr) := by rw [he]; exact HJq
            clear he
            gi_wp2
            refine noGoto_normal ?_
            go_end0
            exact ⟨⟨_, rfl⟩, .inl ⟨_, rfl, HE.out⟩⟩
          · have hzq' : ¬ ((z : Int) ≤ (q : Int)) := by omega
            by_cases haq : a ≤ q
            · have haq' : (a : Int) ≤ (q : Int) := by omega
              have hSq := HS.out wr q HBq.out (by omega)
              cases hbit : bitL L q with
              | true =>
                rw [hbit] at hSq
                have HSq := hid hSq
                have hno : isFree L a z q = false := by unfold isFree; rw [hbit]; simp
                have HJ2 : Hid (J (freeTo L a z (q + 1)) wr) := by rw [freeTo_no hno]; exact HJq
                clear hSq hno
                gi_wp2_with (gi_at_call 68; refine HSq.out.mono ?_; rintro e w9 ⟨rfl, h9⟩; obtain rfl := h9.symm; clear h9)
                refine ⟨fun _ h => (by cases h), ?_⟩
                gi_wp2
                go_roundw
                case rel => exact ⟨q + 1, by omega, by omega, by go_num, HJ2, HBq⟩
                case measure => simp [intOf]; omega
              | false =>
                rw [hbit] at hSq
                have HSq := hid hSq
                have hyes : isFree L a z q = true := by unfold isFree; rw [hbit, decide_eq_true ⟨haq, by omega⟩]; rfl
                have HYes := hid hyes
                obtain ⟨fn, tmps, assign, body, hy, hR⟩ := HY.out _ q wr (by omega) HJq.out (Nat.lt_of_le_of_lt (freeTo_len _ _ _ _) (by omega))
                have HR := hid hR
                clear hSq hyes hR
                gi_wp2_with (gi_at_call 68; refine HSq.out.mono ?_; rintro e w9 ⟨rfl, h9⟩; obtain rfl := h9.symm; clear h9)
                refine HR.out.mono ?_
                rintro e W3 (⟨rfl, hJ3, hk3⟩ | ⟨rfl, hJx3⟩)
                · have HJ3 : Hid (J (freeTo L a z (q + 1)) W3) := by rw [freeTo_yes HYes.out]; exact hJ3
                  have HB3 := hid (HBq.out.trans hk3 (fun i e => .inl e))
                  clear hJ3 hk3
                  gi_wp2
                  go_roundw
                  case rel => exact ⟨q + 1, by omega, by omega, by go_num, HJ3, HB3⟩
                  case measure => simp [intOf]; omega
                · have HX := hid hJx3
                  clear hJx3
                  gi_wp2
                  refine noGoto_normal ?_
                  go_end0
                  exact ⟨⟨_, rfl⟩, .inr ⟨_, ⟨q, HYes.out, by omega, rfl⟩, HX.out⟩⟩
            · have haq' : ¬ ((a : Int) ≤ (q : Int)) := by omega
              have hno : isFree L a z q = false := by unfold isFree; rw [decide_eq_false (fun h => haq h.1)]; rfl
              have HJ2 : Hid (J (freeTo L a z (q + 1)) wr) := by rw [freeTo_no hno]; exact HJq
              clear hno
              gi_wp2
              refine ⟨fun _ h => (by cases h), ?_⟩
              gi_wp2
              go_roundw
              case rel => exact ⟨q + 1, by omega, by omega, by go_num, HJ2, HBq⟩
              case measure => simp [intOf]; omega
        · obtain rfl : q = 8 * k + 8 := by omega
          have hqe' : ¬ (((8 * k + 8 : Nat) : Int) < 8 * (k : Int) + 8) := by omega
          gi_wp2
          go_roundw
          case rel => exact ⟨k + 1, by omega, by go_num, HJq, HBq⟩
          case measure => simp [intOf]; omega
    · obtain rfl : k = 512 := by omega
      gi_wp2
      refine noGoto_normal ?_
      go_end0
      exact ⟨⟨_, rfl⟩, .inl ⟨_, rfl, HJ.out⟩⟩
theorem keepsK_t {G : Nat → Prop} {A B C : World} (h : Keeps G A B) (k : Keeps G B C) : Keeps G A C := h.trans k (fun _ e => .inl e)
theorem keepsK_b {G : Nat → Prop} {w : World} (hG : ∀ i, w.heap.size ≤ i → G i) (W : World) (l : Nat) (o o' : Obj) (hl : w.heap.size ≤ l) (_ : W.heap[l]? = some o) (_ : o.isCells = false) (_ : o.isWalk = false) : Keeps G W (W.putObj l o') :=
  Keeps.of_grown (grownBy_putObj' W l o') (fun i e => by cases e; exact hG _ hl)
end Go.Proofs.YtkkmbgjlmdddoabGreat
