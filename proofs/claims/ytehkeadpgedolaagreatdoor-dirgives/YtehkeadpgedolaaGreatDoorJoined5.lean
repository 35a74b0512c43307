/- Several of my texts in one: InRise, InParts, InTook, InClear, InOff, InHold, InSave, InEqN, InSave2, InWP, InGood, InTake, InOver, InTailP, InRound, InTail, InCut. -/
import Derived.RangeFuncNested
import Derived.RangeFuncBound
import Derived.RangeFuncCalls
import Derived.RangeFuncLeaves
import Derived.Shelf.Abstract
import Derived.Shelf.RegionOpen
import Derived.WalkKit
import Derived.OwnWalkIn
import Derived.TacticsInMore
import Derived.LoopNIn
import Derived.LoopIn
import Derived.Scope
import Derived.Test.YtehkeadpgedolaaGreatDoorJoined4
import Derived.BigRegionIn
import Derived.Test.YtehkeadpgedolaaGreatDoorJoined3
import Derived.ChangeKeysEq
import Derived.Deep.RegionHeld3
import Derived.OrdersIn
import Derived.OrdersHeld
set_option maxRecDepth 100000
set_option maxHeartbeats 4000000
namespace Go.Proofs.YtehkeadpgedolaaGreatDoor
section
open Go.RowKit Go.Shelf
attribute [local go_sem] Oper.semAt_some
def upTo (a z : Nat) : List Nat := (List.range (z - a)).map (fun j => a + j)
theorem upTo_none (a : Nat) : upTo a a = [] := by simp [upTo]
theorem upTo_succ {a z : Nat} (h : a <= z) : upTo a (z + 1) = upTo a z ++ [z] := by
 unfold upTo
 rw [show z + 1 - a = (z - a) + 1 by omega, List.range_succ, List.map_append]
 simp; omega
theorem length_upTo (a z : Nat) : (upTo a z).length = z - a := by simp [upTo]
theorem irising_any (f a z : Nat) (w : World) : Calls Tryz.prog 204 #[.pointer (some ⟨f, 0, none⟩), .int .i64 a, .int .i64 z] w fun e w' => e = .returned (.func (.func 238) #[] #[.pointer (some ⟨w.heap.size + 1, 0, none⟩), .pointer (some ⟨w.heap.size + 1 + 1, 0, none⟩), .pointer (some ⟨w.heap.size, 0, none⟩)]) /\ w' = ((w.alloc (.cells #[.pointer (some ⟨f, 0, none⟩)] 168)).alloc (.cells #[.int .i64 a] 3)).alloc (.cells #[.int .i64 z] 3) := by
 go_enter Tryz.func204, Tryz.ntmps204
 go_wp2
 go_ret
 exact ⟨by simp, rfl⟩
theorem irising1_in (n : Nat) (hn : 2 <= n) (l fb ab zb f a z : Nat) (G : Nat -> Prop) (hz : z <= 139) (hfn : ¬ G fb) (hzn : ¬ G zb) (J Jx : List Nat -> World -> Prop)
  (hY : ∀ pre (x : Nat) W, x < 139 -> J pre W -> pre.length < z - a -> YieldAt Fence.wide (n - 1) Tryz.prog l #[.pointer (some ⟨f, 6 + x, none⟩)] W fun e W' =>
   (e = .returned (.bool true) /\ J (pre ++ [x]) W' /\ Keeps G W W') \/ (e = .returned (.bool false) /\ Jx (pre ++ [x]) W'))
  (W : World) (hfb : W.cell? ⟨fb, 0, none⟩ = some (.pointer (some ⟨f, 0, none⟩))) (hab : W.cell? ⟨ab, 0, none⟩ = some (.int .i64 a)) (hzb : W.cell? ⟨zb, 0, none⟩ = some (.int .i64 z)) (h0 : J [] W) :
  CallsIn Fence.wide n Tryz.prog 238 #[.func (.yield l) #[] #[], .pointer (some ⟨ab, 0, none⟩), .pointer (some ⟨zb, 0, none⟩), .pointer (some ⟨fb, 0, none⟩)] W fun e W' => (∃ v, e = .returned v) /\
   ((∃ ys, ys = upTo a z /\ J ys W') \/ (∃ pre, (∃ q, a <= q /\ q < z /\ pre = upTo a q ++ [q]) /\ Jx pre W')) := by
 have HY := hid hY
 have HC : Hid (∀ wr, Keeps G W wr -> wr.cell? ⟨fb, 0, none⟩ = some (.pointer (some ⟨f, 0, none⟩)) /\ wr.cell? ⟨zb, 0, none⟩ = some (.int .i64 z)) := fun wr hb => ⟨hb.cell hfb hfn, hb.cell hzb hzn⟩
 have HS : Hid (∀ wr q, q < 139 -> CallsIn (Fence.wide) (n - 1) Tryz.prog 210 #[.pointer (some ⟨f, 0, none⟩), .int .i64 (q : Nat)] wr fun e w' => e = .returned (.pointer (some ⟨f, 6 + q, none⟩)) /\ w' = wr) := fun wr q hq => callsIn_wide.2 (islot_any f q hq wr)
 have HJ0 := hid h0
 clear hY h0
 have hf9 : Fence.wide.fn 210 := trivial
 have h1n : 1 <= n := by omega
 refine callsIn_of_wp Tryz.func238 rfl trivial ?_ rfl
 simp only [Tryz.ntmps238, List.size_toArray, List.length_cons, List.length_nil, Nat.reduceAdd, Nat.reduceSub, Array.replicate_succ, Array.replicate_zero, List.push_toArray, List.append_toArray, List.nil_append, List.cons_append]
 gi_wp2
 clear hab
 gi_loopw [5] (fun i wr => ∃ q : Nat, a <= q /\ (q <= z \/ q = a) /\ i = .int .i64 q /\ Hid (J (upTo a q) wr) /\ Hid (Keeps G W wr)) (fun i _ => z - (intOf i).toNat)
 case atStart => exact ⟨a, Nat.le_refl _, .inr rfl, rfl, by rw [upTo_none]; exact HJ0, Keeps.refl _ _⟩
 case round =>
  obtain ⟨q, hq1, hq2, rfl, HJ, HB⟩ := hrel
  clear HJ0
  obtain ⟨cf, cz⟩ := HC.out wr HB.out
  by_cases hlt : q < z
  ·have hlt' : (q : Int) < (z : Int) := by omega
   have HSq := hid (HS.out wr q (by omega))
   obtain ⟨fn, tmps, assign, body, hy, hR⟩ := HY.out _ q wr (by omega) HJ.out (by rw [length_upTo]; omega)
   have HR := hid hR
   clear hR
   gi_wp2_with (gi_at_call 210; refine HSq.out.mono ?_; rintro e w9 ⟨rfl, h9⟩; obtain rfl := h9.symm; clear h9)
   refine HR.out.mono ?_
   rintro e W3 (⟨rfl, hJ3, hk3⟩ | ⟨rfl, hJx3⟩)
   ·have HJ3 : Hid (J (upTo a (q + 1)) W3) := by rw [upTo_succ hq1]; exact hJ3
    have HB3 := hid (HB.out.trans hk3 (fun i e => .inl e))
    clear hJ3 hk3
    gi_wp2
    go_roundw
    case rel => exact ⟨q + 1, by omega, by omega, by go_num, HJ3, HB3⟩
    case measure => simp [intOf]; omega
   ·have HX := hid hJx3
    clear hJx3
    gi_wp2
    refine bodyPost_ret (results_none rfl _ _ _) rfl ?_
    exact ⟨⟨_, rfl⟩, .inr ⟨_, ⟨q, hq1, hlt, rfl⟩, HX.out⟩⟩
  ·have hge : ¬ ((q : Int) < (z : Int)) := by omega
   have hup : upTo a q = upTo a z := by
    rcases hq2 with h | h
    ·rw [show q = z by omega]
    ·rw [h, upTo_none]; unfold upTo; rw [show z - a = 0 by omega]; rfl
   rw [hup] at HJ
   gi_wp2
   go_end0
   exact ⟨⟨_, rfl⟩, .inl HJ.out⟩
def dnL (z k : Nat) : List Nat := (List.range k).map (fun j => z - 1 - j)
theorem dnL_succ (z k : Nat) : dnL z (k + 1) = dnL z k ++ [z - 1 - k] := by simp [dnL, List.range_succ]
theorem length_dnL (z k : Nat) : (dnL z k).length = k := by simp [dnL]
theorem ifalling_any (f z a : Nat) (w : World) : Calls Tryz.prog 206 #[.pointer (some ⟨f, 0, none⟩), .int .i64 z, .int .i64 a] w fun e w' => e = .returned (.func (.func 239) #[] #[.pointer (some ⟨w.heap.size + 1, 0, none⟩), .pointer (some ⟨w.heap.size + 1 + 1, 0, none⟩), .pointer (some ⟨w.heap.size, 0, none⟩)]) /\ w' = ((w.alloc (.cells #[.pointer (some ⟨f, 0, none⟩)] 168)).alloc (.cells #[.int .i64 z] 3)).alloc (.cells #[.int .i64 a] 3) := by
 go_enter Tryz.func206, Tryz.ntmps206
 go_wp2
 go_ret
 exact ⟨by simp, rfl⟩
theorem ifalling1_in (n : Nat) (hn : 2 <= n) (l fb zb ab f z a : Nat) (G : Nat -> Prop) (hz : z <= 139) (ha : a <= 139) (hfn : ¬ G fb) (han : ¬ G ab) (J Jx : List Nat -> World -> Prop)
  (hY : ∀ pre (x : Nat) W, x < 139 -> J pre W -> pre.length < z - a -> YieldAt Fence.wide (n - 1) Tryz.prog l #[.pointer (some ⟨f, 6 + x, none⟩)] W fun e W' =>
   (e = .returned (.bool true) /\ J (pre ++ [x]) W' /\ Keeps G W W') \/ (e = .returned (.bool false) /\ Jx (pre ++ [x]) W'))
  (W : World) (hfb : W.cell? ⟨fb, 0, none⟩ = some (.pointer (some ⟨f, 0, none⟩))) (hzb : W.cell? ⟨zb, 0, none⟩ = some (.int .i64 z)) (hab : W.cell? ⟨ab, 0, none⟩ = some (.int .i64 a)) (h0 : J [] W) :
  CallsIn Fence.wide n Tryz.prog 239 #[.func (.yield l) #[] #[], .pointer (some ⟨zb, 0, none⟩), .pointer (some ⟨ab, 0, none⟩), .pointer (some ⟨fb, 0, none⟩)] W fun e W' => (∃ v, e = .returned v) /\
   ((∃ ys, ys = dnL z (z - a) /\ J ys W') \/ (∃ pre, (∃ k, k < z - a /\ pre = dnL z (k + 1)) /\ Jx pre W')) := by
 have HY := hid hY
 have HC : Hid (∀ wr, Keeps G W wr -> wr.cell? ⟨fb, 0, none⟩ = some (.pointer (some ⟨f, 0, none⟩)) /\ wr.cell? ⟨ab, 0, none⟩ = some (.int .i64 a)) := fun wr hb => ⟨hb.cell hfb hfn, hb.cell hab han⟩
 have HS : Hid (∀ wr q, q < 139 -> CallsIn (Fence.wide) (n - 1) Tryz.prog 210 #[.pointer (some ⟨f, 0, none⟩), .int .i64 (q : Nat)] wr fun e w' => e = .returned (.pointer (some ⟨f, 6 + q, none⟩)) /\ w' = wr) := fun wr q hq => callsIn_wide.2 (islot_any f q hq wr)
 have HJ0 := hid h0
 clear hY h0
 have hf9 : Fence.wide.fn 210 := trivial
 have h1n : 1 <= n := by omega
 refine callsIn_of_wp Tryz.func239 rfl trivial ?_ rfl
 simp only [Tryz.ntmps239, List.size_toArray, List.length_cons, List.length_nil, Nat.reduceAdd, Nat.reduceSub, Array.replicate_succ, Array.replicate_zero, List.push_toArray, List.append_toArray, List.nil_append, List.cons_append]
 gi_wp2
 clear hzb
 gi_loopw [5] (fun i wr => ∃ k : Nat, k <= z - a /\ i = .int .i64 ((z : Int) - 1 - k) /\ Hid (J (dnL z k) wr) /\ Hid (Keeps G W wr)) (fun i _ => (intOf i + 1).toNat)
 case atStart => exact ⟨0, by omega, by simp, HJ0, Keeps.refl _ _⟩
 case round =>
  obtain ⟨k, hk, rfl, HJ, HB⟩ := hrel
  clear HJ0
  obtain ⟨cf, ca⟩ := HC.out wr HB.out
  by_cases hlt : k < z - a
  ·obtain ⟨q, hq⟩ : ∃ q, q = z - 1 - k := ⟨_, rfl⟩
   have hq' : (z : Int) - 1 - (k : Int) = (q : Int) := by omega
   have hlt' : (a : Int) <= (q : Int) := by omega
   rw [hq']
   have HSq := hid (HS.out wr q (by omega))
   obtain ⟨fn, tmps, assign, body, hy, hR⟩ := HY.out _ q wr (by omega) HJ.out (by rw [length_dnL]; omega)
   have HR := hid hR
   have HQ := hid hq
   clear hR hq
   gi_wp2_with (gi_at_call 210; refine HSq.out.mono ?_; rintro e w9 ⟨rfl, h9⟩; obtain rfl := h9.symm; clear h9)
   refine HR.out.mono ?_
   rintro e W3 (⟨rfl, hJ3, hk3⟩ | ⟨rfl, hJx3⟩)
   ·have HJ3 : Hid (J (dnL z (k + 1)) W3) := by rw [dnL_succ, <- HQ.out]; exact hJ3
    have HB3 := hid (HB.out.trans hk3 (fun i e => .inl e))
    clear hJ3 hk3
    gi_wp2
    go_roundw
    case rel => exact ⟨k + 1, by omega, by congr 1; omega, HJ3, HB3⟩
    case measure => simp [intOf]
   ·have HX : Hid (Jx (dnL z (k + 1)) W3) := by rw [dnL_succ, <- HQ.out]; exact hJx3
    clear hJx3
    gi_wp2
    refine bodyPost_ret (results_none rfl _ _ _) rfl ?_
    exact ⟨⟨_, rfl⟩, .inr ⟨_, ⟨k, hlt, rfl⟩, HX.out⟩⟩
  ·have hke : k = z - a := by omega
   have hge : ¬ ((a : Int) <= (z : Int) - 1 - (k : Int)) := by omega
   rw [hke] at HJ
   gi_wp2
   go_end0
   exact ⟨⟨_, rfl⟩, .inl HJ.out⟩
theorem irising_stops (n : Nat) (hn : 2 <= n) (fb ab zb f a z : Nat) (G : Nat -> Prop) (hz : z <= 139) (w : World) (hfn : ¬ G fb) (hzn : ¬ G zb)
  (hfb : w.cell? ⟨fb, 0, none⟩ = some (.pointer (some ⟨f, 0, none⟩))) (hab : w.cell? ⟨ab, 0, none⟩ = some (.int .i64 a)) (hzb : w.cell? ⟨zb, 0, none⟩ = some (.int .i64 z)) :
  SeqStopsK Fence.wide n Tryz.prog 238 #[.pointer (some ⟨ab, 0, none⟩), .pointer (some ⟨zb, 0, none⟩), .pointer (some ⟨fb, 0, none⟩)] (fun x : Fin 139 => #[Value.pointer (some ⟨f, 6 + x.val, none⟩)]) (Keeps G) (fun ys => ys.map Fin.val = upTo a z) (fun pre => ∃ q, a <= q /\ q < z /\ pre.map Fin.val = upTo a q ++ [q]) (z - a) w := fun l J Jx W hW _ _ hY h0 => by
 have hb : Keeps (fun _ => False) w W := Keeps.of_below hW
 refine (irising1_in n hn l fb ab zb f a z G hz hfn hzn (fun pre W => ∃ p, p.map Fin.val = pre /\ J p W) (fun pre W => ∃ p, p.map Fin.val = pre /\ Jx p W) (fun pre x W1 hx hJ hl => ?_) W (hb.cell hfb (fun h => h)) (hb.cell hab (fun h => h)) (hb.cell hzb (fun h => h)) ⟨[], rfl, h0⟩).mono ?_
 ·obtain ⟨p, rfl, hJ⟩ := hJ
  obtain ⟨fn, tmps, assign, body, hy, hR⟩ := hY p ⟨x, hx⟩ W1 hJ (by rwa [List.length_map] at hl)
  refine ⟨fn, tmps, assign, body, hy, hR.mono ?_⟩
  rintro e W' (⟨rfl, h1, h2⟩ | ⟨rfl, h1⟩)
  ·exact .inl ⟨rfl, ⟨_, by rw [List.map_append]; rfl, h1⟩, h2⟩
  ·exact .inr ⟨rfl, ⟨_, by rw [List.map_append]; rfl, h1⟩⟩
 ·rintro e W' ⟨he, ⟨ys, rfl, p, hp, hj⟩ | ⟨pre, ⟨q, hq1, hq2, rfl⟩, p, hp, hj⟩⟩
  ·exact ⟨he, .inl ⟨p, hp, hj⟩⟩
  ·exact ⟨he, .inr ⟨p, ⟨q, hq1, hq2, hp⟩, hj⟩⟩
theorem ifalling_stops (n : Nat) (hn : 2 <= n) (fb zb ab f z a : Nat) (G : Nat -> Prop) (hz : z <= 139) (ha : a <= 139) (w : World) (hfn : ¬ G fb) (han : ¬ G ab)
  (hfb : w.cell? ⟨fb, 0, none⟩ = some (.pointer (some ⟨f, 0, none⟩))) (hzb : w.cell? ⟨zb, 0, none⟩ = some (.int .i64 z)) (hab : w.cell? ⟨ab, 0, none⟩ = some (.int .i64 a)) :
  SeqStopsK Fence.wide n Tryz.prog 239 #[.pointer (some ⟨zb, 0, none⟩), .pointer (some ⟨ab, 0, none⟩), .pointer (some ⟨fb, 0, none⟩)] (fun x : Fin 139 => #[Value.pointer (some ⟨f, 6 + x.val, none⟩)]) (Keeps G) (fun ys => ys.map Fin.val = dnL z (z - a)) (fun pre => ∃ k, k < z - a /\ pre.map Fin.val = dnL z (k + 1)) (z - a) w := fun l J Jx W hW _ _ hY h0 => by
 have hb : Keeps (fun _ => False) w W := Keeps.of_below hW
 refine (ifalling1_in n hn l fb zb ab f z a G hz ha hfn han (fun pre W => ∃ p, p.map Fin.val = pre /\ J p W) (fun pre W => ∃ p, p.map Fin.val = pre /\ Jx p W) (fun pre x W1 hx hJ hl => ?_) W (hb.cell hfb (fun h => h)) (hb.cell hzb (fun h => h)) (hb.cell hab (fun h => h)) ⟨[], rfl, h0⟩).mono ?_
 ·obtain ⟨p, rfl, hJ⟩ := hJ
  obtain ⟨fn, tmps, assign, body, hy, hR⟩ := hY p ⟨x, hx⟩ W1 hJ (by rwa [List.length_map] at hl)
  refine ⟨fn, tmps, assign, body, hy, hR.mono ?_⟩
  rintro e W' (⟨rfl, h1, h2⟩ | ⟨rfl, h1⟩)
  ·exact .inl ⟨rfl, ⟨_, by rw [List.map_append]; rfl, h1⟩, h2⟩
  ·exact .inr ⟨rfl, ⟨_, by rw [List.map_append]; rfl, h1⟩⟩
 ·rintro e W' ⟨he, ⟨ys, rfl, p, hp, hj⟩ | ⟨pre, ⟨k, hk, rfl⟩, p, hp, hj⟩⟩
  ·exact ⟨he, .inl ⟨p, hp, hj⟩⟩
  ·exact ⟨he, .inr ⟨p, ⟨k, hk, hp⟩, hj⟩⟩
end
section
set_option maxRecDepth 100000
set_option maxHeartbeats 4000000
open Go.RowKit Go.Shelf
attribute [local go_sem] Oper.semAt_some
def dslot (k : Nat) : Nat := if k < 10 then k else k + 1
theorem need_dslot (k : Nat) (hk : k < 138) : needZ (((k * 512 + 1 : Nat)) : Int) = dslot k + 1 := by
 unfold needZ needN fillN dslot
 rw [if_neg (by omega), Int.toNat_natCast, if_neg (by omega)]
 by_cases h : k < 10
 ·rw [if_neg (by omega), if_pos h]; omega
 ·rw [if_pos (by omega), if_neg h]; omega
theorem dslot_lt (k : Nat) (hk : k < 138) : dslot k < 139 := by unfold dslot; split <;> omega
def partV (sl : List Nat) (a z k : Nat) : Array Value := #[.int .i64 (sl.getD (dslot k) 0 : Nat), .agg #[.int .i64 (a - k * 512 : Nat), .int .i64 (min (z - k * 512) 512 : Nat)]]
theorem iparts_any (f a z : Nat) (w : World) : Calls Tryz.prog 153 #[.pointer (some ⟨f, 0, none⟩), .int .i64 a, .int .i64 z] w fun e w' => e = .returned (.func (.func 208) #[] #[.pointer (some ⟨w.heap.size + 1, 0, none⟩), .pointer (some ⟨w.heap.size + 1 + 1, 0, none⟩), .pointer (some ⟨w.heap.size, 0, none⟩)]) /\ w' = ((w.alloc (.cells #[.pointer (some ⟨f, 0, none⟩)] 168)).alloc (.cells #[.int .i64 a] 3)).alloc (.cells #[.int .i64 z] 3) := by
 go_enter Tryz.func153, Tryz.ntmps153
 go_wp2
 go_ret
 exact ⟨by simp, rfl⟩
theorem iparts1_in (n : Nat) (hn : 2 <= n) (l fb ab zb f m a z : Nat) (S : FileS) (hS : S.slots.length = 139) (G : Nat -> Prop) (hz : z <= 70656) (haz : a <= 70656) (hfn : ¬ G fb) (han : ¬ G ab) (hzn : ¬ G zb) (hfG : ¬ G f) (J Jx : List Nat -> World -> Prop)
  (hJa : ∀ pre W W', J pre W -> Below W.heap.size W W' -> J pre W')
  (hY : ∀ pre (x : Nat) W, a / 512 <= x -> x < fillN z -> J pre W -> pre.length < fillN z - a / 512 -> YieldAt Fence.wide (n - 1) Tryz.prog l (partV S.slots a z x) W fun e W' =>
   (e = .returned (.bool true) /\ J (pre ++ [x]) W' /\ Keeps G W W') \/ (e = .returned (.bool false) /\ Jx (pre ++ [x]) W'))
  (W : World) (hf : fileB W f m S) (hfb : W.cell? ⟨fb, 0, none⟩ = some (.pointer (some ⟨f, 0, none⟩))) (hab : W.cell? ⟨ab, 0, none⟩ = some (.int .i64 a)) (hzb : W.cell? ⟨zb, 0, none⟩ = some (.int .i64 z)) (h0 : J [] W) :
  CallsIn Fence.wide n Tryz.prog 208 #[.func (.yield l) #[] #[], .pointer (some ⟨ab, 0, none⟩), .pointer (some ⟨zb, 0, none⟩), .pointer (some ⟨fb, 0, none⟩)] W fun e W' => (∃ v, e = .returned v) /\
   ((∃ ys, ys = upTo (a / 512) (fillN z) /\ J ys W') \/ (∃ pre, (∃ q, a / 512 <= q /\ q < fillN z /\ pre = upTo (a / 512) q ++ [q]) /\ Jx pre W')) := by
 have HY := hid hY
 have HJa := hid hJa
 have HC : Hid (∀ wr, Keeps G W wr -> wr.cell? ⟨fb, 0, none⟩ = some (.pointer (some ⟨f, 0, none⟩)) /\ wr.cell? ⟨ab, 0, none⟩ = some (.int .i64 a) /\ wr.cell? ⟨zb, 0, none⟩ = some (.int .i64 z) /\ fileB wr f m S) := fun wr hb => ⟨hb.cell hfb hfn, hb.cell hab han, hb.cell hzb hzn, hf.keep hb hfG⟩
 have HSl : Hid (∀ wr q, q < 139 -> CallsIn (Fence.wide) (n - 1) Tryz.prog 210 #[.pointer (some ⟨f, 0, none⟩), .int .i64 (q : Nat)] wr fun e w' => e = .returned (.pointer (some ⟨f, 6 + q, none⟩)) /\ w' = wr) := fun wr q hq => callsIn_wide.2 (islot_any f q hq wr)
 have HFi : Hid (∀ wr, CallsIn (Fence.wide) (n - 1) Tryz.prog 209 #[.int .i64 z] wr fun e w' => e = .returned (.int .i64 (fillN z : Nat)) /\ w' = wr) := fun wr => callsIn_wide.2 (ifilled_any z (by omega) wr)
 have HNe : Hid (∀ wr (q : Nat), q < 138 -> CallsIn (Fence.wide) (n - 1) Tryz.prog 203 #[.int .i64 ((q * 512 + 1 : Nat) : Int)] wr fun e w' => e = .returned (.int .i64 ((dslot q + 1 : Nat) : Int)) /\ w' = wr) := fun wr q hq => by
  have := iNeed_any (((q * 512 + 1 : Nat)) : Int) wr
  rw [need_dslot q hq] at this
  exact callsIn_wide.2 this
 have HJ0 := hid h0
 have hfz : fillN z <= 138 := by unfold fillN; omega
 have HS := hid hS
 clear hY h0 hJa hS
 have hf9 : Fence.wide.fn 210 := trivial
 have hf8 : Fence.wide.fn 209 := trivial
 have hf7 : Fence.wide.fn 203 := trivial
 have h1n : 1 <= n := by omega
 have hmz : (z : Int) <= 70656 := by omega
 refine callsIn_of_wp Tryz.func208 rfl trivial ?_ rfl
 simp only [Tryz.ntmps208, List.size_toArray, List.length_cons, List.length_nil, Nat.reduceAdd, Nat.reduceSub, Array.replicate_succ, Array.replicate_zero, List.push_toArray, List.append_toArray, List.nil_append, List.cons_append]
 have EA : Hid ((a : Int) / 512 = ((a / 512 : Nat) : Int)) := by unfold Hid; omega
 gi_wp2
 rw [EA.out]
 clear EA
 obtain ⟨a5, ha5⟩ : ∃ a5, a5 = a / 512 := ⟨_, rfl⟩
 rw [<- ha5]
 have HA5 := hid ha5
 clear ha5
 gi_loopw [5] (fun i wr => ∃ q : Nat, a5 <= q /\ (q <= fillN z \/ q = a5) /\ i = .int .i64 q /\ Hid (J (upTo a5 q) wr) /\ Hid (Keeps G W wr)) (fun i _ => fillN z - (intOf i).toNat)
 case atStart => exact ⟨a5, Nat.le_refl _, .inr rfl, rfl, by rw [upTo_none]; exact HJ0, Keeps.refl _ _⟩
 case round =>
  obtain ⟨q, hq1, hq2, rfl, HJ, HB⟩ := hrel
  clear HJ0
  obtain ⟨cf, ca, cz, hfl⟩ := HC.out wr HB.out
  have HFl := hid hfl
  clear hfl
  have HFq := hid (HFi.out wr)
  generalize hfz' : fillN z = fz at *
  by_cases hlt : q < fz
  ·have hlt' : (q : Int) < (fz : Int) := by omega
   have hNq := HNe.out wr q (by omega)
   obtain ⟨ds, hds⟩ : ∃ ds, ds = dslot q := ⟨_, rfl⟩
   rw [<- hds] at hNq
   have HNq := hid hNq
   have EQ1 : Hid ((q : Int) * 512 + 1 = ((q * 512 + 1 : Nat) : Int)) := by unfold Hid; omega
   have HMin : Hid (min (z : Int) 70656 = (z : Int)) := by unfold Hid; omega
   have HSq := hid (fun W => HSl.out W ds (by rw [hds]; exact dslot_lt q (by omega)))
   have hd138 : (ds : Int) <= 138 := by have := dslot_lt q (by omega); omega
   have hd0 : (0 : Int) <= (ds : Int) := by omega
   have HDs := hid hds
   clear hNq hds
   have HV : Hid (max ((a : Int) - (q : Int) * 512) 0 = ((a - q * 512 : Nat) : Int) /\ min ((z : Int) - (q : Int) * 512) 512 = ((min (z - q * 512) 512 : Nat) : Int)) := by
    have hzq : q * 512 < z := by rw [<- hfz'] at hlt; unfold fillN at hlt; omega
    exact ⟨by omega, by omega⟩
   gi_wp2_with (first
    | (gi_at_call 209; rw [HMin.out]; refine HFq.out.mono ?_; rintro e w9 ⟨rfl, h9⟩; obtain rfl := h9.symm; clear h9)
    | (gi_at_call 203; rw [EQ1.out]; refine HNq.out.mono ?_; rintro e w9 ⟨rfl, h9⟩; obtain rfl := h9.symm; clear h9))
   rw [HV.out.1, HV.out.2]
   obtain ⟨pa, hpa⟩ : ∃ pa, pa = a - q * 512 := ⟨_, rfl⟩
   obtain ⟨pz, hpz⟩ : ∃ pz, pz = min (z - q * 512) 512 := ⟨_, rfl⟩
   rw [<- hpa, <- hpz]
   have HPA := hid hpa
   have HPZ := hid hpz
   have hbp : Below wr.heap.size wr (wr.alloc (.cells #[.int .i64 pa, .int .i64 pz] 239)).drew := ((Below.refl _ wr).alloc (Nat.le_refl _) _).drew
   have e0 : (wr.alloc (.cells #[.int .i64 pa, .int .i64 pz] 239)).drew.cell? ⟨wr.heap.size, 0, none⟩ = some (.int .i64 pa) := cell_of_block (block_new wr (.cells #[.int .i64 pa, .int .i64 pz] 239)) 0
   have e1 : (wr.alloc (.cells #[.int .i64 pa, .int .i64 pz] 239)).drew.cell? ⟨wr.heap.size, 1, none⟩ = some (.int .i64 pz) := cell_of_block (block_new wr (.cells #[.int .i64 pa, .int .i64 pz] 239)) 1
   have hfw := HFl.out.below hbp
   have hsl : ds < S.slots.length := by rw [HS.out]; omega
   have e2 := hfw.slot ds hsl
   have e3 : (wr.alloc (.cells #[.int .i64 pa, .int .i64 pz] 239)).drew.cell? ⟨fb, 0, none⟩ = some (.pointer (some ⟨f, 0, none⟩)) := (hbp.cell (World.block_lt_of_cell? wr _ cf)).trans cf
   have HJp := hid (HJa.out _ _ _ HJ.out hbp)
   have HBp := hid hbp
   have hpv : partV S.slots a z q = #[.int .i64 (S.slots[ds] : Nat), .agg #[.int .i64 pa, .int .i64 pz]] := by
    unfold partV
    rw [<- HDs.out, <- hpa, <- hpz, List.getD_eq_getElem?_getD, List.getElem?_eq_getElem hsl]; rfl
   obtain ⟨fn, tmps, assign, body, hy, hR⟩ := HY.out _ q _ (by rw [<- HA5.out]; exact hq1) hlt HJp.out (by rw [length_upTo, <- HA5.out]; omega)
   rw [hpv] at hy
   have HR := hid hR
   clear hbp hfw hpa hpz cf ca cz hR hpv
   refine wpIn_region_any (by kernel_rfl) ?_
   show wpAnyIn _ _ _ _ _ _ _ _ _ (wr.alloc (.cells #[.int .i64 pa, .int .i64 pz] 239)).drew
   generalize (wr.alloc (.cells #[.int .i64 pa, .int .i64 pz] 239)).drew = wp at *
   generalize hsd : S.slots[ds] = sd at *
   refine wpAnyIn_take (i := 0) (v := .func (.yield l) #[] #[]) rfl rfl (by kernel_rfl) (by kernel_rfl) (by kernel_rfl) (fun _ _ _ h => h) ⟨Or.inl ⟨by rfl, fun W => rfl⟩, fun W => rfl⟩ ?_
   try simp only [tS]
   refine wpAnyIn_take (i := 2) (v := .int .i64 ds) rfl rfl (by kernel_rfl) (by kernel_rfl) (by kernel_rfl) (fun _ _ _ h => h) ⟨Or.inl ⟨by rfl, fun W => rfl⟩, fun W => rfl⟩ ?_
   try simp only [tS]
   -- ORDERS
   refine wpAnyIn_ready (rs := [1, 6]) (by kernel_rfl) (by simp) (BigFrame.allReadyIn_want rfl rfl (fun K hK => ?_) (BigFrame.allReadyIn_want rfl rfl (fun K hK => ?_) AllReadyIn.nil))
   ·try simp only [List.getElem_toArray, List.getElem_cons_succ, List.getElem_cons_zero]
    gi_big_op
    refine hK _ _ ?_
    clear hK K
    refine wpAnyIn_ready (rs := [3, 6]) (by kernel_rfl) (by simp) (BigFrame.allReadyIn_want rfl rfl (fun K hK => ?_) (BigFrame.allReadyIn_want rfl rfl (fun K hK => ?_) AllReadyIn.nil))
    ·try simp only [List.getElem_toArray, List.getElem_cons_succ, List.getElem_cons_zero]
     refine ⟨fun _ _ => trivial, ?_⟩
     go_simp
     refine (HSq.out wp).mono ?_
     rintro e w9 ⟨rfl, h9⟩
     obtain rfl := h9.symm
     clear h9
     refine hK _ _ ?_
     clear hK K
     refine wpAnyIn_take (i := 4) (v := .pointer (some ⟨f, 6 + ds, none⟩)) rfl rfl (by kernel_rfl) (by kernel_rfl) (by kernel_rfl) (fun _ _ _ h => h) ⟨Or.inl ⟨by rfl, fun W => rfl⟩, fun W => rfl⟩ ?_
     try simp only [tS]
     refine wpAnyIn_ready (rs := [5, 6]) (by kernel_rfl) (by simp) (BigFrame.allReadyIn_want rfl rfl (fun K hK => ?_) (BigFrame.allReadyIn_want rfl rfl (fun K hK => ?_) AllReadyIn.nil))
     ·try simp only [List.getElem_toArray, List.getElem_cons_succ, List.getElem_cons_zero]
      gi_big_op
      refine hK _ _ ?_
      clear hK K
      refine wpAnyIn_ready (rs := [6]) (by kernel_rfl) (by simp) (BigFrame.allReadyIn_want rfl rfl (fun K hK => ?_) AllReadyIn.nil)
      try simp only [List.getElem_toArray, List.getElem_cons_succ, List.getElem_cons_zero]
      gi_big_op
      refine hK _ _ ?_
      clear hK K
      refine wpAnyIn_ready (rs := [7]) (by kernel_rfl) (by simp) (BigFrame.allReadyIn_want rfl rfl (fun K hK => ?_) AllReadyIn.nil)
      try simp only [List.getElem_toArray, List.getElem_cons_succ, List.getElem_cons_zero]
      refine ⟨fun _ _ => trivial, ?_⟩
      go_simp
      refine HR.out.mono ?_
      clear HR
      rintro e W3 (⟨rfl, hJ3, hk3⟩ | ⟨rfl, hJx3⟩)
      ·have HJ3 : Hid (J (upTo a5 (q + 1)) W3) := by rw [upTo_succ hq1]; exact hJ3
       have HB3 : Hid (Keeps G W W3) := (HB.out.trans (Keeps.of_below HBp.out : Keeps G wr wp) (fun i e => .inl e)).trans hk3 (fun i e => .inl e)
       clear hJ3 hk3
       refine hK _ _ ?_
       clear hK K
       refine wpAnyIn_take (i := 8) (v := .bool false) rfl rfl (by kernel_rfl) (by kernel_rfl) (by kernel_rfl) (fun _ _ _ h => h) ⟨Or.inl ⟨by rfl, fun W => rfl⟩, fun W => rfl⟩ ?_
       try simp only [tS]
       refine wpAnyIn_done (by kernel_rfl) ?_ _
       gi_wp2
       go_roundw
       case rel => exact ⟨q + 1, by omega, .inl (by omega), by go_num, HJ3, HB3⟩
       case measure => simp [intOf]; omega
      ·have HX := hid hJx3
       clear hJx3
       refine hK _ _ ?_
       clear hK K
       refine wpAnyIn_take (i := 8) (v := .bool true) rfl rfl (by kernel_rfl) (by kernel_rfl) (by kernel_rfl) (fun _ _ _ h => h) ⟨Or.inl ⟨by rfl, fun W => rfl⟩, fun W => rfl⟩ ?_
       try simp only [tS]
       refine wpAnyIn_done (by kernel_rfl) ?_ _
       gi_wp2
       refine bodyPost_ret (results_none rfl _ _ _) rfl ?_
       exact ⟨⟨_, rfl⟩, .inr ⟨_, ⟨q, by rw [<- HA5.out]; exact hq1, by rw [hfz']; exact hlt, by rw [<- HA5.out]⟩, HX.out⟩⟩
     ·try simp only [List.getElem_toArray, List.getElem_cons_succ, List.getElem_cons_zero]
      gi_big_op
      refine hK _ _ ?_
      clear hK K
      refine wpAnyIn_ready (rs := [5]) (by kernel_rfl) (by simp) (BigFrame.allReadyIn_want rfl rfl (fun K hK => ?_) AllReadyIn.nil)
      try simp only [List.getElem_toArray, List.getElem_cons_succ, List.getElem_cons_zero]
      gi_big_op
      refine hK _ _ ?_
      clear hK K
      refine wpAnyIn_ready (rs := [7]) (by kernel_rfl) (by simp) (BigFrame.allReadyIn_want rfl rfl (fun K hK => ?_) AllReadyIn.nil)
      try simp only [List.getElem_toArray, List.getElem_cons_succ, List.getElem_cons_zero]
      refine ⟨fun _ _ => trivial, ?_⟩
      go_simp
      refine HR.out.mono ?_
      clear HR
      rintro e W3 (⟨rfl, hJ3, hk3⟩ | ⟨rfl, hJx3⟩)
      ·have HJ3 : Hid (J (upTo a5 (q + 1)) W3) := by rw [upTo_succ hq1]; exact hJ3
       have HB3 : Hid (Keeps G W W3) := (HB.out.trans (Keeps.of_below HBp.out : Keeps G wr wp) (fun i e => .inl e)).trans hk3 (fun i e => .inl e)
       clear hJ3 hk3
       refine hK _ _ ?_
       clear hK K
       refine wpAnyIn_take (i := 8) (v := .bool false) rfl rfl (by kernel_rfl) (by kernel_rfl) (by kernel_rfl) (fun _ _ _ h => h) ⟨Or.inl ⟨by rfl, fun W => rfl⟩, fun W => rfl⟩ ?_
       try simp only [tS]
       refine wpAnyIn_done (by kernel_rfl) ?_ _
       gi_wp2
       go_roundw
       case rel => exact ⟨q + 1, by omega, .inl (by omega), by go_num, HJ3, HB3⟩
       case measure => simp [intOf]; omega
      ·have HX := hid hJx3
       clear hJx3
       refine hK _ _ ?_
       clear hK K
       refine wpAnyIn_take (i := 8) (v := .bool true) rfl rfl (by kernel_rfl) (by kernel_rfl) (by kernel_rfl) (fun _ _ _ h => h) ⟨Or.inl ⟨by rfl, fun W => rfl⟩, fun W => rfl⟩ ?_
       try simp only [tS]
       refine wpAnyIn_done (by kernel_rfl) ?_ _
       gi_wp2
       refine bodyPost_ret (results_none rfl _ _ _) rfl ?_
       exact ⟨⟨_, rfl⟩, .inr ⟨_, ⟨q, by rw [<- HA5.out]; exact hq1, by rw [hfz']; exact hlt, by rw [<- HA5.out]⟩, HX.out⟩⟩
    ·try simp only [List.getElem_toArray, List.getElem_cons_succ, List.getElem_cons_zero]
     gi_big_op
     refine hK _ _ ?_
     clear hK K
     refine wpAnyIn_ready (rs := [3]) (by kernel_rfl) (by simp) (BigFrame.allReadyIn_want rfl rfl (fun K hK => ?_) AllReadyIn.nil)
     try simp only [List.getElem_toArray, List.getElem_cons_succ, List.getElem_cons_zero]
     refine ⟨fun _ _ => trivial, ?_⟩
     go_simp
     refine (HSq.out wp).mono ?_
     rintro e w9 ⟨rfl, h9⟩
     obtain rfl := h9.symm
     clear h9
     refine hK _ _ ?_
     clear hK K
     refine wpAnyIn_take (i := 4) (v := .pointer (some ⟨f, 6 + ds, none⟩)) rfl rfl (by kernel_rfl) (by kernel_rfl) (by kernel_rfl) (fun _ _ _ h => h) ⟨Or.inl ⟨by rfl, fun W => rfl⟩, fun W => rfl⟩ ?_
     try simp only [tS]
     refine wpAnyIn_ready (rs := [5]) (by kernel_rfl) (by simp) (BigFrame.allReadyIn_want rfl rfl (fun K hK => ?_) AllReadyIn.nil)
     try simp only [List.getElem_toArray, List.getElem_cons_succ, List.getElem_cons_zero]
     gi_big_op
     refine hK _ _ ?_
     clear hK K
     refine wpAnyIn_ready (rs := [7]) (by kernel_rfl) (by simp) (BigFrame.allReadyIn_want rfl rfl (fun K hK => ?_) AllReadyIn.nil)
     try simp only [List.getElem_toArray, List.getElem_cons_succ, List.getElem_cons_zero]
     refine ⟨fun _ _ => trivial, ?_⟩
     go_simp
     refine HR.out.mono ?_
     clear HR
     rintro e W3 (⟨rfl, hJ3, hk3⟩ | ⟨rfl, hJx3⟩)
     ·have HJ3 : Hid (J (upTo a5 (q + 1)) W3) := by rw [upTo_succ hq1]; exact hJ3
      have HB3 : Hid (Keeps G W W3) := (HB.out.trans (Keeps.of_below HBp.out : Keeps G wr wp) (fun i e => .inl e)).trans hk3 (fun i e => .inl e)
      clear hJ3 hk3
      refine hK _ _ ?_
      clear hK K
      refine wpAnyIn_take (i := 8) (v := .bool false) rfl rfl (by kernel_rfl) (by kernel_rfl) (by kernel_rfl) (fun _ _ _ h => h) ⟨Or.inl ⟨by rfl, fun W => rfl⟩, fun W => rfl⟩ ?_
      try simp only [tS]
      refine wpAnyIn_done (by kernel_rfl) ?_ _
      gi_wp2
      go_roundw
      case rel => exact ⟨q + 1, by omega, .inl (by omega), by go_num, HJ3, HB3⟩
      case measure => simp [intOf]; omega
     ·have HX := hid hJx3
      clear hJx3
      refine hK _ _ ?_
      clear hK K
      refine wpAnyIn_take (i := 8) (v := .bool true) rfl rfl (by kernel_rfl) (by kernel_rfl) (by kernel_rfl) (fun _ _ _ h => h) ⟨Or.inl ⟨by rfl, fun W => rfl⟩, fun W => rfl⟩ ?_
      try simp only [tS]
      refine wpAnyIn_done (by kernel_rfl) ?_ _
      gi_wp2
      refine bodyPost_ret (results_none rfl _ _ _) rfl ?_
      exact ⟨⟨_, rfl⟩, .inr ⟨_, ⟨q, by rw [<- HA5.out]; exact hq1, by rw [hfz']; exact hlt, by rw [<- HA5.out]⟩, HX.out⟩⟩
   ·try simp only [List.getElem_toArray, List.getElem_cons_succ, List.getElem_cons_zero]
    gi_big_op
    refine hK _ _ ?_
    clear hK K
    refine wpAnyIn_ready (rs := [1]) (by kernel_rfl) (by simp) (BigFrame.allReadyIn_want rfl rfl (fun K hK => ?_) AllReadyIn.nil)
    try simp only [List.getElem_toArray, List.getElem_cons_succ, List.getElem_cons_zero]
    gi_big_op
    refine hK _ _ ?_
    clear hK K
    refine wpAnyIn_ready (rs := [3]) (by kernel_rfl) (by simp) (BigFrame.allReadyIn_want rfl rfl (fun K hK => ?_) AllReadyIn.nil)
    try simp only [List.getElem_toArray, List.getElem_cons_succ, List.getElem_cons_zero]
    refine ⟨fun _ _ => trivial, ?_⟩
    go_simp
    refine (HSq.out wp).mono ?_
    rintro e w9 ⟨rfl, h9⟩
    obtain rfl := h9.symm
    clear h9
    refine hK _ _ ?_
    clear hK K
    refine wpAnyIn_take (i := 4) (v := .pointer (some ⟨f, 6 + ds, none⟩)) rfl rfl (by kernel_rfl) (by kernel_rfl) (by kernel_rfl) (fun _ _ _ h => h) ⟨Or.inl ⟨by rfl, fun W => rfl⟩, fun W => rfl⟩ ?_
    try simp only [tS]
    refine wpAnyIn_ready (rs := [5]) (by kernel_rfl) (by simp) (BigFrame.allReadyIn_want rfl rfl (fun K hK => ?_) AllReadyIn.nil)
    try simp only [List.getElem_toArray, List.getElem_cons_succ, List.getElem_cons_zero]
    gi_big_op
    refine hK _ _ ?_
    clear hK K
    refine wpAnyIn_ready (rs := [7]) (by kernel_rfl) (by simp) (BigFrame.allReadyIn_want rfl rfl (fun K hK => ?_) AllReadyIn.nil)
    try simp only [List.getElem_toArray, List.getElem_cons_succ, List.getElem_cons_zero]
    refine ⟨fun _ _ => trivial, ?_⟩
    go_simp
    refine HR.out.mono ?_
    clear HR
    rintro e W3 (⟨rfl, hJ3, hk3⟩ | ⟨rfl, hJx3⟩)
    ·have HJ3 : Hid (J (upTo a5 (q + 1)) W3) := by rw [upTo_succ hq1]; exact hJ3
     have HB3 : Hid (Keeps G W W3) := (HB.out.trans (Keeps.of_below HBp.out : Keeps G wr wp) (fun i e => .inl e)).trans hk3 (fun i e => .inl e)
     clear hJ3 hk3
     refine hK _ _ ?_
     clear hK K
     refine wpAnyIn_take (i := 8) (v := .bool false) rfl rfl (by kernel_rfl) (by kernel_rfl) (by kernel_rfl) (fun _ _ _ h => h) ⟨Or.inl ⟨by rfl, fun W => rfl⟩, fun W => rfl⟩ ?_
     try simp only [tS]
     refine wpAnyIn_done (by kernel_rfl) ?_ _
     gi_wp2
     go_roundw
     case rel => exact ⟨q + 1, by omega, .inl (by omega), by go_num, HJ3, HB3⟩
     case measure => simp [intOf]; omega
    ·have HX := hid hJx3
     clear hJx3
     refine hK _ _ ?_
     clear hK K
     refine wpAnyIn_take (i := 8) (v := .bool true) rfl rfl (by kernel_rfl) (by kernel_rfl) (by kernel_rfl) (fun _ _ _ h => h) ⟨Or.inl ⟨by rfl, fun W => rfl⟩, fun W => rfl⟩ ?_
     try simp only [tS]
     refine wpAnyIn_done (by kernel_rfl) ?_ _
     gi_wp2
     refine bodyPost_ret (results_none rfl _ _ _) rfl ?_
     exact ⟨⟨_, rfl⟩, .inr ⟨_, ⟨q, by rw [<- HA5.out]; exact hq1, by rw [hfz']; exact hlt, by rw [<- HA5.out]⟩, HX.out⟩⟩
  ·have hge : ¬ ((q : Int) < (fz : Int)) := by omega
   have hup : upTo a5 q = upTo (a / 512) fz := by
    rw [<- HA5.out]
    rcases hq2 with h | h
    ·rw [show q = fz by omega]
    ·rw [h, upTo_none]; unfold upTo; rw [show fz - a5 = 0 by omega]; rfl
   have HMin : Hid (min (z : Int) 70656 = (z : Int)) := by unfold Hid; omega
   rw [hup] at HJ
   gi_wp2_with (gi_at_call 209; rw [HMin.out]; refine HFq.out.mono ?_; rintro e w9 ⟨rfl, h9⟩; obtain rfl := h9.symm; clear h9)
   go_end0
   rw [<- hfz'] at HJ
   exact ⟨⟨_, rfl⟩, .inl ⟨_, rfl, HJ.out⟩⟩
end
section
open Go.RowKit
theorem freeTo_next {L : List UInt8} {a z q : Nat} {rest : List Nat} (hL : L.length = 512) (hz : z <= 4096) (h : freeTo L a z 4096 = q :: rest) : freeTo (flipL L q) a z 4096 = rest := by
 have hq := freeTo_first h
 have e1 : ∀ n, isFree (flipL L q) a z n = (isFree L a z n && decide (n ≠ q)) := fun n => by
  unfold isFree
  rw [bitL_flipL L q n (by omega)]
  by_cases e : n = q
  ·subst e; rw [if_pos rfl, hq.2.2]; simp
  ·rw [if_neg e]; simp [e]
 have e2 : freeTo (flipL L q) a z 4096 = (freeTo L a z 4096).filter (fun n => decide (n ≠ q)) := by
  unfold freeTo
  rw [List.filter_filter]
  exact List.filter_congr (fun n _ => by rw [e1, Bool.and_comm])
 have hnd : (freeTo L a z 4096).Nodup := List.Pairwise.filter _ List.nodup_range
 rw [h] at hnd
 rw [e2, h, List.filter_cons_of_neg (by simp)]
 rw [List.filter_eq_self]
 intro x hx
 have hne : x ≠ q := fun e => (List.nodup_cons.1 hnd).1 (e ▸ hx)
 exact decide_eq_true hne
def tkP (Pg : Nat -> List UInt8) (q : Nat) : Nat -> List UInt8 := updP (updP Pg 2 (flipL (Pg 2) q)) q (zN 512)
def tkD (D : Int -> Bool) (q : Nat) : Int -> Bool := updT (updT D 2) q
def tkPs (Pg : Nat -> List UInt8) (ks : List Nat) : Nat -> List UInt8 := ks.foldl tkP Pg
def tkDs (D : Int -> Bool) (ks : List Nat) : Int -> Bool := ks.foldl tkD D
theorem tkPs_snoc (Pg : Nat -> List UInt8) (ks : List Nat) (q : Nat) : tkPs Pg (ks ++ [q]) = tkP (tkPs Pg ks) q := by simp [tkPs]
theorem tkDs_snoc (D : Int -> Bool) (ks : List Nat) (q : Nat) : tkDs D (ks ++ [q]) = tkD (tkDs D ks) q := by simp [tkDs]
def Rm (N size : Nat) (D : Int -> Bool) (n : Nat) : Prop := (dkD N D).length + n <= min size 100 \/ N <= min size 100
theorem Rm.le {N size : Nat} {D : Int -> Bool} {n n' : Nat} (h : Rm N size D n) (hn : n' <= n) : Rm N size D n' := by
 rcases h with h | h
 ·left; omega
 ·exact .inr h
theorem dkD_le (N : Nat) (D : Int -> Bool) : (dkD N D).length <= N := by
 have h : (dkD N D).length <= ((List.range N).map (fun k : Nat => (k : Int))).length := List.length_filter_le _ _
 simpa using h
theorem Rm.put {N size : Nat} {D : Int -> Bool} {n : Nat} (h : Rm N size D (n + 1)) (q : Nat) : Rm N size (updT D q) n := by
 rcases h with h | h
 ·have := dkD_upd1 N D q; left; omega
 ·exact .inr h
theorem Rm.use {N size : Nat} {D : Int -> Bool} {n : Nat} (h : Rm N size D (n + 1)) (q : Nat) (hq : q < N) : D q = true \/ (dkD N D).length < min size 100 := by
 rcases h with h | h
 ·right; omega
 ·cases hd : D q with
  | true => exact .inl rfl
  | false => have h1 := dkD_more N D q hq hd; have h2 := dkD_le N (updT D q); right; omega
theorem Rm.two {N size : Nat} {D : Int -> Bool} {n : Nat} (h : Rm N size D (n + 2)) (p q : Nat) (hp : p < N) (hq : q < N) (hpq : p ≠ q) : (dkD N D).length + ((if D p then 0 else 1) + (if D q then 0 else 1)) <= min size 100 := by
 have e2 : (if D p = true then 0 else 1) <= 1 := by split <;> omega
 have e3 : (if D q = true then 0 else 1) <= 1 := by split <;> omega
 rcases h with h | h
 ·omega
 ·have h3 := dkD_le N (updT (updT D p) q)
  have h4 := dkD_le N (updT D q)
  have h5 := dkD_le N (updT D p)
  have h6 := dkD_le N D
  cases hd : D p with
  | true =>
   cases hd2 : D q with
   | true => simp; omega
   | false => have h1 := dkD_more N D q hq hd2; simp; omega
  | false =>
   have h1 := dkD_more N D p hp hd
   cases hd2 : D q with
   | true => simp; omega
   | false =>
    have h2 := dkD_more N (updT D p) q hq (by unfold updT; rw [if_neg (by omega)]; exact hd2)
    simp; omega
theorem Rm.tks {N size : Nat} : ∀ {ks : List Nat} {D : Int -> Bool} {n : Nat}, Rm N size D (n + 2 * ks.length) -> Rm N size (tkDs D ks) n
 | [], _, _, h => h
 | q :: ks, D, n, h => by
  have h1 : Rm N size D (n + 2 * ks.length + 1 + 1) := by simpa [Nat.mul_add, Nat.add_assoc] using h
  exact Rm.tks (ks := ks) (D := tkD D q) ((h1.put 2).put q)
def Pe (w : World) (c : Nat) (F : Nat -> Prop) (size N : Nat) (Pg Cm : Nat -> List UInt8) (o u k : Nat) : Prop := ∃ D, Rm N size D k /\ Pc w c F size N Pg Cm D o u
theorem free_tks {Pg : Nat -> List UInt8} {a z : Nat} (ha : 3 <= a) (hz : z <= 4096) (hL : (Pg 2).length = 512) : ∀ (k : Nat), k <= (freeTo (Pg 2) a z 4096).length -> freeTo (tkPs Pg ((freeTo (Pg 2) a z 4096).take k) 2) a z 4096 = (freeTo (Pg 2) a z 4096).drop k /\ (tkPs Pg ((freeTo (Pg 2) a z 4096).take k) 2).length = 512
 | 0, _ => ⟨rfl, hL⟩
 | k + 1, hk => by
  obtain ⟨ih1, ih2⟩ := free_tks ha hz hL k (by omega)
  have hlt : k < (freeTo (Pg 2) a z 4096).length := by omega
  rw [List.drop_eq_getElem_cons hlt] at ih1
  have hq := freeTo_first ih1
  rw [List.take_add_one, List.getElem?_eq_getElem hlt, Option.toList_some, tkPs_snoc]
  have e2 : tkP (tkPs Pg ((freeTo (Pg 2) a z 4096).take k)) (freeTo (Pg 2) a z 4096)[k] 2 = flipL (tkPs Pg ((freeTo (Pg 2) a z 4096).take k) 2) (freeTo (Pg 2) a z 4096)[k] := by
   unfold tkP updP
   rw [if_neg (by omega), if_pos rfl]
  rw [e2]
  exact ⟨freeTo_next ih2 hz ih1, by rw [length_flipL]; exact ih2⟩
section
variable {w : World} {m c ino : Nat} {F : Nat -> Prop} {size N : Nat} {Pg Cm : Nat -> List UInt8} {D : Int -> Bool} {o u : Nat}
theorem aPage_tks (h : mapB w m c ino) (hmF : ¬ F m) (hi : ino <= 512) (hN : 3 <= N) (k : Nat) (hk : k < (freeTo (Pg 2) (3 + ino / 8) N 4096).length) (hL : (Pg 2).length = 512) (hr : Rm N size D (2 * k + 2)) (hu : u < 1000000)
  (hp : Pc w c F size N (tkPs Pg ((freeTo (Pg 2) (3 + ino / 8) N 4096).take k)) Cm (tkDs D ((freeTo (Pg 2) (3 + ino / 8) N 4096).take k)) o u) :
  Calls Tryz.prog 205 #[.pointer (some ⟨m, 0, none⟩)] w fun e w' => e = .returned (.tuple #[.int .i64 ((freeTo (Pg 2) (3 + ino / 8) N 4096)[k] : Nat), .int .i64 0]) /\ Keeps F w w' /\ Pc w' c F size N (tkPs Pg ((freeTo (Pg 2) (3 + ino / 8) N 4096).take (k + 1))) Cm (tkDs D ((freeTo (Pg 2) (3 + ino / 8) N 4096).take (k + 1))) o (u + 1) := by
 obtain ⟨h1, -⟩ := free_tks (Pg := Pg) (a := 3 + ino / 8) (z := N) (by omega) hp.four hL k (by omega)
 rw [List.drop_eq_getElem_cons hk] at h1
 have hd : Rm N size (tkDs D ((freeTo (Pg 2) (3 + ino / 8) N 4096).take k)) 2 := Rm.tks (by rw [List.length_take, Nat.min_eq_left (by omega)]; exact hr.le (by omega))
 refine (aPage_any h hmF hi hN hu hp).mono ?_
 rintro e w' ⟨hk', hx⟩
 rcases hx with ⟨h0, -⟩ | ⟨q, rest, h0, hx⟩
 ·rw [h1] at h0; cases h0
 obtain rfl : (freeTo (Pg 2) (3 + ino / 8) N 4096)[k] = q := (List.cons.inj (h1.symm.trans h0)).1
 rcases hx with ⟨hf, -, -⟩ | ⟨-, rfl, hp'⟩
 ·have hq := freeTo_first h1
  have hd2 := hd.two 2 _ (by omega) (by omega : (freeTo (Pg 2) (3 + ino / 8) N 4096)[k] < N) (by omega)
  exact absurd hd2 (by have e : ((2 : Nat) : Int) = 2 := rfl; rw [e]; omega)
 ·refine ⟨rfl, hk', ?_⟩
  rw [List.take_add_one, List.getElem?_eq_getElem hk, Option.toList_some, tkPs_snoc, tkDs_snoc]
  exact hp'
end
end
section
set_option maxRecDepth 100000
set_option maxHeartbeats 4000000
open Go.RowKit Go.Shelf
attribute [local go_sem] Oper.semAt_some
theorem iparts_stops (n : Nat) (hn : 2 <= n) (fb ab zb f m a z : Nat) (S : FileS) (hS : S.slots.length = 139) (G : Nat -> Prop) (hz : z <= 70656) (ha : a <= 70656) (w : World) (hfn : ¬ G fb) (han : ¬ G ab) (hzn : ¬ G zb) (hfG : ¬ G f) (hf : fileB w f m S)
  (hfb : w.cell? ⟨fb, 0, none⟩ = some (.pointer (some ⟨f, 0, none⟩))) (hab : w.cell? ⟨ab, 0, none⟩ = some (.int .i64 a)) (hzb : w.cell? ⟨zb, 0, none⟩ = some (.int .i64 z)) (M : Nat) (hM : M = fillN z - a / 512) :
  SeqStopsK Fence.wide n Tryz.prog 208 #[.pointer (some ⟨ab, 0, none⟩), .pointer (some ⟨zb, 0, none⟩), .pointer (some ⟨fb, 0, none⟩)] (fun x : Fin M => partV S.slots a z (a / 512 + x.val)) (Keeps G) (fun ys => ys.map (fun x => a / 512 + x.val) = upTo (a / 512) (fillN z)) (fun pre => ∃ q, a / 512 <= q /\ q < fillN z /\ pre.map (fun x => a / 512 + x.val) = upTo (a / 512) q ++ [q]) M w := fun l J Jx W hW hAb _ hY h0 => by
 have hb : Keeps (fun _ => False) w W := Keeps.of_below hW
 refine (iparts1_in n hn l fb ab zb f m a z S hS G hz ha hfn han hzn hfG (fun pre W => ∃ p : List (Fin M), p.map (fun x => a / 512 + x.val) = pre /\ J p W) (fun pre W => ∃ p : List (Fin M), p.map (fun x => a / 512 + x.val) = pre /\ Jx p W)
  (fun pre W1 W2 hJ hb2 => by obtain ⟨p, hp, hJ⟩ := hJ; exact ⟨p, hp, hAb p W1 W2 none hJ (grown_of_below hb2 none) (fun r e => by cases e)⟩)
  (fun pre x W1 hx1 hx2 hJ hl => ?_) W (hf.keep hb (fun h => h)) (hb.cell hfb (fun h => h)) (hb.cell hab (fun h => h)) (hb.cell hzb (fun h => h)) ⟨[], rfl, h0⟩).mono ?_
 ·obtain ⟨p, rfl, hJ⟩ := hJ
  obtain ⟨k, rfl⟩ : ∃ k, x = a / 512 + k := ⟨x - a / 512, by omega⟩
  obtain ⟨fn, tmps, assign, body, hy, hR⟩ := hY p ⟨k, by omega⟩ W1 hJ (by rw [List.length_map] at hl; omega)
  refine ⟨fn, tmps, assign, body, hy, hR.mono ?_⟩
  rintro e W' (⟨rfl, h1, h2⟩ | ⟨rfl, h1⟩)
  ·exact .inl ⟨rfl, ⟨_, by rw [List.map_append]; rfl, h1⟩, h2⟩
  ·exact .inr ⟨rfl, ⟨_, by rw [List.map_append]; rfl, h1⟩⟩
 ·rintro e W' ⟨he, ⟨ys, rfl, p, hp, hj⟩ | ⟨pre, ⟨q, hq1, hq2, rfl⟩, p, hp, hj⟩⟩
  ·exact ⟨he, .inl ⟨p, hp, hj⟩⟩
  ·exact ⟨he, .inr ⟨p, ⟨q, hq1, hq2, hp⟩, hj⟩⟩
theorem results_iclear {w : World} {tmps : Array Value} {b : Nat} {x : Value} (h1 : tmps.getD 2 undef = .pointer (some ⟨b, 0, none⟩)) (r : w.heap[b]? = some (.cells #[x] 31 (0, 0))) :
  (results Tryz.f202 tmps).run Tryz.prog w = .ok x w := by
 have c1 : w.cell? ⟨b, 0, none⟩ = some x := cell_of_block r 0
 have h1' : tmps[2]?.getD undef = .pointer (some ⟨b, 0, none⟩) := by simpa using h1
 simp only [results, Tryz.results202]
 simp [go_sem, h1', asAddr, c1]
theorem iclear_none {w : World} {f m : Nat} {S : FileS} (hf : fileB w f m S) (hS : S.slots.length = 139) (hs : S.size <= 70656) (h5 : S.size % 512 = 0) : Calls Tryz.prog 202 #[.pointer (some ⟨f, 0, none⟩)] w fun e w' => e = .returned (.int .i64 0) /\ Below w.heap.size w w' := by
 refine (callsIn_wide (n := 8)).1 ?_
 obtain ⟨wA, hA⟩ : ∃ wA, wA = (w.alloc (.cells #[.pointer (some ⟨f, 0, none⟩)] 168)).alloc (.cells #[.int .i64 0] 31) := ⟨_, rfl⟩
 have hAB : Below w.heap.size w wA := by rw [hA]; exact ((Below.refl _ w).alloc (Nat.le_refl _) _).alloc (by simp) _
 have hA0 : wA.heap[w.heap.size]? = some (.cells #[.pointer (some ⟨f, 0, none⟩)] 168 (0, 0)) := by rw [hA]; exact block_alloc (block_new w _) _
 have hA1 : wA.heap[w.heap.size + 1]? = some (.cells #[.int .i64 0] 31 (0, 0)) := by
  have h1 := block_new (w.alloc (.cells #[.pointer (some ⟨f, 0, none⟩)] 168)) (.cells #[.int .i64 0] 31)
  rw [World.size_alloc] at h1
  rw [hA]; exact h1
 have hAs : wA.heap.size = w.heap.size + 2 := by rw [hA]; simp
 have hfA := hf.below hAB
 obtain ⟨-, -, -, -, -, c5⟩ := hfA.head
 have c0 : wA.cell? ⟨w.heap.size, 0, none⟩ = some (.pointer (some ⟨f, 0, none⟩)) := cell_of_block hA0 0
 have HF := hid hfA
 have HFi := hid (fun W => ifilled_any S.size (by omega) W)
 have HFe : Hid (((fillN S.size : Nat) : Int) * 512 = (S.size : Int)) := by unfold Hid fillN; omega
 have HFu : Hid (fillN S.size = S.size / 512) := by unfold Hid fillN; omega
 have hfb : ((fillN S.size : Nat) : Int) <= 200 := by unfold fillN; omega
 have HA1 := hid hA1
 have HA0 := hid hA0
 have HAB := hid hAB
 have HAs := hid hAs
 have HS := hid hS
 have hfl : f < w.heap.size := hf.lt
 rw [hA] at c5 c0
 clear hf hfA hA0 hA1 hAB hAs hS
 refine callsIn_of_wp_marks Tryz.func202 rfl trivial ?_ rfl
 simp only [Tryz.ntmps202, List.size_toArray, List.length_cons, List.length_nil, Nat.reduceAdd, Nat.reduceSub, Array.replicate_succ, Array.replicate_zero, List.push_toArray, List.append_toArray, List.nil_append, List.cons_append]
 have hf1 : Fence.wide.fn 209 := trivial
 have hf2 : Fence.wide.fn 153 := trivial
 obtain ⟨z, hz⟩ : ∃ z, z = S.size := ⟨_, rfl⟩
 obtain ⟨fz, hfz⟩ : ∃ fz, fz = fillN S.size := ⟨_, rfl⟩
 rw [<- hz] at c5
 have HZ := hid hz
 have HFz := hid hfz
 rw [<- hfz, <- hz] at HFe
 rw [<- hfz] at hfb
 clear hz hfz
 gi_wp2
 rw [<- hA] at c0 c5 ⊢
 clear hA
 have hbd : Below wA.heap.size wA wA.drew := (Below.refl _ wA).drew
 have d0 := (hbd.cell (World.block_lt_of_cell? wA _ c0)).trans c0
 have HBd := hid hbd
 have hfi := HFi.out wA.drew
 rw [<- HFz.out, <- HZ.out] at hfi
 have HFi2 := hid hfi
 have HPa := hid (iparts_any f z z wA.drew)
 have hmul : IntKind.i64.wrap ((fz : Int) * 512) = (z : Int) := by rw [IntWalk.i64_in _ (by omega)]; exact HFe.out
 clear HFi hfi hbd c5
 refine wpIn_wide.2 ?_
 refine wp_region_noPanic ?_
 refine wp_region_held_drew (S := fun W => W.cell? ⟨w.heap.size, 0, none⟩ = some (.pointer (some ⟨f, 0, none⟩))) (by kernel_rfl) c0 (fun hHeld => ?_)
 generalize wA.drew = wd at *
 refine tq 0 _ ?_
 try simp only [tS]
 refine tq 1 _ ?_
 try simp only [tS]
 refine tq 2 _ ?_
 try simp only [tS]
 refine tr 3 (fun K hK => ?_)
 go_simp
 refine HFi2.out.mono ?_
 clear HFi2
 rintro e w1 ⟨rfl, h1⟩
 obtain rfl := h1.symm
 clear h1
 go_wp2_with fail
 refine hK.out _ _ d0 (fun hHeld => ?_)
 clear hK K
 try simp only [tS]
 refine tq 4 (.int .i64 (z : Int)) ?_
 try simp only [tS]
 refine tr 5 (fun K hK => ?_)
 go_simp
 refine HPa.out.mono ?_
 clear HPa
 rintro e wD ⟨rfl, hD⟩
 have hDB : Below wd.heap.size wd wD := by rw [hD]; exact (((Below.refl _ wd).alloc (Nat.le_refl _) _).alloc (by simp) _).alloc (by simp; omega) _
 have hsD : wD.heap.size = wd.heap.size + 3 := by rw [hD]; simp
 have x0 : wD.cell? ⟨wd.heap.size, 0, none⟩ = some (.pointer (some ⟨f, 0, none⟩)) := by rw [hD]; exact cell_of_block (block_alloc (block_alloc (block_new wd _) _) _) 0
 have x1 : wD.cell? ⟨wd.heap.size + 1, 0, none⟩ = some (.int .i64 z) := by
  have h1 := block_new (wd.alloc (.cells #[.pointer (some ⟨f, 0, none⟩)] 168)) (.cells #[.int .i64 z] 3)
  rw [World.size_alloc] at h1
  rw [hD]; exact cell_of_block (block_alloc h1 _) 0
 have x2 : wD.cell? ⟨wd.heap.size + 1 + 1, 0, none⟩ = some (.int .i64 z) := by
  have h1 := block_new ((wd.alloc (.cells #[.pointer (some ⟨f, 0, none⟩)] 168)).alloc (.cells #[.int .i64 z] 3)) (.cells #[.int .i64 z] 3)
  rw [World.size_alloc, World.size_alloc] at h1
  rw [hD]; exact cell_of_block h1 0
 have dD : wD.cell? ⟨w.heap.size, 0, none⟩ = some (.pointer (some ⟨f, 0, none⟩)) := (hDB.cell (World.block_lt_of_cell? wd _ d0)).trans d0
 have hBD := HBd.out.trans (hDB.mono HBd.out.size)
 have HBD := hid hBD
 have HFD := hid (HF.out.below hBD)
 have HRD := hid (below_block hBD HA1.out (lt_of_heap HA1.out))
 have HX0 := hid x0
 have HX1 := hid x1
 have HX2 := hid x2
 have HsD := hid hsD
 have hsd := HBd.out.size
 clear hD hDB hsD x0 x1 x2 hBD HF HA1
 go_wp2_with fail
 refine hK.out _ _ dD (fun hHeld => ?_)
 clear hK K
 try simp only [tS]
 refine wpAnyH_done (by kernel_rfl) ?_ _
 refine NoPanic.normal ?_
 clear hHeld dD d0 c0
 gi_wp2
 have hs9 := HsD.out
 have HSt := hid (iparts_stops 7 (by omega) wd.heap.size (wd.heap.size + 1) (wd.heap.size + 1 + 1) f m z z S HS.out (fun i => wD.heap.size <= i) (by rw [HZ.out]; exact hs) (by rw [HZ.out]; exact hs) wD (by omega) (by omega) (by omega) (by have := HAs.out; omega) HFD.out HX0.out HX1.out HX2.out (fillN z - z / 512) rfl)
 have hN0 : fillN z - z / 512 = 0 := by rw [HZ.out, HFu.out]; omega
 have HN0 := hid hN0
 clear hN0
 refine wpIn_rangeFunc_ownH rfl (by omega) (gf := 208) (lb := #[.pointer (some ⟨wd.heap.size + 1, 0, none⟩), .pointer (some ⟨wd.heap.size + 1 + 1, 0, none⟩), .pointer (some ⟨wd.heap.size, 0, none⟩)]) rfl trivial (enters_of Tryz.func208 (by kernel_rfl) rfl)
  HSt.out (fun h k => keepsK_t h k) (keepsK_b (fun i h => h)) (Below.refl _ _) (fun _ => rfl)
  (fun pre W => pre = [] /\ Hid (Below wD.heap.size wD W))
  (fun _ _ _ => False)
  (fun s A B row hs hgr hr => ⟨hs.1, hs.2.out.grown hgr hs.2.out.size (fun k e => (hr k e).1)⟩)
  (fun cd s A B row hs hgr hr => hs)
  ⟨rfl, Below.refl _ _⟩
  (fun _ _ _ => True) (fun _ _ _ _ _ _ hs _ _ => hs) ?assign ?body ?done ?stop
 case assign =>
  rintro l pre x W K ⟨rfl, hB⟩ hK
  have HK := hid hK
  have HB := hid hB
  clear hK hB
  unfold partV
  obtain ⟨a1, ha1⟩ : ∃ a1 : Int, a1 = ((S.slots.getD (dslot (z / 512 + x.val)) 0 : Nat) : Int) := ⟨_, rfl⟩
  obtain ⟨a2, ha2⟩ : ∃ a2 : Int, a2 = ((z - (z / 512 + x.val) * 512 : Nat) : Int) := ⟨_, rfl⟩
  obtain ⟨a3, ha3⟩ : ∃ a3 : Int, a3 = ((min (z - (z / 512 + x.val) * 512) 512 : Nat) : Int) := ⟨_, rfl⟩
  rw [<- ha1, <- ha2, <- ha3]
  clear ha1 ha2 ha3
  gi_wp2
  refine HK.out _ _ ⟨by simp, fun i ob hi ho _ => block_alloc ho _⟩ (Keeps.of_below ((Below.refl _ W).alloc (Nat.le_refl _) _)) ⟨trivial, HB.out.out.alloc HB.out.out.size _⟩ trivial
 case body =>
  intro l pre x a' W h1 h2 h3 h4 hlt
  exact absurd hlt (by have := HN0.out; omega)
 case done =>
  rintro D ys W hD hys ⟨rfl, hB⟩ hK
  have v1 := below_block hB.out HRD.out (lt_of_heap HRD.out)
  have e1 : W.cell? ⟨w.heap.size + 1, 0, none⟩ = some (.int .i64 0) := cell_of_block v1 0
  have f1 : W.frozen? ⟨w.heap.size + 1, 0, none⟩ = false := frozen_of_block v1 0
  have HV1 := hid v1
  have HKD := hid hK
  have HB := hid hB
  clear hys v1 hK hB
  gi_wp2
  have hwl := HAs.out
  have hwd := HBD.out.size
  have hBW : Below w.heap.size w W := (HAB.out.trans (HBD.out.mono HAB.out.size)).trans (HB.out.out.mono (by omega))
  have hK9 : (W.setCell ⟨w.heap.size + 1, 0, none⟩ (.int .i64 0)).heap[D]? = some (.deferred (some [])) := (block_setCell_other _ _ (by omega)).trans HKD.out
  have hg9 := grownBy_putObj' (W.setCell ⟨w.heap.size + 1, 0, none⟩ (.int .i64 0)) D (.deferred none)
  have hB2 := hBW.setCell (show w.heap.size <= Addr.block ⟨w.heap.size + 1, 0, none⟩ from Nat.le_succ _) (.int .i64 0)
  refine ⟨by simp, .inl ⟨_, _, rfl, run_takeDeferred hK9, ?_⟩⟩
  refine ⟨_, results_iclear rfl (grown_block hg9 (block_setCell HV1.out 0 _) (fun e => by cases e; omega)), ?_⟩
  exact ⟨rfl, hB2.trans ((Keeps.of_grown hg9 (F := fun i => some D = some i) (fun i e => e)).below hB2.size (fun i e => by cases e; omega))⟩
 case stop =>
  intro D c pre W hD hpre hx
  exact hx.elim
end
section
open Go.RowKit Go.Maps
def offO (w : World) (b : Nat) : Prop := ∃ o : Obj, w.heap[b]? = some o /\ o.isCells = false
theorem offO.cells {w : World} {b : Nat} {cs : Array Value} {t : TypeId} {fr : Nat × Nat} (h : offO w b) : w.heap[b]? ≠ some (.cells cs t fr) := fun hm => by
 obtain ⟨o, h1, h2⟩ := h
 rw [hm] at h1
 obtain rfl := Option.some.inj h1
 cases h2
theorem offO.not {w : World} {b : Nat} {ad : Addr} {v : Value} (h : offO w b) (hc : w.cell? ad = some v) : ad.block ≠ b := fun e => by
 obtain ⟨o, h1, h2⟩ := h
 have hp := plain_addr hc
 rw [hp, e] at hc
 cases o with
 | cells cs t fr => cases h2
 | _ => simp [World.cell?, h1] at hc
theorem AnyAt.keepO {w w' : World} {d : DL} {S : DiskS} {F : Nat -> Prop} {b : Nat} (h : AnyAt w d S F) (hb : offO w b) (hF : ¬ F b) (k : Keeps (fun i => i = b) w w') : AnyAt w' d S F := by
 rcases h with ⟨h, hf⟩ | ⟨h, hf⟩
 ·refine .inl ⟨?_, hf⟩
  have hne : ∀ i, d.cutFoot S.waits i -> ¬ i = b := fun i hi e => hF (e ▸ hf i hi)
  obtain ⟨h1, ⟨a, e1, e2, e3⟩, ⟨ad, c, e4, e5, e6⟩, h4⟩ := h
  refine ⟨h1.keep k (hne _ (.inl rfl)) (fun i hi => hne i (.inr hi)), ⟨a, e1, e2, fun q hq => ⟨fun j u hu => ?_, Nat.lt_of_lt_of_le (e3 q hq).2 k.size⟩⟩, ⟨ad, c, e4, fun j s hj => ?_, e6⟩, h4⟩
  ·exact k.cell ((e3 q hq).1 j u hu) (hb.not ((e3 q hq).1 j u hu))
  ·exact k.cell (e5 j s hj) (hb.not (e5 j s hj))
 ·refine .inr ⟨?_, hf⟩
  have hne : ∀ i, d.foot S.waits i -> ¬ i = b := fun i hi e => hF (e ▸ hf i hi)
  refine h.keep k hne (fun i hi e => ?_)
  obtain ⟨ad, c, e4, e5, e6⟩ := h.first
  have hpos : 0 < S.first.length := by rw [h.flen]; exact h.plates.pos
  have hc := e5 0 S.first[0] (List.getElem?_eq_getElem hpos)
  have h1 := hb.not hc
  rw [add_block] at h1
  rw [e4] at hi
  exact h1 ((Option.some.inj hi).trans e)
theorem LogIn.keepO {w w' : World} {p : Nat} {d : DL} {S : DiskS} {size rec : Nat} {F : Nat -> Prop} {b : Nat} (h : LogIn w p d S size rec F) (hb : offO w b) (hF : ¬ F b) (k : Keeps (fun i => i = b) w w') : LogIn w' p d S size rec F := by
 refine ⟨k.heap h.heap (fun e => ?_), h.disk.keepO hb hF k, h.off⟩
 have e2 : p = b := e
 exact hb.cells (e2 ▸ h.heap)
theorem CacheAt.keepO {w w' : World} {c : Nat} {L : CLay} {C : CS} (h : CacheAt w c L C) {b : Nat} (hg : offO w b) (hFt : ¬ L.foot c b) (k : Keeps (fun i => i = b) w w') : CacheAt w' c L C := by
 have hF : ¬ L.F b := fun hf => hFt (.inl hf)
 exact {
  heap := k.heap h.heap (fun e => by
   have e1 : c = b := e
   exact hg.cells (e1 ▸ h.heap))
  log := h.log.keepO hg hF k
  lt := fun i hi => Nat.lt_of_lt_of_le (h.lt i hi) k.size
  dirty := h.dirty.keep k (fun e => hFt (.inr (.inr (.inl e.symm))))
  bytes := fun n v hv => by
   obtain ⟨g', cap, bs, h1, h2, h3, h4, h5⟩ := h.bytes n v hv
   subst h2
   refine ⟨g', cap, bs, h1, rfl, fun j hj => k.cell (h3 j hj) (hg.not (h3 j hj)), h4, h5⟩
  clean := h.clean
  used := h.used.keep k (fun e => hFt (.inr (.inr (.inr e.symm))))
  offc := h.offc
  offd := h.offd
  offu := h.offu
  ne := h.ne
  pages := h.pages
  fits := h.fits
  few := h.few
  ub := h.ub }
section
variable {w w' : World} {c : Nat} {F : Nat -> Prop} {size N : Nat} {Pg Cm : Nat -> List UInt8} {D : Int -> Bool} {o u : Nat}
theorem Pc.keepO (h : Pc w c F size N Pg Cm D o u) {b : Nat} (hg : offO w b) (hF : ¬ F b) (k : Keeps (fun i => i = b) w w') : Pc w' c F size N Pg Cm D o u := by
 obtain ⟨L, C, h⟩ := h
 exact ⟨L, C, h.at_.keepO hg (fun hf => hF (h.foot _ hf)) k, h.sz, h.nn, h.made, h.ops, h.uses, h.pg, h.cm, h.dirty, h.room, h.foot, fun i hi => Nat.lt_of_lt_of_le (h.lt i hi) k.size, Nat.lt_of_lt_of_le h.p0 k.size, h.sep.mono k.size, h.quiet⟩
end
end
section
set_option maxRecDepth 100000
set_option maxHeartbeats 4000000
open Go.RowKit Go.Shelf
attribute [local go_sem] Oper.semAt_some
def setL (sl ps ks : List Nat) : List Nat := (ps.zip ks).foldl (fun s x => s.set x.1 x.2) sl
theorem setL_snoc (sl ps ks : List Nat) (p k : Nat) (h : ps.length = ks.length) : setL sl (ps ++ [p]) (ks ++ [k]) = (setL sl ps ks).set p k := by
 unfold setL
 rw [List.zip_append h]
 simp
theorem length_foldSet : ∀ (l : List (Nat × Nat)) (sl : List Nat), (l.foldl (fun s x => s.set x.1 x.2) sl).length = sl.length
 | [], _ => rfl
 | x :: l, sl => by
  show (l.foldl (fun s x => s.set x.1 x.2) (sl.set x.1 x.2)).length = sl.length
  rw [length_foldSet l, List.length_set]
theorem length_setL (sl ps ks : List Nat) : (setL sl ps ks).length = sl.length := length_foldSet _ _
theorem fileB.off {w : World} {f m : Nat} {S : FileS} (h : fileB w f m S) : offN w f := by
 refine ⟨_, _, _, h, by decide, fun v hv => ?_⟩
 have hv' : v ∈ S.cells m := by simpa using hv
 unfold FileS.cells at hv'
 simp only [List.cons_append, List.nil_append, List.mem_cons, List.mem_map] at hv'
 rcases hv' with rfl | rfl | rfl | rfl | rfl | rfl | ⟨p, _, rfl⟩
 ·exact .inr (.inr (.inr (.inl ⟨_, rfl⟩)))
 all_goals exact .inl ⟨_, rfl⟩
theorem Pc.own {W W' : World} {c : Nat} {F : Nat -> Prop} {size N : Nat} {Pg Cm : Nat -> List UInt8} {D : Int -> Bool} {o u B : Nat} {row : Option Nat} (h : Pc W c F size N Pg Cm D o u) (hF : ∀ i, F i -> i < B) (hgr : W.grownBy W' row) (hr : ∀ r, row = some r -> B <= r /\ ∃ o : Obj, W.heap[r]? = some o /\ o.isCells = false) : Pc W' c F size N Pg Cm D o u := by
 cases row with
 | none => exact h.below ⟨hgr.os, hgr.tape, hgr.output, hgr.size, fun k hk => hgr.block k hk (by simp)⟩
 | some r =>
  obtain ⟨hB, ob, h1, h2⟩ := hr r rfl
  exact h.keepO ⟨ob, h1, h2⟩ (fun hf => by have := hF r hf; omega) (Keeps.of_grown hgr (fun i e => (Option.some.inj e).symm))
theorem need_mono {a b : Nat} (h : a <= b) (hb : b <= 70656) : needN a <= needN b := by
 unfold needN fillN
 have h1 : ¬ 70656 < a := by omega
 have h2 : ¬ 70656 < b := by omega
 simp only [h1, h2, if_false]
 split <;> split <;> omega
theorem needZ_nat (a : Nat) : needZ (a : Int) = needN a := by
 unfold needZ; rw [if_neg (by omega), Int.toNat_natCast]
theorem need_139 (a : Nat) : needN a <= 139 := by
 unfold needN fillN
 split
 ·omega
 ·split <;> omega
theorem results_ihold {w : World} {tmps : Array Value} {b : Nat} {x : Value} (h1 : tmps.getD 4 undef = .pointer (some ⟨b, 0, none⟩)) (r : w.heap[b]? = some (.cells #[x] 31 (0, 0))) :
  (results Tryz.f152 tmps).run Tryz.prog w = .ok x w := by
 have c1 : w.cell? ⟨b, 0, none⟩ = some x := cell_of_block r 0
 have h1' : tmps[4]?.getD undef = .pointer (some ⟨b, 0, none⟩) := by simpa using h1
 simp only [results, Tryz.results152]
 simp [go_sem, h1', asAddr, c1]
theorem errno_off {w : World} {b : Nat} {n : Int} {fr : Nat × Nat} (h : w.heap[b]? = some (.cells #[.int .i64 n] 31 fr)) : offN w b :=
 ⟨_, _, _, h, by decide, fun v hv => .inl ⟨n, by simpa using hv⟩⟩
section
variable {w : World} {m c ino : Nat} {F : Nat -> Prop} {size N : Nat} {Pg Cm : Nat -> List UInt8} {D : Int -> Bool} {o u : Nat}
theorem aPage_out (h : mapB w m c ino) (hmF : ¬ F m) (hi : ino <= 512) (hN : 3 <= N) (hL : (Pg 2).length = 512) (hu : u < 1000000)
  (hp : Pc w c F size N (tkPs Pg ((freeTo (Pg 2) (3 + ino / 8) N 4096).take (freeTo (Pg 2) (3 + ino / 8) N 4096).length)) Cm D o u) :
  Calls Tryz.prog 205 #[.pointer (some ⟨m, 0, none⟩)] w fun e w' => e = .returned (.tuple #[.int .i64 0, .int .i64 7]) /\ Keeps F w w' /\ ∃ Pg' D', Pc w' c F size N Pg' Cm D' o (u + 1) := by
 obtain ⟨h1, -⟩ := free_tks (Pg := Pg) (a := 3 + ino / 8) (z := N) (by omega) hp.four hL _ (Nat.le_refl _)
 rw [List.drop_length] at h1
 refine (aPage_any h hmF hi hN hu hp).mono ?_
 rintro e w' ⟨hk', hx⟩
 rcases hx with ⟨-, rfl, hp'⟩ | ⟨q, rest, h0, -⟩
 ·exact ⟨rfl, hk', _, _, hp'⟩
 ·rw [h1] at h0; cases h0
end
structure HoldX (w wD : World) (c : Nat) (F : Nat -> Prop) (size N : Nat) (Cm : Nat -> List UInt8) (o u f : Nat) (W : World) : Prop where
 r1 : W.heap[w.heap.size + 1]? = some (.cells #[.int .i64 7] 31 (0, 0))
 pc : ∃ Pg' D', Pc W c F size N Pg' Cm D' o u
 keep : Keeps (fun i => F i \/ i = f \/ i = w.heap.size + 1) wD W
theorem HoldX.own {w wD A B : World} {c : Nat} {F : Nat -> Prop} {size N : Nat} {Cm : Nat -> List UInt8} {o u f : Nat} {row : Option Nat} (h : HoldX w wD c F size N Cm o u f A) (hF : ∀ i, F i -> i < wD.heap.size) (h1 : w.heap.size + 1 < wD.heap.size) (hgr : A.grownBy B row) (hr : ∀ r, row = some r -> wD.heap.size <= r /\ ∃ o : Obj, A.heap[r]? = some o /\ o.isCells = false) : HoldX w wD c F size N Cm o u f B := by
 obtain ⟨Pg', D', hp⟩ := h.pc
 exact ⟨grown_block hgr h.r1 (fun e => by have := (hr _ e).1; omega), ⟨Pg', D', hp.own hF hgr hr⟩, h.keep.trans (Keeps.of_grown hgr (F := fun i => row = some i) (fun i e => e)) (fun i e => .inr (hr i e).1)⟩
theorem ihold_up {w : World} {f m c ino : Nat} {F : Nat -> Prop} {size N : Nat} {Pg Cm : Nat -> List UInt8} {o u k : Nat} {S : FileS} (h : mapB w m c ino) (hmF : ¬ F m) (hi : ino <= 512) (hN : 3 <= N) (hf : fileB w f m S) (hfF : ¬ F f) (hS : S.slots.length = 139) (hFl : ∀ i, F i -> i < w.heap.size) (s : Nat) (hs : s <= 70656) (hss : S.size < s) (hL : (Pg 2).length = 512) (hu : u < 900000)
  (hcl : ∀ W, Below w.heap.size w W -> Calls Tryz.prog 202 #[.pointer (some ⟨f, 0, none⟩)] W fun e w' => e = .returned (.int .i64 0) /\ Keeps F W w' /\ Pe w' c F size N Pg Cm o u (k + 2 * (needN s - needN S.size))) :
  Calls Tryz.prog 152 #[.pointer (some ⟨f, 0, none⟩), .int .i64 s] w fun e w' => Keeps (fun i => F i \/ i = f) w w' /\
   ((needN s - needN S.size <= (freeTo (Pg 2) (3 + ino / 8) N 4096).length /\ e = .returned (.int .i64 0) /\ fileB w' f m ⟨S.num, S.kind, S.mode, S.links, s, setL S.slots (upTo (needN S.size) (needN s)) ((freeTo (Pg 2) (3 + ino / 8) N 4096).take (needN s - needN S.size))⟩ /\
    Pe w' c F size N (tkPs Pg ((freeTo (Pg 2) (3 + ino / 8) N 4096).take (needN s - needN S.size))) Cm o (u + (needN s - needN S.size)) k) \/
   ((freeTo (Pg 2) (3 + ino / 8) N 4096).length < needN s - needN S.size /\ e = .returned (.int .i64 7) /\ ∃ Pg' D', Pc w' c F size N Pg' Cm D' o (u + (needN s - needN S.size)))) := by
 refine (callsIn_wide (n := 8)).1 ?_
 obtain ⟨wA, hA⟩ : ∃ wA, wA = (w.alloc (.cells #[.pointer (some ⟨f, 0, none⟩)] 168)).alloc (.cells #[.int .i64 0] 31) := ⟨_, rfl⟩
 have hAB : Below w.heap.size w wA := by rw [hA]; exact ((Below.refl _ w).alloc (Nat.le_refl _) _).alloc (by simp) _
 have hA0 : wA.heap[w.heap.size]? = some (.cells #[.pointer (some ⟨f, 0, none⟩)] 168 (0, 0)) := by rw [hA]; exact block_alloc (block_new w _) _
 have hA1 : wA.heap[w.heap.size + 1]? = some (.cells #[.int .i64 0] 31 (0, 0)) := by
  have h1 := block_new (w.alloc (.cells #[.pointer (some ⟨f, 0, none⟩)] 168)) (.cells #[.int .i64 0] 31)
  rw [World.size_alloc] at h1
  rw [hA]; exact h1
 have hAs : wA.heap.size = w.heap.size + 2 := by rw [hA]; simp
 have hfA := hf.below hAB
 obtain ⟨-, -, -, -, -, c5⟩ := hfA.head
 have c0 : wA.cell? ⟨w.heap.size, 0, none⟩ = some (.pointer (some ⟨f, 0, none⟩)) := cell_of_block hA0 0
 have HCl := hid (hcl wA hAB)
 have HF := hid hfA
 have HMp := hid (h.below hAB)
 have HL := hid hL
 have HFl := hid hFl
 have HA1 := hid hA1
 have HA0 := hid hA0
 have HAB := hid hAB
 have HAs := hid hAs
 have HS := hid hS
 have hfl : f < w.heap.size := hf.lt
 rw [hA] at c5 c0
 obtain ⟨z, hz⟩ : ∃ z, z = S.size := ⟨_, rfl⟩
 rw [<- hz] at c5 hss
 have HZ := hid hz
 have hss' : (z : Int) < (s : Int) := by omega
 clear hf hfA hA0 hA1 hAB hAs hS h hcl hL hFl hz
 refine callsIn_of_wp_marks Tryz.func152 rfl trivial ?_ rfl
 simp only [Tryz.ntmps152, List.size_toArray, List.length_cons, List.length_nil, Nat.reduceAdd, Nat.reduceSub, Array.replicate_succ, Array.replicate_zero, List.push_toArray, List.append_toArray, List.nil_append, List.cons_append]
 have hf1 : Fence.wide.fn 202 := trivial
 have hf2 : Fence.wide.fn 204 := trivial
 have hf3 : Fence.wide.fn 206 := trivial
 have hf4 : Fence.wide.fn 203 := trivial
 have hf5 : Fence.wide.fn 205 := trivial
 gi_wp2
 rw [<- hA] at c0 c5 ⊢
 clear hA
 refine (callsIn_wide.2 HCl.out).mono ?_
 clear HCl
 rintro e w1 ⟨rfl, hk1, D, hr, hp1⟩
 have d0 := hk1.cell c0 (fun hh => Nat.lt_irrefl _ (HFl.out _ hh))
 have d5 := hk1.cell c5 hfF
 have HK1 := hid hk1
 have HP1 := hid hp1
 have HRm := hid hr
 clear hk1 hp1 hr c0 c5
 gi_wp2
 have hn1 := iNeed_any (z : Int) w1
 have hn2 := iNeed_any (s : Int) w1
 rw [needZ_nat] at hn1 hn2
 have hmo : needN z <= needN s := need_mono (by omega) hs
 have h139 := need_139 s
 have hr := HRm.out
 rw [<- HZ.out] at hr
 clear HRm
 obtain ⟨hv, hhv⟩ : ∃ hv, hv = needN z := ⟨_, rfl⟩
 obtain ⟨nd, hnd⟩ : ∃ nd, nd = needN s := ⟨_, rfl⟩
 rw [<- hhv] at hn1 hmo hr
 rw [<- hnd] at hn2 hmo h139 hr
 have HHv := hid hhv
 have HNd := hid hnd
 have HN1 := hid hn1
 have HN2 := hid hn2
 clear hn1 hn2 hhv hnd
 refine (callsIn_wide.2 HN1.out).mono ?_
 clear HN1
 rintro e w2 ⟨rfl, h2⟩
 obtain rfl := h2.symm
 clear h2
 gi_wp2
 refine (callsIn_wide.2 HN2.out).mono ?_
 clear HN2
 rintro e w2 ⟨rfl, h2⟩
 obtain rfl := h2.symm
 clear h2
 gi_wp2
 refine (callsIn_wide.2 (irising_any f hv nd w1)).mono ?_
 rintro e wD ⟨rfl, hD⟩
 have hDB : Below w1.heap.size w1 wD := by rw [hD]; exact (((Below.refl _ w1).alloc (Nat.le_refl _) _).alloc (by simp) _).alloc (by simp; omega) _
 have hsD : wD.heap.size = w1.heap.size + 3 := by rw [hD]; simp
 have x0 : wD.cell? ⟨w1.heap.size, 0, none⟩ = some (.pointer (some ⟨f, 0, none⟩)) := by rw [hD]; exact cell_of_block (block_alloc (block_alloc (block_new w1 _) _) _) 0
 have x1 : wD.cell? ⟨w1.heap.size + 1, 0, none⟩ = some (.int .i64 hv) := by
  have h1 := block_new (w1.alloc (.cells #[.pointer (some ⟨f, 0, none⟩)] 168)) (.cells #[.int .i64 hv] 3)
  rw [World.size_alloc] at h1
  rw [hD]; exact cell_of_block (block_alloc h1 _) 0
 have x2 : wD.cell? ⟨w1.heap.size + 1 + 1, 0, none⟩ = some (.int .i64 nd) := by
  have h1 := block_new ((w1.alloc (.cells #[.pointer (some ⟨f, 0, none⟩)] 168)).alloc (.cells #[.int .i64 hv] 3)) (.cells #[.int .i64 nd] 3)
  rw [World.size_alloc, World.size_alloc] at h1
  rw [hD]; exact cell_of_block h1 0
 have hw1 := HK1.out.size
 have hwA := HAs.out
 have hnw : ∀ i, w.heap.size <= i -> ¬ F i := fun i hi hh => by have := HFl.out i hh; omega
 have HBD : Hid (Keeps (fun i => F i \/ i = f) wA wD) := (HK1.out.mono (fun i e => .inl e)).trans (Keeps.of_below hDB : Keeps (fun _ => False) w1 wD) (fun i e => e.elim)
 have HFD := hid ((HF.out.keep HK1.out hfF).below hDB)
 have HMD := hid ((HMp.out.keep HK1.out hmF).below hDB)
 have HPD := hid (HP1.out.below hDB)
 have v1 := HK1.out.heap HA1.out (hnw _ (by omega))
 have v0 := HK1.out.heap HA0.out (hnw _ (Nat.le_refl _))
 have HR1 := hid (below_block hDB v1 (lt_of_heap v1))
 have HR0 := hid (below_block hDB v0 (lt_of_heap v0))
 have HsD := hid hsD
 have HSt := hid (irising_stops 7 (by omega) w1.heap.size (w1.heap.size + 1) (w1.heap.size + 1 + 1) f hv nd (fun i => F i \/ i = f \/ wD.heap.size <= i) h139 wD (fun hh => by rcases hh with hh | hh | hh; (have := HFl.out _ hh; omega); omega; omega) (fun hh => by rcases hh with hh | hh | hh; (have := HFl.out _ hh; omega); omega; omega) x0 x1 x2)
 clear hD hDB hsD x0 x1 x2 HF HMp HP1 HA1 HA0 d0 d5 v0 v1 hnw
 gi_wp2
 generalize hfr : freeTo (Pg 2) (3 + ino / 8) N 4096 = fr at *
 have HFr := hid hfr
 have hsd := HsD.out
 refine wpIn_rangeFunc_ownG rfl (by omega) (gf := 238) (lb := #[.pointer (some ⟨w1.heap.size + 1, 0, none⟩), .pointer (some ⟨w1.heap.size + 1 + 1, 0, none⟩), .pointer (some ⟨w1.heap.size, 0, none⟩)]) rfl trivial (enters_of Tryz.func238 (by kernel_rfl) rfl)
  HSt.out keepsK_t (keepsK_b (fun i h => .inr (.inr h))) (Below.refl _ _) (fun _ => rfl)
  (fun pre W => Hid (pre.length <= fr.length) /\ Hid (fileB W f m ⟨S.num, S.kind, S.mode, S.links, S.size, setL S.slots (pre.map Fin.val) (fr.take pre.length)⟩) /\ Hid (Pc W c F size N (tkPs Pg (fr.take pre.length)) Cm (tkDs D (fr.take pre.length)) o (u + pre.length)) /\ Hid (Keeps (fun i => F i \/ i = f) wD W))
  (fun cd pre W => cd = .ret /\ Hid (HoldX w wD c F size N Cm o (u + (nd - hv)) f W) /\ fr.length < nd - hv)
  (fun s A B row hs hgr hr => ⟨hs.1, grown_block hgr hs.2.1.out (fun e => by have := (hr _ e).1; omega), hs.2.2.1.out.own (B := wD.heap.size) (fun i hi => by have := HFl.out i hi; omega) hgr hr, hs.2.2.2.out.trans (Keeps.of_grown hgr (F := fun i => row = some i) (fun i e => e)) (fun i e => .inr (by have := (hr i e).1; exact this))⟩)
  (fun cd s A B row hs hgr hr => ⟨hs.1, hs.2.1.out.own (fun i hi => by have := HFl.out i hi; omega) (by omega) hgr hr, hs.2.2⟩)
  ⟨Nat.zero_le _, HFD, HPD, Keeps.refl _ _⟩
  (fun x : Fin 139 => { tmps := #[.pointer (some ⟨f, 0, none⟩), .int .i64 s, .pointer (some ⟨w.heap.size, 0, none⟩), undef, .pointer (some ⟨w.heap.size + 1, 0, none⟩), .int .i64 0, .int .i64 hv, .int .i64 nd, .pointer (some ⟨f, 6 + x.val, none⟩), undef, undef, undef, undef, .int .i64 s, .pointer (some ⟨f, 0, none⟩), .pointer (some ⟨f, 0, none⟩), .pointer (some ⟨f, 2, none⟩), .pointer (some ⟨f, 5, none⟩), .int .i64 z, .bool true, .pointer (some ⟨f, 0, none⟩), .int .i64 0, .int .i64 0, .bool false, undef, .pointer (some ⟨f, 0, none⟩), .pointer (some ⟨f, 0, none⟩), .pointer (some ⟨f, 2, none⟩), .pointer (some ⟨f, 5, none⟩), .int .i64 z, .int .i64 hv, .int .i64 s, .int .i64 nd, .pointer (some ⟨f, 0, none⟩), .int .i64 hv, .int .i64 nd, .func (.func 238) #[] #[.pointer (some ⟨w1.heap.size + 1, 0, none⟩), .pointer (some ⟨w1.heap.size + 1 + 1, 0, none⟩), .pointer (some ⟨w1.heap.size, 0, none⟩)], .pointer (some ⟨f, 6 + x.val, none⟩), undef, undef, undef, undef, undef, undef, undef, undef, undef, undef, undef, undef, undef, undef, undef, undef, undef, undef, undef, undef, undef, undef, undef, undef, undef, undef, undef, undef, undef, undef, undef, undef, undef, undef, undef, undef, undef, undef, undef], defers := [] }) ?assign ?body ?done ?stop
 case assign =>
  intro l q W K hK
  gi_wp2
  exact hK
 case body =>
  rintro l pre x W ⟨hpl, HFw, HPw, HKw⟩ hlt
  have hb0 : ∀ i, w.heap.size <= i -> ¬ (F i \/ i = f) := fun i hi hh => by
   rcases hh with hh | hh
   ·have := HFl.out i hh; omega
   ·omega
  have hmf : m ≠ f := ne_of_heap HMD.out HFD.out (fun e => by simp at e)
  have hmW := HMD.out.keep HKw.out (fun hh => hh.elim hmF hmf)
  obtain ⟨c0, -⟩ := HFw.out.head
  have cb : W.cell? ⟨w.heap.size, 0, none⟩ = some (.pointer (some ⟨f, 0, none⟩)) := cell_of_block (HKw.out.heap HR0.out (hb0 _ (Nat.le_refl _))) 0
  by_cases hkl : fr.length <= pre.length
  ·have hple : pre.length = fr.length := Nat.le_antisymm hpl.out hkl
   have hpo := aPage_out (w := W) (m := m) (c := c) (ino := ino) (F := F) (size := size) (N := N) (Pg := Pg) (Cm := Cm) (o := o) (u := u + (freeTo (Pg 2) (3 + ino / 8) N 4096).length) hmW hmF hi hN HL.out (by rw [HFr.out]; omega) (by rw [hple, <- HFr.out] at HPw; exact HPw.out)
   have HPo := hid hpo
   have vR := HKw.out.heap HR1.out (hb0 _ (Nat.le_succ _))
   clear hpo hpl
   gi_wp2
   refine (CallsIn.inRound l (callsIn_wide.2 HPo.out)).mono ?_
   clear HPo
   rintro e W2 ⟨rfl, hk2, Pg2, D2, hp2⟩
   have vR2 := hk2.heap vR (fun hh => hb0 _ (Nat.le_succ _) (.inl hh))
   have e1 : W2.cell? ⟨w.heap.size + 1, 0, none⟩ = some (.int .i64 0) := cell_of_block vR2 0
   have f1 : W2.frozen? ⟨w.heap.size + 1, 0, none⟩ = false := frozen_of_block vR2 0
   have HVR := hid vR2
   have HK2 := hid hk2
   have HP2 := hid hp2
   have HB0 := hid hb0
   clear vR vR2 hk2 hp2 hb0 cb
   gi_wp2
   have kr : Keeps (fun i => i = w.heap.size + 1) W2 (W2.setCell ⟨w.heap.size + 1, 0, none⟩ (.int .i64 7)) := (Keeps.refl _ _).grown (grown_setCell (grown_refl _ _) _ _) (fun i e => .inl (Option.some.inj e).symm)
   have hp3 := (HP2.out.keepY (errno_off HVR.out) (fun hh => HB0.out _ (Nat.le_succ _) (.inl hh)) kr)
   have k3 : Keeps (fun i => F i \/ i = f \/ i = w.heap.size + 1) wD (W2.setCell ⟨w.heap.size + 1, 0, none⟩ (.int .i64 7)) := ((HKw.out.mono (fun i e => e.elim .inl (fun e => .inr (.inl e)))).trans HK2.out (fun i e => .inl (.inl e))).trans kr (fun i e => .inl (.inr (.inr e)))
   refine ⟨⟨Nat.le_trans HK2.out.size kr.size, fun i ob hi ho _ => kr.heap (HK2.out.heap ho (fun hh => HB0.out i (by omega) (.inl hh))) (fun e => by have e' : i = w.heap.size + 1 := e; omega)⟩, rfl, ⟨block_setCell HVR.out 0 _, ⟨_, _, hp3.more (Nat.le_refl _) (by rw [HFr.out]; omega)⟩, k3⟩, by omega⟩
  have hkl : pre.length < fr.length := by omega
  have hkl' : pre.length < (freeTo (Pg 2) (3 + ino / 8) N 4096).length := by rw [HFr.out]; exact hkl
  have hpg := aPage_tks (w := W) (m := m) (c := c) (ino := ino) (F := F) (size := size) (N := N) (Pg := Pg) (Cm := Cm) (D := D) (o := o) (u := u + pre.length) hmW hmF hi hN pre.length hkl' HL.out (hr.le (by omega)) (by omega)
  simp only [HFr.out] at hpg
  have HPg := hid (hpg HPw.out)
  obtain ⟨q, hq⟩ : ∃ q, q = fr[pre.length] := ⟨_, rfl⟩
  rw [<- hq] at HPg
  have HQ : Hid (fr.take (pre.length + 1) = fr.take pre.length ++ [q]) := by unfold Hid; rw [hq, List.take_add_one, List.getElem?_eq_getElem hkl]; rfl
  clear hpg hkl' hq
  gi_wp2
  refine (CallsIn.inRound l (callsIn_wide.2 HPg.out)).mono ?_
  clear HPg
  rintro e W2 ⟨rfl, hk2, hp2⟩
  have hf2 := HFw.out.keep hk2 hfF
  have hsl : x.val < (setL S.slots (pre.map Fin.val) (fr.take pre.length)).length := by rw [length_setL, HS.out]; exact x.isLt
  obtain ⟨pj, k1⟩ : ∃ pj : Nat, W2.cell? ⟨f, 6 + x.val, none⟩ = some (.int .i64 pj) := ⟨_, hf2.slot x.val hsl⟩
  have k2 := hf2.frozen (6 + x.val)
  have kk : Keeps (fun i => i = f) W2 (W2.setCell ⟨f, 6 + x.val, none⟩ (.int .i64 q)) := (Keeps.refl _ W2).grown (grown_setCell (grown_refl _ _) _ _) (fun i e => .inl (Option.some.inj e).symm)
  have kWW : Keeps (fun i => F i \/ i = f) W (W2.setCell ⟨f, 6 + x.val, none⟩ (.int .i64 q)) := (hk2.mono (fun i e => .inl e)).trans (kk.mono (fun i e => .inr e)) (fun i e => .inl e)
  have hst := hf2.setSlot x.val q
  have hp3 := hp2.keepY hf2.off hfF kk
  have HKW := hid kWW
  have HST : Hid (fileB (W2.setCell ⟨f, 6 + x.val, none⟩ (.int .i64 q)) f m ⟨S.num, S.kind, S.mode, S.links, S.size, setL S.slots ((pre ++ [x]).map Fin.val) (fr.take (pre ++ [x]).length)⟩) := by
   unfold Hid
   rw [List.length_append, List.length_singleton, HQ.out, List.map_append, List.map_singleton, setL_snoc _ _ _ _ _ (by rw [List.length_map, List.length_take]; omega)]
   exact hst
  have HP3 : Hid (Pc (W2.setCell ⟨f, 6 + x.val, none⟩ (.int .i64 q)) c F size N (tkPs Pg (fr.take (pre ++ [x]).length)) Cm (tkDs D (fr.take (pre ++ [x]).length)) o (u + (pre ++ [x]).length)) := by
   unfold Hid
   rw [List.length_append, List.length_singleton]
   exact hp3
  have HK3 := hid (HKw.out.trans kWW (fun i e => .inl e))
  have HKF : Hid (KeepsFrom wD.heap.size W (W2.setCell ⟨f, 6 + x.val, none⟩ (.int .i64 q))) := ⟨kWW.size, fun i ob hi ho _ => kWW.heap ho (hb0 i (by omega))⟩
  have HKG : Hid (Keeps (fun i => F i \/ i = f \/ wD.heap.size <= i) W (W2.setCell ⟨f, 6 + x.val, none⟩ (.int .i64 q))) := kWW.mono (fun i e => e.elim .inl (fun e => .inr (.inl e)))
  clear hk2 hp2 hf2 kk kWW hst hp3 hb0 hmW cb hsl
  gi_wp2
  exact ⟨HKF.out, HKG.out, by unfold Hid; rw [List.length_append, List.length_singleton]; exact hkl, HST, HP3, HK3⟩
 case done =>
  rintro D1 ys W hD1 hys ⟨hpl, HFw, HPw, HKw⟩ hK1
  have hyl : ys.length = nd - hv := by
   have := congrArg List.length hys
   rwa [List.length_map, length_upTo] at this
  rw [hys, hyl] at HFw
  rw [hyl] at HPw hpl
  have HPl := hid hpl.out
  have hb0 : ∀ i, w.heap.size <= i -> ¬ (F i \/ i = f) := fun i hi hh => by
   rcases hh with hh | hh
   ·have := HFl.out i hh; omega
   ·omega
  have HR0w := hid (HKw.out.heap HR0.out (hb0 _ (Nat.le_refl _)))
  have HR1w := hid (HKw.out.heap HR1.out (hb0 _ (Nat.le_succ _)))
  have cb : W.cell? ⟨w.heap.size, 0, none⟩ = some (.pointer (some ⟨f, 0, none⟩)) := cell_of_block HR0w.out 0
  have HKD1 := hid hK1
  have hwW := HKw.out.size
  clear hys hyl hK1 HR0 HR1 HSt hpl
  gi_wp2
  refine (callsIn_wide.2 (ifalling_any f hv nd W)).mono ?_
  rintro e wE ⟨rfl, hE⟩
  have hEB : Below W.heap.size W wE := by rw [hE]; exact (((Below.refl _ W).alloc (Nat.le_refl _) _).alloc (by simp) _).alloc (by simp; omega) _
  have hsE : wE.heap.size = W.heap.size + 3 := by rw [hE]; simp
  have x0 : wE.cell? ⟨W.heap.size, 0, none⟩ = some (.pointer (some ⟨f, 0, none⟩)) := by rw [hE]; exact cell_of_block (block_alloc (block_alloc (block_new W _) _) _) 0
  have x1 : wE.cell? ⟨W.heap.size + 1, 0, none⟩ = some (.int .i64 hv) := by
   have h1 := block_new (W.alloc (.cells #[.pointer (some ⟨f, 0, none⟩)] 168)) (.cells #[.int .i64 hv] 3)
   rw [World.size_alloc] at h1
   rw [hE]; exact cell_of_block (block_alloc h1 _) 0
  have x2 : wE.cell? ⟨W.heap.size + 1 + 1, 0, none⟩ = some (.int .i64 nd) := by
   have h1 := block_new ((W.alloc (.cells #[.pointer (some ⟨f, 0, none⟩)] 168)).alloc (.cells #[.int .i64 hv] 3)) (.cells #[.int .i64 nd] 3)
   rw [World.size_alloc, World.size_alloc] at h1
   rw [hE]; exact cell_of_block h1 0
  have HSt2 := hid (ifalling_stops 7 (by omega) W.heap.size (W.heap.size + 1) (W.heap.size + 1 + 1) f hv nd (fun i => wE.heap.size <= i) (by omega) h139 wE (by omega) (by omega) x0 x1 x2)
  have HFE := hid (HFw.out.below hEB)
  have HPE := hid (HPw.out.below hEB)
  have HKE : Hid (Keeps (fun i => F i \/ i = f) wD wE) := HKw.out.trans (Keeps.of_below hEB : Keeps (fun i => F i \/ i = f) W wE) (fun i e => .inl e)
  have HR0E := hid (below_block hEB HR0w.out (lt_of_heap HR0w.out))
  have HR1E := hid (below_block hEB HR1w.out (lt_of_heap HR1w.out))
  have HKDE := hid (below_block hEB HKD1.out (lt_of_heap HKD1.out))
  have hlD1 := lt_of_heap HKD1.out
  have hN0 : hv - nd = 0 := by omega
  have HN0 := hid hN0
  clear hE hEB x0 x1 x2 cb HFw HPw HKw HR0w HR1w HKD1 hN0
  gi_wp2
  refine wpIn_rangeFunc_ownH rfl (by omega) (gf := 239) (lb := #[.pointer (some ⟨W.heap.size + 1, 0, none⟩), .pointer (some ⟨W.heap.size + 1 + 1, 0, none⟩), .pointer (some ⟨W.heap.size, 0, none⟩)]) rfl trivial (enters_of Tryz.func239 (by kernel_rfl) rfl)
   HSt2.out (fun h k => keepsK_t h k) (keepsK_b (fun i h => h)) (Below.refl _ _) (fun _ => rfl)
   (fun pre W => pre = [] /\ Hid (Below wE.heap.size wE W))
   (fun _ _ _ => False)
   (fun s A B row hs hgr hr => ⟨hs.1, hs.2.out.grown hgr hs.2.out.size (fun k e => (hr k e).1)⟩)
   (fun cd s A B row hs hgr hr => hs)
   ⟨rfl, Below.refl _ _⟩
   (fun _ _ _ => True) (fun _ _ _ _ _ _ hs _ _ => hs) ?assign2 ?body2 ?done2 ?stop2
  case assign2 =>
   rintro l pre x W K ⟨rfl, hB⟩ hK
   have HK := hid hK
   have HB := hid hB
   clear hK hB
   gi_wp2
   exact HK.out _ _ (KeepsFrom.refl _ _) (Keeps.refl _ _) ⟨trivial, HB.out⟩ trivial
  case body2 =>
   intro l pre x a' W h1 h2 h3 h4 hlt
   exact absurd hlt (by rw [HN0.out]; omega)
  case done2 =>
   rintro D2 ys2 W3 hD2 hys2 ⟨rfl, hB3⟩ hK2
   have hf3 := HFE.out.below hB3.out
   obtain ⟨-, -, -, -, -, c5⟩ := hf3.head
   have g5 := hf3.frozen 5
   have v0 := below_block hB3.out HR0E.out (lt_of_heap HR0E.out)
   have v1 := below_block hB3.out HR1E.out (lt_of_heap HR1E.out)
   have cb : W3.cell? ⟨w.heap.size, 0, none⟩ = some (.pointer (some ⟨f, 0, none⟩)) := cell_of_block v0 0
   have e1 : W3.cell? ⟨w.heap.size + 1, 0, none⟩ = some (.int .i64 0) := cell_of_block v1 0
   have f1 : W3.frozen? ⟨w.heap.size + 1, 0, none⟩ = false := frozen_of_block v1 0
   have hne : ¬ f = w.heap.size + 1 := by omega
   have hne' : ¬ w.heap.size + 1 = f := by omega
   have HV1 := hid v1
   have HK2 := hid hK2
   have HKD3 := hid (below_block hB3.out HKDE.out (lt_of_heap HKDE.out))
   have HB3 := hid hB3
   have HF3 := hid hf3
   clear v0 v1 hK2 hB3 hf3 hys2
   gi_wp2
   have hwE := hsE
   have hszW := hwW
   have hB3z := HB3.out.out.size
   have kf : Keeps (fun i => i = f) W3 (W3.setCell ⟨f, 5, none⟩ (.int .i64 s)) := (Keeps.refl _ W3).grown (grown_setCell (grown_refl _ _) _ _) (fun i e => .inl (Option.some.inj e).symm)
   have hv1 := kf.heap HV1.out (fun e => hne' e)
   have kr : Keeps (fun i => i = w.heap.size + 1) (W3.setCell ⟨f, 5, none⟩ (.int .i64 s)) ((W3.setCell ⟨f, 5, none⟩ (.int .i64 s)).setCell ⟨w.heap.size + 1, 0, none⟩ (.int .i64 0)) := (Keeps.refl _ _).grown (grown_setCell (grown_refl _ _) _ _) (fun i e => .inl (Option.some.inj e).symm)
   have hv2 := block_setCell hv1 0 (.int .i64 0)
   have hf4 := (HF3.out.setSize s).keep kr (fun e => hne e)
   have hp4 := (((HPE.out.below HB3.out.out).keepY HF3.out.off hfF kf).keepY (errno_off hv1) (fun hf => by have := HFl.out _ hf; omega) kr)
   have h2D := kr.heap (kf.heap HK2.out (fun e => by have e' : D2 = f := e; omega)) (fun e => by have e' : D2 = w.heap.size + 1 := e; omega)
   have h1D := kr.heap (kf.heap HKD3.out (fun e => by have e' : D1 = f := e; omega)) (fun e => by have e' : D1 = w.heap.size + 1 := e; omega)
   have kw4 : Keeps (fun i => F i \/ i = f) w ((W3.setCell ⟨f, 5, none⟩ (.int .i64 s)).setCell ⟨w.heap.size + 1, 0, none⟩ (.int .i64 0)) :=
    (((((Keeps.of_below HAB.out : Keeps (fun i => F i \/ i = f) w wA).trans HBD.out (fun i e => .inl e)).trans HKE.out (fun i e => .inl e)).trans (Keeps.of_below HB3.out.out : Keeps (fun i => F i \/ i = f) wE W3) (fun i e => .inl e)).trans kf (fun i e => .inl (.inr e))).trans kr (fun i e => .inr (by have e' : i = w.heap.size + 1 := e; omega))
   generalize (W3.setCell ⟨f, 5, none⟩ (.int .i64 s)).setCell ⟨w.heap.size + 1, 0, none⟩ (.int .i64 0) = W4 at *
   have hg5 := grownBy_putObj' W4 D2 (.deferred none)
   have h1D5 := grown_block hg5 h1D (fun e => by cases e; omega)
   have hg6 := grownBy_putObj' (W4.putObj D2 (.deferred none)) D1 (.deferred none)
   have hr5 : ∀ r, some D2 = some r -> w.heap.size <= r /\ ∃ o : Obj, W4.heap[r]? = some o /\ o.isCells = false := fun r e => by cases e; exact ⟨by omega, _, h2D, rfl⟩
   have hr6 : ∀ r, some D1 = some r -> w.heap.size <= r /\ ∃ o : Obj, (W4.putObj D2 (.deferred none)).heap[r]? = some o /\ o.isCells = false := fun r e => by cases e; exact ⟨by omega, _, h1D5, rfl⟩
   refine ⟨by simp, .inl ⟨_, _, rfl, run_takeDeferred h2D, ?_⟩⟩
   refine ⟨by simp, .inl ⟨_, _, rfl, run_takeDeferred h1D5, ?_⟩⟩
   refine ⟨_, results_ihold rfl (grown_block hg6 (grown_block hg5 hv2 (fun e => by cases e; omega)) (fun e => by cases e; omega)), ?_⟩
   refine ⟨?_, .inl ⟨by rw [<- HZ.out, <- HHv.out, <- HNd.out]; have := HPl.out; omega, rfl, ?_, ?_⟩⟩
   ·exact (kw4.trans (Keeps.of_grown hg5 (F := fun i => some D2 = some i) (fun i e => e)) (fun i e => .inr (by cases e; omega))).trans (Keeps.of_grown hg6 (F := fun i => some D1 = some i) (fun i e => e)) (fun i e => .inr (by cases e; omega))
   ·have := grown_block hg6 (grown_block hg5 hf4 (fun e => by cases e; omega)) (fun e => by cases e; omega)
    rw [<- HZ.out, <- HHv.out, <- HNd.out]
    exact this
   ·have := (hp4.own HFl.out hg5 hr5).own HFl.out hg6 hr6
    rw [<- HZ.out, <- HHv.out, <- HNd.out]
    exact ⟨_, Rm.tks (hr.le (by rw [List.length_take]; omega)), this⟩
  case stop2 =>
   intro D c pre W hD hpre hx
   exact hx.elim
 case stop =>
  rintro D1 cd pre W hD hpre ⟨rfl, hX, hlt⟩ hK
  have HKD := hid hK
  clear hK hpre
  gi_wp2
  obtain ⟨hr1, ⟨Pg2, D2, hp2⟩, hk2⟩ := hX.out
  have hg5 := grownBy_putObj' W D1 (.deferred none)
  have hr5 : ∀ r, some D1 = some r -> w.heap.size <= r /\ ∃ o : Obj, W.heap[r]? = some o /\ o.isCells = false := fun r e => by cases e; exact ⟨by omega, _, HKD.out, rfl⟩
  have kw : Keeps (fun i => F i \/ i = f) w W := (((Keeps.of_below HAB.out : Keeps (fun i => F i \/ i = f) w wA).trans HBD.out (fun i e => .inl e))).trans hk2 (fun i e => by rcases e with e | e | e; exact .inl (.inl e); exact .inl (.inr e); exact .inr (by omega))
  refine ⟨by simp, .inl ⟨_, _, rfl, run_takeDeferred HKD.out, ?_⟩⟩
  refine ⟨_, results_ihold rfl (grown_block hg5 hr1 (fun e => by cases e; omega)), ?_⟩
  refine ⟨kw.trans (Keeps.of_grown hg5 (F := fun i => some D1 = some i) (fun i e => e)) (fun i e => .inr (by cases e; omega)), .inr ⟨?_, rfl, Pg2, D2, ?_⟩⟩
  ·rw [<- HZ.out, <- HHv.out, <- HNd.out, HFr.out]; exact hlt
  ·rw [<- HZ.out, <- HHv.out, <- HNd.out]; exact hp2.own HFl.out hg5 hr5
end
section
set_option maxRecDepth 100000
set_option maxHeartbeats 2000000
open Go.RowKit
theorem isaveFar_near {w : World} {f m : Nat} {S : FileS} (hf : fileB w f m S) (hs : S.size <= 5120) : Calls Tryz.prog 211 #[.pointer (some ⟨f, 0, none⟩)] w fun e w' => e = .returned (.int .i64 0) /\ w' = w := by
 obtain ⟨-, -, -, -, -, c5⟩ := hf.head
 have HH := hid (ihasFar_any (S.size : Int) w)
 rw [decide_eq_false (by omega)] at HH
 clear hf
 go_enter Tryz.func211, Tryz.ntmps211
 go_wp2_with fail
 refine HH.out.mono ?_
 clear HH
 rintro e w1 ⟨rfl, h1⟩
 obtain rfl := h1.symm
 clear h1
 go_wp2
 go_ret
 exact ⟨rfl, rfl⟩
def namesTo (fs : List Nat) (k : Nat) : List UInt8 := flat4 (fs.take k) ++ zN (512 - 4 * k)
theorem length_namesTo {fs : List Nat} (h : fs.length = 128) (k : Nat) (hk : k <= 128) : (namesTo fs k).length = 512 := by
 unfold namesTo; rw [List.length_append, length_flat4, List.length_take, length_zN]; omega
theorem namesTo_succ {fs : List Nat} (h : fs.length = 128) (k : Nat) (hk : k < 128) (hk' : k < fs.length) : (namesTo fs k).take (4 * k) ++ beS 4 fs[k] ++ (namesTo fs k).drop (4 * k + 4) = namesTo fs (k + 1) := by
 have hl : (flat4 (fs.take k)).length = 4 * k := by rw [length_flat4, List.length_take]; omega
 unfold namesTo
 rw [put_next _ (4 * k) (512 - 4 * k) 4 hl _ (by omega), List.take_add_one, List.getElem?_eq_getElem hk', Option.toList_some, flat4_snoc, show 512 - 4 * k - 4 = 512 - 4 * (k + 1) by omega]
theorem fileB.range {w : World} {f m : Nat} {S : FileS} (h : fileB w f m S) (hS : S.slots.length = 139) : w.rangeAt f 17 ((S.slots.drop 11).map (fun n : Nat => Value.int .i64 n)) := fun j v hv => by
 have hj : j < (S.slots.drop 11).length := by simpa using (List.getElem?_eq_some_iff.1 hv).1
 have hj2 : 11 + j < S.slots.length := by rw [List.length_drop] at hj; omega
 have h1 := h.slot (11 + j) hj2
 rw [show 6 + (11 + j) = 17 + j by omega] at h1
 rw [List.getElem?_map, List.getElem?_eq_getElem hj, List.getElem_drop] at hv
 rw [h1]; exact hv
section
variable {w : World} {f m c ino : Nat} {F : Nat -> Prop} {size N : Nat} {Pg Cm : Nat -> List UInt8} {D : Int -> Bool} {o u : Nat} {S : FileS}
theorem isaveFar_far (h : mapB w m c ino) (hmF : ¬ F m) (hf : fileB w f m S) (hfF : ¬ F f) (hS : S.slots.length = 139) (hs : 5120 < S.size) (hN : S.slots.getD 10 0 < N) (hea : ∀ p ∈ S.slots, p < 4294967296) (hr : D ((S.slots.getD 10 0 : Nat) : Int) = true \/ (dkD N D).length < min size 100) (hu : u < 1000000) (hp : Pc w c F size N Pg Cm D o u) :
  Calls Tryz.prog 211 #[.pointer (some ⟨f, 0, none⟩)] w fun e w' => e = .returned (.int .i64 0) /\ Keeps F w w' /\ ((namesTo (S.slots.drop 11) 128 = Pg (S.slots.getD 10 0) /\ Pc w' c F size N Pg Cm D o (u + 1)) \/ (namesTo (S.slots.drop 11) 128 ≠ Pg (S.slots.getD 10 0) /\ Pc w' c F size N (updP Pg (S.slots.getD 10 0) (namesTo (S.slots.drop 11) 128)) Cm (updT D ((S.slots.getD 10 0 : Nat) : Int)) o (u + 1))) := by
 obtain ⟨-, -, -, -, -, c5⟩ := hf.head
 have HH := hid (ihasFar_any (S.size : Int) w)
 rw [decide_eq_true (by omega)] at HH
 have HF := hid hf
 have hfl := hf.lt
 obtain ⟨fs, hfs⟩ : ∃ fs, fs = S.slots.drop 11 := ⟨_, rfl⟩
 have hfsl : fs.length = 128 := by rw [hfs, List.length_drop]; omega
 have HFs := hid hfs
 have HFl := hid hfsl
 have HRg : Hid (∀ W, fileB W f m S -> W.rangeAt f 17 (fs.map (fun n : Nat => Value.int .i64 n))) := fun W hW => by rw [hfs]; exact hW.range hS
 have HEa : Hid (∀ j (hj : j < fs.length), fs[j] < 4294967296) := fun j hj => by
  have hm : fs[j] ∈ S.slots.drop 11 := by rw [<- hfs]; exact List.getElem_mem hj
  exact hea _ (List.mem_of_mem_drop hm)
 obtain ⟨p, hpp⟩ : ∃ p, p = S.slots.getD 10 0 := ⟨_, rfl⟩
 have HC16 : Hid (∀ W, fileB W f m S -> W.cell? ⟨f, 16, none⟩ = some (.int .i64 p)) := fun W hW => by
  have h1 := hW.slot 10 (by omega)
  rw [h1, hpp, List.getD_eq_getElem?_getD, List.getElem?_eq_getElem (by omega)]; rfl
 rw [<- hpp] at hN hr ⊢
 rw [<- hfs]
 have HPg := hid (fun W (hW : Below w.heap.size w W) => ipage_any (h.below hW) p hN hu hp hW)
 have HLp := hid (hp.len p hN)
 have HFlt := hid hp.lt
 have HMb := hid h
 have HRo := hid hr
 have HPN := hid hN
 unfold gV at HPg
 clear hf hfs hfsl hea hpp h hp hr hN
 go_enter Tryz.func211, Tryz.ntmps211
 go_wp2_with fail
 refine HH.out.mono ?_
 clear HH
 rintro e w1 ⟨rfl, h1⟩
 obtain rfl := h1.symm
 clear h1
 go_wp2_with (first
  | (refine wpList_make_u8 rfl (.const (.int .i64 512)) (.const (.int .i64 512)) rfl 512 512 rfl rfl rfl (by omega) ?_; intro w2 hb2 hr2 hz2; have HB2 := hid hb2; have HF2 := hid (HF.out.below hb2); have HO2 : Hid (ownB w2 w.heap.size (zN 512)) := (by unfold Hid ownB; rw [<- rep_U8]; exact hr2); clear hb2 hr2 hz2)
  | (refine wpList_load_mid rfl 232 (.tmp 17) rfl f 17 rfl (fs.map (fun n : Nat => Value.int .i64 n)) _ (HRg.out w2 HF2.out) Tryz.underlying232 rfl (by rw [List.length_map, HFl.out]; kernel_rfl) ?_))
 have HN0 : Hid (ownB w2 w.heap.size (namesTo fs 0)) := HO2
 clear HO2 c5
 go_loopw [19] (fun iv wr => ∃ j : Nat, j <= 128 /\ iv = .int .i64 j /\ Hid (ownB wr w.heap.size (namesTo fs j)) /\ Hid (Below w.heap.size w wr)) (fun iv _ => 128 - (intOf iv).toNat)
 case atStart => exact ⟨0, by omega, rfl, HN0, HB2⟩
 case round =>
  obtain ⟨j, hj, rfl, HO, HB⟩ := hrel
  clear HN0 HB2 HF2
  by_cases hlt : j < 128
  ·have hj0 : (0 : Int) <= (j : Int) := by omega
   have hj1 : (j : Int) < 128 := by omega
   have hjl : j < fs.length := by rw [HFl.out]; exact hlt
   have hix : (Instr.index 232 (.agg (fs.map (fun p : Nat => Value.int .i64 p)).toArray) (.int .i64 (j : Int))).run Tryz.prog wr = .ok (.int .i64 (fs[j] : Nat)) wr := run_index_one Tryz.underlying232 (by kernel_rfl) Tryz.underlying3 hlt (by simp [hjl])
   have hfo := ifourth_any w.heap.size 0 512 512 j wr (by omega) (by omega) (by omega)
   rw [Nat.zero_add] at hfo
   have HFo := hid hfo
   have hx4 := HEa.out j hjl
   have hll : (namesTo fs j).length = 512 := length_namesTo HFl.out j hj
   have hpt := put_any w.heap.size (4 * j) 4 (512 - 4 * j) fs[j] (namesTo fs j) wr HO.out (by rw [hll]; omega) (by rw [hll]; omega) (by omega)
   rw [namesTo_succ HFl.out j hlt hjl] at hpt
   have HPt := hid hpt
   clear hpt hll hx4 HO hfo
   generalize fs[j] = x at *
   go_wp2_with fail
   refine HFo.out.mono ?_
   clear HFo
   rintro e w7 ⟨rfl, h7⟩
   obtain rfl := h7.symm
   clear h7
   go_wp2_with fail
   refine HPt.out.mono ?_
   clear HPt
   rintro e w8 ⟨rfl, ho8, hk8⟩
   have HO8 := hid ho8
   have HB8 := hid (HB.out.trans (hk8.below HB.out.size (fun i e => by have e' : i = w.heap.size := e; omega)))
   clear ho8 hk8 HB hix
   go_wp2
   exact ⟨⟨j + 1, by omega, by go_num, HO8, HB8⟩, by simp [intOf]; omega⟩
  ·obtain rfl : j = 128 := by omega
   have hfw := HF.out.below HB.out
   have c16 := HC16.out wr hfw
   obtain ⟨d0, -⟩ := hfw.head
   clear hfw
   go_wp2_with fail
   refine (HPg.out wr HB.out).mono ?_
   clear HPg
   rintro e w9 ⟨g, rfl, hg, ho9, hk9, hW9⟩
   have hO9 := HO.out.keep hk9 (fun hf => by have := HFlt.out _ hf; omega)
   have heq := equal_any (namesTo fs 128) (Pg p) ⟨w.heap.size, 0, none⟩ ⟨g, 0, none⟩ 512 512 w9 hO9.at ho9.at
   rw [length_namesTo HFl.out 128 (Nat.le_refl _), HLp.out] at heq
   have hp9 := hW9 w9 (Keeps.refl _ _)
   have HWr := hid (hp9.write p HPN.out (namesTo fs 128) (length_namesTo HFl.out 128 (Nat.le_refl _)) ⟨w.heap.size, 0, none⟩ 512 hO9.at HRo.out)
   have HKw : Hid (Keeps F w w9) := (Keeps.of_below HB.out : Keeps F w wr).trans hk9 (fun i e => .inl e)
   have HCa := hid (amCache_any (HMb.out.keep HKw.out hmF))
   have c9 := ((HF.out.keep HKw.out hfF).head).1
   have HP9 := hid hp9
   clear hO9 hk9 hW9 ho9 hg HO HB c16 d0 hp9
   by_cases hee : namesTo fs 128 = Pg p
   ·rw [decide_eq_true hee] at heq
    have HEq := hid heq
    have HEe := hid hee
    clear heq hee HWr HCa
    go_wp2_with fail
    refine HEq.out.mono ?_
    clear HEq
    rintro e w10 ⟨rfl, h10⟩
    obtain rfl := h10.symm
    clear h10
    go_wp2
    go_ret
    exact ⟨rfl, HKw.out, .inl ⟨HEe.out, HP9.out⟩⟩
   ·rw [decide_eq_false hee] at heq
    have HEq := hid heq
    have HEe := hid hee
    clear heq hee
    go_wp2_with fail
    refine HEq.out.mono ?_
    clear HEq
    rintro e w10 ⟨rfl, h10⟩
    obtain rfl := h10.symm
    clear h10
    go_wp2_with fail
    refine HCa.out.mono ?_
    clear HCa
    rintro e w10 ⟨rfl, h10⟩
    obtain rfl := h10.symm
    clear h10
    go_wp2_with fail
    refine HWr.out.mono ?_
    clear HWr
    rintro e w11 ⟨rfl, hk11, hp11⟩
    have HK11 := hid hk11
    have HP11 := hid hp11
    clear hk11 hp11
    go_wp2
    go_ret
    exact ⟨rfl, HKw.out.trans HK11.out (fun i e => .inl e), .inr ⟨HEe.out, HP11.out⟩⟩
end
end
section
open Go.RowKit
theorem eqItems_ints {P : Program} {e : TypeId} (hp : P.underlying e = some (.int .i64)) (d : Nat) (xs ys : List Nat) (w : World) : ∀ is : List Nat, (∀ i ∈ is, i < xs.length /\ i < ys.length) ->
  (Op.eqItems (d + 1) e 1 (xs.map (fun p : Nat => Value.int .i64 p)).toArray (ys.map (fun p : Nat => Value.int .i64 p)).toArray is).run P w = .ok (is.all (fun i => xs[i]? == ys[i]?)) w
 | [], _ => by simp [Op.eqItems]
 | i :: is, h => by
  obtain ⟨h1, h2⟩ := h i (by simp)
  have hk : P.plainKey e = true := by simp [Program.plainKey, hp]
  have p1 := run_part_plain (P := P) w hk (xs := (xs.map (fun p : Nat => Value.int .i64 p)).toArray) (off := i * 1) (v := .int .i64 xs[i]) (by simp [h1])
  have p2 := run_part_plain (P := P) w hk (xs := (ys.map (fun p : Nat => Value.int .i64 p)).toArray) (off := i * 1) (v := .int .i64 ys[i]) (by simp [h2])
  have ih := eqItems_ints hp d xs ys w is (fun j hj => h j (by simp [hj]))
  simp only [Op.eqItems, Sem.run_bind, p1, p2, Result.andThen_ok, run_equalIn_int w d e .i64 .i64 _ _ hp, List.all_cons]
  rw [List.getElem?_eq_getElem h1, List.getElem?_eq_getElem h2]
  by_cases hx : xs[i] = ys[i]
  ·simp only [hx, beq_self_eq_true, Bool.not_true, Bool.false_eq_true, if_false, Bool.true_and]
   exact ih
  ·have hx' : ((xs[i] : Int) == (ys[i] : Int)) = false := by rw [beq_eq_false_iff_ne]; omega
   have hx2 : (some xs[i] == some ys[i]) = false := by simpa using hx
   simp [hx', hx2]
def eqN (a b : NodeS) : Bool := a.kind == b.kind && (a.mode == b.mode && (a.links == b.links && (a.size == b.size && a.pages == b.pages)))
theorem eqN_iff {a b : NodeS} : eqN a b = true ↔ a = b := by
 obtain ⟨k1, m1, l1, s1, p1⟩ := a
 obtain ⟨k2, m2, l2, s2, p2⟩ := b
 simp [eqN]
theorem all_range_eq {xs ys : List Nat} (ha : xs.length = 11) (hb : ys.length = 11) : (List.range 11).all (fun i => xs[i]? == ys[i]?) = (xs == ys) := by
 rw [Bool.eq_iff_iff, List.all_eq_true, beq_iff_eq]
 constructor
 ·intro h
  apply List.ext_getElem?
  intro i
  rcases Nat.lt_or_ge i 11 with hi | hi
  ·simpa using h i (by simpa using hi)
  ·rw [List.getElem?_eq_none (by omega), List.getElem?_eq_none (by omega)]
 ·rintro rfl i _
  simp
theorem eqFields_int {P : Program} {w : World} {d : Nat} {xs ys : Array Value} {f : Field} {fs : List Field} {a b : Nat} {r : Bool} (hn : f.name ≠ "_") (hp : P.underlying f.type = some (.int .i64)) (hx : xs[f.offset]? = some (.int .i64 a)) (hy : ys[f.offset]? = some (.int .i64 b))
  (ih : (Op.eqFields (d + 1) xs ys fs).run P w = .ok r w) : (Op.eqFields (d + 1) xs ys (f :: fs)).run P w = .ok (a == b && r) w := by
 have hk : P.plainKey f.type = true := by simp [Program.plainKey, hp]
 simp only [Op.eqFields, hn, ne_eq, not_false_eq_true, if_true, Sem.run_bind, run_part_plain (P := P) w hk hx, run_part_plain (P := P) w hk hy, Result.andThen_ok, run_equalIn_int w d f.type .i64 .i64 _ _ hp]
 by_cases h : a = b
 ·subst h; simpa using ih
 ·have h' : ((a : Int) == (b : Int)) = false := by rw [beq_eq_false_iff_ne]; omega
  have h2 : (a == b) = false := by rw [beq_eq_false_iff_ne]; exact h
  rw [h', h2]; simp
theorem run_eqlN {a b : NodeS} (ha : a.pages.length = 11) (hb : b.pages.length = 11) (w : World) : (binOp .eql 153 (.agg (nodeC a).toArray) (.agg (nodeC b).toArray)).run Tryz.prog w = .ok (.bool (eqN a b)) w := by
 obtain ⟨k1, m1, l1, s1, p1⟩ := a
 obtain ⟨k2, m2, l2, s2, p2⟩ := b
 rw [run_eql_struct, run_equalIn_struct w 9999 153 _ _ (by kernel_rfl) (by kernel_rfl)]
 simp only [Program.fieldsOf, Tryz.underlying153]
 have ha' : p1.length = 11 := ha
 have hb' : p2.length = 11 := hb
 unfold nodeC
 dsimp only
 have pt : ∀ (k m l s : Nat) (p : List Nat), p.length = 11 -> (part 151 ([Value.int .i64 k, .int .i64 m, .int .i64 l, .int .i64 s] ++ p.map (fun p : Nat => Value.int .i64 p)).toArray 4).run Tryz.prog w = .ok (.agg (p.map (fun p : Nat => Value.int .i64 p)).toArray) w := fun k m l s p hp => by
  obtain ⟨i, hi⟩ := info_of_underlying Tryz.underlying151
  have hc : Tryz.prog.cellsOf 151 = 11 := by kernel_rfl
  simp only [part, isAgg, Sem.run_bind, run_underlying Tryz.underlying151, Result.andThen_ok, Sem.run_pure, if_true, run_sizeOf w hi, hc]
  have hx : ([Value.int .i64 k, .int .i64 m, .int .i64 l, .int .i64 s] ++ p.map (fun p : Nat => Value.int .i64 p)).toArray.extract 4 (4 + 11) = (p.map (fun p : Nat => Value.int .i64 p)).toArray := by
   apply Array.toList_inj.1
   rw [Array.toList_extract]
   simp only [List.extract, List.cons_append, List.nil_append, List.drop_succ_cons, List.drop_zero]
   exact List.take_of_length_le (by rw [List.length_map, hp]; decide)
  rw [hx]
 have h5 : (Op.eqFields 9999 ([Value.int .i64 k1, .int .i64 m1, .int .i64 l1, .int .i64 s1] ++ p1.map (fun p : Nat => Value.int .i64 p)).toArray ([Value.int .i64 k2, .int .i64 m2, .int .i64 l2, .int .i64 s2] ++ p2.map (fun p : Nat => Value.int .i64 p)).toArray [⟨"Pages", 151, 4, false, "", "", 32⟩]).run Tryz.prog w = .ok (p1 == p2) w := by
  obtain ⟨i, hi⟩ := info_of_underlying Tryz.underlying3
  simp only [Op.eqFields, ne_eq, show ¬ ("Pages" = "_") by decide, not_false_eq_true, if_true, Sem.run_bind, pt _ _ _ _ _ ha', pt _ _ _ _ _ hb', Result.andThen_ok]
  rw [run_equalIn_array w 9998 _ _ Tryz.underlying151 hi, show Tryz.prog.cellsOf 3 = 1 by kernel_rfl, eqItems_ints Tryz.underlying3 9997 p1 p2 w (List.range 11) (fun i hi => by have := List.mem_range.1 hi; omega), all_range_eq ha' hb']
  cases (p1 == p2) <;> rfl
 have h4 := eqFields_int (f := ⟨"Size", 3, 3, false, "", "", 24⟩) (a := s1) (b := s2) (by decide) Tryz.underlying3 (by simp) (by simp) h5
 have h3 := eqFields_int (f := ⟨"Links", 3, 2, false, "", "", 16⟩) (a := l1) (b := l2) (by decide) Tryz.underlying3 (by simp) (by simp) h4
 have h2 := eqFields_int (f := ⟨"Mode", 3, 1, false, "", "", 8⟩) (a := m1) (b := m2) (by decide) Tryz.underlying3 (by simp) (by simp) h3
 have h1 := eqFields_int (f := ⟨"Kind", 68, 0, false, "", "", 0⟩) (a := k1) (b := k2) (by decide) Tryz.underlying68 (by simp) (by simp) h2
 rw [h1]
 rfl
theorem yieldsIf_eqlN {P : Program} {ops : Array Oper} {S : World -> Prop} {op : Oper} {a : Act} (hw : Region.wanted op (yielded ops a.tmps) = true) (ty t2 : TypeId) (x y : Operand) (ho : op.op = .binOp .eql ty x y t2) (xs ys : Array Value) (hx : a.eval x = .agg xs) (hy : a.eval y = .agg ys) (hg : P.eqGuardType P.depth ty = false) (v : Value)
  (hr : ∀ w, (binOp .eql ty (.agg xs) (.agg ys)).run P w = .ok v w) : YieldsIf P ops S op v a :=
 .inl ⟨hw, fun w _ => by
  unfold execOp
  simp only [ho, hx, hy, Sem.run_bind, Sem.run_pure, Result.andThen_ok, run_eqGuard_agg (P := P) w .eql ty x y xs ys hg, hr w]⟩
end
section
set_option maxRecDepth 100000
set_option maxHeartbeats 2000000
open Go.RowKit
def FileS.node (S : FileS) : NodeS := ⟨S.kind, S.mode, S.links, S.size, S.slots.take 11⟩
theorem fileB.rangeN {w : World} {f m : Nat} {S : FileS} (h : fileB w f m S) : w.rangeAt f 2 (nodeC S.node) := fun j v hv => by
 rw [cell_of_block h]
 unfold FileS.cells
 unfold nodeC FileS.node at hv
 rw [List.getElem?_toArray]
 rcases Nat.lt_or_ge j 4 with hj | hj
 ·rw [List.getElem?_append_left (by simpa using hj)] at hv
  rw [List.getElem?_append_left (by simp; omega)]
  match j, hj with
  | 0, _ => exact hv
  | 1, _ => exact hv
  | 2, _ => exact hv
  | 3, _ => exact hv
 ·rw [List.getElem?_append_right (by simpa using hj), List.map_take] at hv
  rw [List.getElem?_append_right (by simp; omega)]
  simp only [List.length_cons, List.length_nil] at hv ⊢
  rw [show 2 + j - (0 + 1 + 1 + 1 + 1 + 1 + 1) = j - (0 + 1 + 1 + 1 + 1) by omega]
  have hlt := (List.getElem?_eq_some_iff.1 hv).1
  rw [List.length_take] at hlt
  rw [List.getElem?_take_of_lt (by omega)] at hv
  exact hv
def tabP (Pg : Nat -> List UInt8) (i : Nat) (n : NodeS) : Nat -> List UInt8 := updP Pg (3 + i / 8) (putT (Pg (3 + i / 8)) i (encL n))
def tabOk (Pg : Nat -> List UInt8) (i : Nat) : Prop := ∃ n : NodeS, n.ok /\ inoL (Pg (3 + i / 8)) i = encL n
theorem putT_same {L : List UInt8} (i : Nat) : putT L i (inoL L i) = L := by
 unfold putT inoL
 rw [List.append_assoc, <- List.drop_drop, List.take_append_drop, List.take_append_drop]
theorem tabP_same {Pg : Nat -> List UInt8} {i : Nat} {n : NodeS} (h : inoL (Pg (3 + i / 8)) i = encL n) : tabP Pg i n = Pg := by
 unfold tabP updP
 rw [<- h, putT_same]
 funext k
 split
 ·rename_i e; rw [e]
 ·rfl
theorem tabOk.dec {Pg : Nat -> List UInt8} {i : Nat} (h : tabOk Pg i) {n : NodeS} (hn : decL (inoL (Pg (3 + i / 8)) i) = n) : inoL (Pg (3 + i / 8)) i = encL n := by
 obtain ⟨n', h1, h2⟩ := h
 rw [h2, decL_encL n' h1] at hn
 rw [h2, hn]
section
variable {w : World} {f m c ino : Nat} {F : Nat -> Prop} {size N : Nat} {Pg Pg1 Cm : Nat -> List UInt8} {D D1 : Int -> Bool} {o u u1 n1 : Nat} {S : FileS}
theorem isave_any (h : mapB w m c ino) (hmF : ¬ F m) (hi : ino <= 512) (hin : S.num < ino) (hN : 3 + S.num / 8 < N) (hf : fileB w f m S) (hfF : ¬ F f) (hok : S.node.ok) (hu : u1 < 999990) (htb : tabOk Pg1 S.num)
  (hsf : Calls Tryz.prog 211 #[.pointer (some ⟨f, 0, none⟩)] w fun e w' => e = .returned (.int .i64 0) /\ Keeps F w w' /\ Pe w' c F size N Pg1 Cm o u1 (n1 + 1)) :
  Calls Tryz.prog 154 #[.pointer (some ⟨f, 0, none⟩)] w fun e w' => e = .returned (.int .i64 0) /\ Keeps F w w' /\ Pe w' c F size N (tabP Pg1 S.num S.node) Cm o (u1 + 2) n1 := by
 have HSf := hid hsf
 have HF := hid hf
 have HNl : Hid ((nodeC S.node).length = 15) := by unfold Hid nodeC; rw [List.length_append, List.length_map, hok.pages]; rfl
 have HGt := hid (fun W (D1 : Int -> Bool) (hk : Keeps F w W) (hW : Pc W c F size N Pg1 Cm D1 o u1) => iget_any (h.keep hk hmF) hi S.num hin hN (by omega) hW)
 have HPt := hid (fun W (D1 : Int -> Bool) (hr : Rm N size D1 (n1 + 1)) (hk : Keeps F w W) (hW : Pc W c F size N Pg1 Cm D1 o (u1 + 1)) => iput_any (h.keep hk hmF) hmF hi S.num hin S.node hok hN (by omega) (hr.use (3 + S.num / 8) hN) hW)
 have HEq := hid (fun W => run_eqlN (a := S.node) (b := decL (inoL (Pg1 (3 + S.num / 8)) S.num)) hok.pages (length_decP _ 11) W)
 have HRg : Hid (∀ W, fileB W f m S -> W.rangeAt f 2 (nodeC S.node)) := fun W hW => hW.rangeN
 unfold gV at HGt HPt
 unfold nodeV at HGt HPt
 obtain ⟨nd, hnd⟩ : ∃ nd, nd = decL (inoL (Pg1 (3 + S.num / 8)) S.num) := ⟨_, rfl⟩
 rw [<- hnd] at HGt HEq
 have HDl : Hid (nd = S.node -> tabP Pg1 S.num S.node = Pg1) := fun e => tabP_same (htb.dec (hnd.symm.trans e))
 clear hsf hf hnd htb hok h
 generalize S.node = sn at *
 go_enter Tryz.func154, Tryz.ntmps154
 go_wp2_with fail
 refine HSf.out.mono ?_
 clear HSf
 rintro e w1 ⟨rfl, hk1, D1, hr1, hp1⟩
 have hbd : Below w1.heap.size w1 w1.drew := (Below.refl _ w1).drew
 have hf1 := HF.out.keep hk1 hfF
 obtain ⟨c0, c1, -⟩ := hf1.head
 have hf2 := hf1.below hbd
 have hk2 : Keeps F w w1.drew := hk1.trans (Keeps.of_below hbd : Keeps F w1 w1.drew) (fun i e => .inl e)
 have HF1 := hid hf1
 have HF2 := hid hf2
 have HG1 := hid (HGt.out w1.drew D1 hk2 (hp1.below hbd))
 have HK2 := hid hk2
 have HR1 := hid hr1
 clear hf1 hk1 hp1 hr1 hk2 hf2 hbd HGt
 go_wp2
 refine wp_region_noPanic ?_
 refine wp_region_held_drew (S := fun W => W.cell? ⟨f, 0, none⟩ = some (.pointer (some ⟨m, 0, none⟩)) /\ W.cell? ⟨f, 1, none⟩ = some (.int .i64 S.num) /\ W.rangeAt f 2 (nodeC sn)) (by kernel_rfl) ⟨c0, c1, HRg.out w1 HF1.out⟩ (fun hHeld => ?_)
 generalize w1.drew = wd at *
 refine tq 0 _ ?_
 try simp only [tS]
 refine tq 1 _ ?_
 try simp only [tS]
 refine tq 2 _ ?_
 try simp only [tS]
 refine wpAnyH_take (i := 3) (v := .agg (nodeC sn).toArray) rfl (by kernel_rfl) (by kernel_rfl) (by kernel_rfl) (fun _ _ _ h => h) (yieldsIf_load_mid (by rfl) 153 (.tmp 11) rfl f 2 rfl (nodeC sn) _ (fun W hW => hW.2.2) Tryz.underlying153 rfl (by rw [HNl.out]; kernel_rfl)) (by assumption) ?_
 try simp only [tS]
 refine tq 4 _ ?_
 try simp only [tS]
 refine tq 5 _ ?_
 try simp only [tS]
 refine tq 6 _ ?_
 try simp only [tS]
 refine tq 7 _ ?_
 try simp only [tS]
 refine tq 8 _ ?_
 try simp only [tS]
 refine tq 9 _ ?_
 try simp only [tS]
 refine tq 10 _ ?_
 try simp only [tS]
 refine tq 11 _ ?_
 try simp only [tS]
 refine tr 12 (fun K hK => ?_)
 go_simp
 refine HG1.out.mono ?_
 clear HG1
 rintro e w3 ⟨rfl, hk3, hW3⟩
 have hf3 := HF2.out.keep hk3 hfF
 obtain ⟨d0, d1, -⟩ := hf3.head
 have HF3 := hid hf3
 have HK3 := hid (HK2.out.trans hk3 (fun i e => .inl e))
 have hp3 := hW3 w3 (Keeps.refl _ _)
 have HP3 := hid hp3
 have hbd : Below w3.heap.size w3 w3.drew := (Below.refl _ w3).drew
 have hk4 : Keeps F w w3.drew := HK3.out.trans (Keeps.of_below hbd : Keeps F w3 w3.drew) (fun i e => .inl e)
 have HPt4 := hid (HPt.out w3.drew D1 HR1.out hk4 (hp3.below hbd))
 have HK4 := hid hk4
 have HF4 := hid (hf3.below hbd)
 clear hk3 hW3 HPt hp3 hbd hk4 hf3
 go_wp2_with fail
 refine hK.out _ _ ⟨d0, d1, HRg.out w3 HF3.out⟩ (fun hHeld => ?_)
 clear hK K
 try simp only [tS]
 cases he : eqN sn nd with
 | true =>
  rw [he] at HEq
  have hsn := eqN_iff.1 he
  have HSn := hid hsn
  clear he hsn
  refine wpAnyH_take (i := 13) (v := .bool true) rfl (by kernel_rfl) (by kernel_rfl) (by kernel_rfl) (fun _ _ _ h => h) (yieldsIf_eqlN (by rfl) 153 _ (.tmp 12) (.tmp 21) rfl (nodeC sn).toArray (nodeC nd).toArray rfl rfl (by kernel_rfl) _ HEq.out) (by assumption) ?_
  try simp only [tS]
  refine wpAnyH_done (by kernel_rfl) ?_ _
  refine NoPanic.normal ?_
  clear hHeld
  go_wp2_with fail
  go_ret
  refine ⟨rfl, HK3.out, D1, HR1.out.le (by omega), ?_⟩
  rw [HDl.out HSn.out.symm]
  exact HP3.out.more (Nat.le_refl _) (by omega)
 | false =>
  rw [he] at HEq
  clear he
  refine wpAnyH_take (i := 13) (v := .bool false) rfl (by kernel_rfl) (by kernel_rfl) (by kernel_rfl) (fun _ _ _ h => h) (yieldsIf_eqlN (by rfl) 153 _ (.tmp 12) (.tmp 21) rfl (nodeC sn).toArray (nodeC nd).toArray rfl rfl (by kernel_rfl) _ HEq.out) (by assumption) ?_
  try simp only [tS]
  refine wpAnyH_done (by kernel_rfl) ?_ _
  refine NoPanic.normal ?_
  clear hHeld
  go_wp2_with fail
  refine wp_region_noPanic ?_
  refine wp_region_held_drew (S := fun W => W.cell? ⟨f, 0, none⟩ = some (.pointer (some ⟨m, 0, none⟩)) /\ W.cell? ⟨f, 1, none⟩ = some (.int .i64 S.num) /\ W.rangeAt f 2 (nodeC sn)) (by kernel_rfl) ⟨d0, d1, HRg.out w3 HF3.out⟩ (fun hHeld => ?_)
  generalize w3.drew = we at *
  refine tq 0 _ ?_
  try simp only [tS]
  refine tq 1 _ ?_
  try simp only [tS]
  refine tq 2 _ ?_
  try simp only [tS]
  refine tq 3 _ ?_
  try simp only [tS]
  refine tq 4 _ ?_
  try simp only [tS]
  refine tq 5 _ ?_
  try simp only [tS]
  refine tq 6 _ ?_
  try simp only [tS]
  refine tq 7 _ ?_
  try simp only [tS]
  refine tq 8 _ ?_
  try simp only [tS]
  refine tq 9 _ ?_
  try simp only [tS]
  refine tq 10 _ ?_
  try simp only [tS]
  refine wpAnyH_take (i := 11) (v := .agg (nodeC sn).toArray) rfl (by kernel_rfl) (by kernel_rfl) (by kernel_rfl) (fun _ _ _ h => h) (yieldsIf_load_mid (by rfl) 153 (.tmp 33) rfl f 2 rfl (nodeC sn) _ (fun W hW => hW.2.2) Tryz.underlying153 rfl (by rw [HNl.out]; kernel_rfl)) (by assumption) ?_
  try simp only [tS]
  refine tr 12 (fun K hK => ?_)
  go_simp
  refine HPt4.out.mono ?_
  clear HPt4
  rintro e w5 ⟨rfl, hk5, hp5⟩
  have hf5 := HF4.out.keep hk5 hfF
  obtain ⟨e0, e1, -⟩ := hf5.head
  have HF5 := hid hf5
  have HK5 := hid (HK4.out.trans hk5 (fun i e => .inl e))
  have HP5 := hid hp5
  clear hk5 hf5 hp5
  go_wp2_with fail
  refine hK.out _ _ ⟨e0, e1, HRg.out w5 HF5.out⟩ (fun hHeld => ?_)
  clear hK K
  try simp only [tS]
  refine tq 13 _ ?_
  try simp only [tS]
  refine wpAnyH_done (by kernel_rfl) ?_ _
  refine NoPanic.normal ?_
  go_wp2
  go_ret
  exact ⟨rfl, HK5.out, _, HR1.out.put _, HP5.out⟩
def farP (Pg : Nat -> List UInt8) (S : FileS) : Nat -> List UInt8 := if S.size <= 5120 then Pg else updP Pg (S.slots.getD 10 0) (namesTo (S.slots.drop 11) 128)
theorem updP_same {Pg : Nat -> List UInt8} {p : Nat} {l : List UInt8} (h : l = Pg p) : updP Pg p l = Pg := by
 funext k
 unfold updP
 split
 ·rename_i e; rw [e, h]
 ·rfl
theorem isaveFar_pe (h : mapB w m c ino) (hmF : ¬ F m) (hf : fileB w f m S) (hfF : ¬ F f) (hS : S.slots.length = 139) (hfar : 5120 < S.size -> S.slots.getD 10 0 < N) (hea : ∀ p ∈ S.slots, p < 4294967296) (hu : u < 1000000) (hp : Pe w c F size N Pg Cm o u (n1 + 1)) :
  Calls Tryz.prog 211 #[.pointer (some ⟨f, 0, none⟩)] w fun e w' => e = .returned (.int .i64 0) /\ Keeps F w w' /\ Pe w' c F size N (farP Pg S) Cm o (u + 1) n1 := by
 obtain ⟨D, hr, hp⟩ := hp
 by_cases hs : S.size <= 5120
 ·refine (isaveFar_near hf hs).mono ?_
  rintro e w' ⟨rfl, rfl⟩
  refine ⟨rfl, Keeps.refl _ _, D, hr.le (by omega), ?_⟩
  unfold farP
  rw [if_pos hs]
  exact hp.more (Nat.le_refl _) (by omega)
 ·refine (isaveFar_far h hmF hf hfF hS (by omega) (hfar (by omega)) hea (hr.use _ (hfar (by omega))) hu hp).mono ?_
  rintro e w' ⟨rfl, hk, hx⟩
  refine ⟨rfl, hk, ?_⟩
  unfold farP
  rw [if_neg hs]
  rcases hx with ⟨he, hx⟩ | ⟨-, hx⟩
  ·rw [updP_same he]
   exact ⟨D, hr.le (by omega), hx⟩
  ·exact ⟨_, hr.put _, hx⟩
theorem farP_tab {S : FileS} (i : Nat) (hf : 5120 < S.size -> 3 + i / 8 ≠ S.slots.getD 10 0) : farP Pg S (3 + i / 8) = Pg (3 + i / 8) := by
 unfold farP
 split
 ·rfl
 ·unfold updP; rw [if_neg (hf (by omega))]
theorem isave_pe (h : mapB w m c ino) (hmF : ¬ F m) (hi : ino <= 512) (hin : S.num < ino) (hN : 3 + S.num / 8 < N) (hf : fileB w f m S) (hfF : ¬ F f) (hS : S.slots.length = 139) (hok : S.node.ok) (hfar : 5120 < S.size -> S.slots.getD 10 0 < N /\ 3 + S.num / 8 ≠ S.slots.getD 10 0) (hea : ∀ p ∈ S.slots, p < 4294967296) (htb : tabOk Pg S.num) (hu : u < 999980)
  (hp : Pe w c F size N Pg Cm o u (n1 + 2)) :
  Calls Tryz.prog 154 #[.pointer (some ⟨f, 0, none⟩)] w fun e w' => e = .returned (.int .i64 0) /\ Keeps F w w' /\ Pe w' c F size N (tabP (farP Pg S) S.num S.node) Cm o (u + 3) n1 := by
 refine isave_any h hmF hi hin hN hf hfF hok (u1 := u + 1) (by omega) ?_ (isaveFar_pe h hmF hf hfF hS (fun hs => (hfar hs).1) hea (by omega) hp)
 unfold tabOk
 rw [farP_tab S.num (fun hs => (hfar hs).2)]
 exact htb
end
end
section
open Go.RowKit
def wStep (sl : List Nat) (a z : Nat) (x : (Nat -> List UInt8) × List UInt8) (k : Nat) : (Nat -> List UInt8) × List UInt8 :=
 (updP x.1 (sl.getD (dslot k) 0) ((x.1 (sl.getD (dslot k) 0)).take (a - k * 512) ++ x.2.take (min (z - k * 512) 512 - (a - k * 512)) ++ (x.1 (sl.getD (dslot k) 0)).drop (a - k * 512 + (x.2.take (min (z - k * 512) 512 - (a - k * 512))).length)), x.2.drop (min (z - k * 512) 512 - (a - k * 512)))
def wPs (sl : List Nat) (a z : Nat) (Pg : Nat -> List UInt8) (l : List UInt8) (ks : List Nat) : (Nat -> List UInt8) × List UInt8 := ks.foldl (wStep sl a z) (Pg, l)
theorem wPs_snoc (sl : List Nat) (a z : Nat) (Pg : Nat -> List UInt8) (l : List UInt8) (ks : List Nat) (k : Nat) : wPs sl a z Pg l (ks ++ [k]) = wStep sl a z (wPs sl a z Pg l ks) k := by simp [wPs]
theorem wPs_rest (sl : List Nat) (a z : Nat) (Pg : Nat -> List UInt8) (l : List UInt8) (hl : l.length = z - a) (haz : a <= z) : ∀ d, a / 512 + d <= fillN z -> (wPs sl a z Pg l (upTo (a / 512) (a / 512 + d))).2 = l.drop ((a / 512 + d) * 512 - a)
 | 0, _ => by
  rw [Nat.add_zero, upTo_none, show a / 512 * 512 - a = 0 by omega]
  rfl
 | d + 1, hd => by
  have ih := wPs_rest sl a z Pg l hl haz d (by omega)
  rw [<- Nat.add_assoc, upTo_succ (by omega), wPs_snoc]
  show ((wPs sl a z Pg l (upTo (a / 512) (a / 512 + d))).2.drop _) = _
  rw [ih, List.drop_drop]
  unfold fillN at hd
  by_cases h : 512 <= z - (a / 512 + d) * 512
  ·rw [Nat.min_eq_right h]
   congr 1
   omega
  ·rw [List.drop_of_length_le (by omega), List.drop_of_length_le (by omega)]
def wPage (a z : Nat) (L l : List UInt8) (k : Nat) : List UInt8 := L.take (a - k * 512) ++ (l.drop (k * 512 - a)).take (min (z - k * 512) 512 - (a - k * 512)) ++ L.drop (min (z - k * 512) 512)
theorem wPart_len {a z k : Nat} {l : List UInt8} (hl : l.length = z - a) (h1 : a / 512 <= k) (h2 : k < fillN z) (hz : a < z) : ((l.drop (k * 512 - a)).take (min (z - k * 512) 512 - (a - k * 512))).length = min (z - k * 512) 512 - (a - k * 512) /\ a - k * 512 + (min (z - k * 512) 512 - (a - k * 512)) = min (z - k * 512) 512 := by
 unfold fillN at h2
 rw [List.length_take, List.length_drop]
 omega
theorem length_wPage {a z k : Nat} {L l : List UInt8} (hL : L.length = 512) (hl : l.length = z - a) (haz : a < z) (h1 : a / 512 <= k) (h2 : k < fillN z) : (wPage a z L l k).length = 512 := by
 have := (wPart_len (k := k) hl h1 h2 haz).1
 have h3 := (wPart_len (k := k) hl h1 h2 haz).2
 unfold wPage
 rw [List.length_append, List.length_append, this, List.length_take, List.length_drop]
 omega
theorem getD_append3 (A B C : List UInt8) (j : Nat) : (A ++ B ++ C).getD j 0 = if j < A.length then A.getD j 0 else if j < A.length + B.length then B.getD (j - A.length) 0 else C.getD (j - A.length - B.length) 0 := by
 simp only [List.getD_eq_getElem?_getD]
 by_cases h1 : j < A.length
 ·rw [if_pos h1, List.append_assoc, List.getElem?_append_left h1]
 ·rw [if_neg h1]
  by_cases h2 : j < A.length + B.length
  ·rw [if_pos h2, List.getElem?_append_left (by rw [List.length_append]; omega), List.getElem?_append_right (by omega)]
  ·rw [if_neg h2, List.getElem?_append_right (by rw [List.length_append]; omega), List.length_append, Nat.sub_add_eq]
theorem getD_take (L : List UInt8) (n j : Nat) (h : j < n) : (L.take n).getD j 0 = L.getD j 0 := by
 simp only [List.getD_eq_getElem?_getD]; rw [List.getElem?_take_of_lt h]
theorem getD_drop (L : List UInt8) (n j : Nat) : (L.drop n).getD j 0 = L.getD (n + j) 0 := by
 simp only [List.getD_eq_getElem?_getD]; rw [List.getElem?_drop]
theorem wPage_at {a z k : Nat} {L l : List UInt8} (hL : L.length = 512) (hl : l.length = z - a) (haz : a < z) (h1 : a / 512 <= k) (h2 : k < fillN z) (j : Nat) (hj : j < 512) : (wPage a z L l k).getD j 0 = if a <= k * 512 + j /\ k * 512 + j < z then l.getD (k * 512 + j - a) 0 else L.getD j 0 := by
 obtain ⟨h3, h4⟩ := wPart_len (k := k) hl h1 h2 haz
 unfold wPage
 rw [getD_append3, h3, List.length_take]
 unfold fillN at h2
 by_cases c1 : j < a - k * 512
 ·rw [if_pos (by omega), if_neg (by omega), getD_take _ _ _ c1]
 ·rw [if_neg (by omega)]
  by_cases c2 : j < min (z - k * 512) 512
  ·rw [if_pos (by omega), if_pos (by omega), getD_take _ _ _ (by omega), getD_drop]
   congr 1
   omega
  ·rw [if_neg (by omega), if_neg (by omega), getD_drop]
   congr 1
   omega
theorem wPs_at (sl : List Nat) (a z : Nat) (Pg : Nat -> List UInt8) (l : List UInt8) (hl : l.length = z - a) (haz : a < z) (hin : ∀ k k', a / 512 <= k -> k < fillN z -> a / 512 <= k' -> k' < fillN z -> sl.getD (dslot k) 0 = sl.getD (dslot k') 0 -> k = k') : ∀ d, a / 512 + d <= fillN z ->
  (∀ k, a / 512 <= k -> k < a / 512 + d -> (wPs sl a z Pg l (upTo (a / 512) (a / 512 + d))).1 (sl.getD (dslot k) 0) = wPage a z (Pg (sl.getD (dslot k) 0)) l k) /\
  (∀ p, (∀ k, a / 512 <= k -> k < a / 512 + d -> sl.getD (dslot k) 0 ≠ p) -> (wPs sl a z Pg l (upTo (a / 512) (a / 512 + d))).1 p = Pg p)
 | 0, _ => ⟨fun k h1 h2 => by omega, fun p _ => by rw [Nat.add_zero, upTo_none]; rfl⟩
 | d + 1, hd => by
  obtain ⟨ih1, ih2⟩ := wPs_at sl a z Pg l hl haz hin d (by omega)
  have hr := wPs_rest sl a z Pg l hl (by omega) d (by omega)
  rw [<- Nat.add_assoc, upTo_succ (by omega), wPs_snoc]
  generalize hw : wPs sl a z Pg l (upTo (a / 512) (a / 512 + d)) = x at *
  obtain ⟨h3, h4⟩ := wPart_len (k := a / 512 + d) hl (by omega) (by omega) haz
  have hnew : (wStep sl a z x (a / 512 + d)).1 = updP x.1 (sl.getD (dslot (a / 512 + d)) 0) (wPage a z (Pg (sl.getD (dslot (a / 512 + d)) 0)) l (a / 512 + d)) := by
   have ho := ih2 (sl.getD (dslot (a / 512 + d)) 0) (fun k k1 k2 e => by have := hin k _ k1 (by omega) (by omega) (by omega) e; omega)
   unfold wStep wPage
   rw [hr, ho, h3, h4]
  refine ⟨fun k k1 k2 => ?_, fun p hp => ?_⟩
  ·rw [hnew]
   unfold updP
   by_cases e : k = a / 512 + d
   ·subst e; rw [if_pos rfl]
   ·rw [if_neg (fun e' => e (hin _ _ k1 (by omega) (by omega) (by omega) e'))]
    exact ih1 k k1 (by omega)
  ·rw [hnew]
   unfold updP
   rw [if_neg (fun e => hp (a / 512 + d) (by omega) (by omega) e.symm)]
   exact ih2 p (fun k k1 k2 => hp k k1 (by omega))
end
section
open Go.RowKit
structure FileA where
 kind : Nat
 mode : Nat
 links : Nat
 slots : List Nat
 cnt : Nat
 data : List UInt8
def FileA.slot (f : FileA) (j : Nat) : Nat := f.slots.getD j 0
def FileA.S (f : FileA) (i size : Nat) : FileS := ⟨i, f.kind, f.mode, f.links, size, f.slots⟩
def FileA.node (f : FileA) : NodeS := ⟨f.kind, f.mode, f.links, f.data.length, f.slots.take 11⟩
structure FileA.ok (f : FileA) (a N : Nat) : Prop where
 kind : f.kind <= 3
 mode : f.mode <= 4095
 links : f.links <= 65535
 size : f.data.length <= 70656
 len : f.slots.length = 139
 cnt : f.cnt <= 139
 need : needN f.data.length <= f.cnt
 in_ : ∀ j, j < f.cnt -> a <= f.slot j /\ f.slot j < N
 zero : ∀ j, f.cnt <= j -> f.slot j = 0
theorem FileA.ok.lt {f : FileA} {a N : Nat} (h : f.ok a N) (ha : 0 < N) (j : Nat) : f.slot j < N := by
 by_cases hj : j < f.cnt
 ·exact (h.in_ j hj).2
 ·rw [h.zero j (by omega)]; exact ha
theorem FileA.ok.each {f : FileA} {a N : Nat} (h : f.ok a N) (ha : 0 < N) (hN : N <= 4096) : ∀ p ∈ f.slots, p < 4294967296 := fun p hp => by
 obtain ⟨j, hj, rfl⟩ := List.getElem_of_mem hp
 have h1 := h.lt ha j
 unfold FileA.slot at h1
 rw [List.getD_eq_getElem?_getD, List.getElem?_eq_getElem hj] at h1
 have h2 : f.slots[j] < N := h1
 omega
theorem FileA.ok.node {f : FileA} {a N : Nat} (h : f.ok a N) (ha : 0 < N) (hN : N <= 4096) : f.node.ok :=
 ⟨by show f.kind < 256; have := h.kind; omega, by show f.mode < 65536; have := h.mode; omega, by show f.links < 65536; have := h.links; omega, by show f.data.length < 4294967296; have := h.size; omega, by show (f.slots.take 11).length = 11; rw [List.length_take, h.len]; rfl, fun p hp => h.each ha hN p (List.mem_of_mem_take hp)⟩
theorem dslot_need {k z : Nat} (h : k < z) (hz : z <= 70656) : dslot (k / 512) < needN z /\ dslot (k / 512) ≠ 10 := by
 unfold dslot needN fillN
 have h2 : ¬ 70656 < z := by omega
 simp only [h2, if_false]
 constructor
 ·split <;> split <;> omega
 ·split <;> omega
theorem need_far {z : Nat} (h : 5120 < z) (hz : z <= 70656) : 11 < needN z := by
 unfold needN fillN
 rw [if_neg (by omega), if_pos h]; omega
theorem dslot_inj {j k : Nat} (h : dslot j = dslot k) : j = k := by
 unfold dslot at h
 split at h <;> split at h <;> omega
def updA (fs : Nat -> Option FileA) (i : Nat) (f : Option FileA) : Nat -> Option FileA := fun k => if k = i then f else fs k
theorem updA_cases {fs : Nat -> Option FileA} {i : Nat} {f : Option FileA} {k : Nat} {g : FileA} (h : updA fs i f k = some g) : (k = i /\ f = some g) \/ (k ≠ i /\ fs k = some g) := by
 unfold updA at h
 split at h
 ·exact .inl ⟨by assumption, h⟩
 ·exact .inr ⟨by assumption, h⟩
theorem updA_self (fs : Nat -> Option FileA) (i : Nat) (f : Option FileA) : updA fs i f i = f := if_pos rfl
theorem updA_ne {fs : Nat -> Option FileA} {i k : Nat} {f : Option FileA} (h : k ≠ i) : updA fs i f k = fs k := if_neg h
structure GoodX (sk : Nat -> Prop) (N ino : Nat) (Pg : Nat -> List UInt8) (fs : Nat -> Option FileA) : Prop where
 n4 : N <= 4096
 nf : 3 + ino / 8 <= N
 h8 : ino % 8 = 0
 i5 : ino <= 512
 len : ∀ p, p < N -> (Pg p).length = 512
 ibit : ∀ i, i < ino -> (bitL (Pg 1) i = true ↔ i = 0 \/ (fs i).isSome = true)
 out : ∀ i f, fs i = some f -> 0 < i /\ i < ino
 file : ∀ i f, fs i = some f -> f.ok (3 + ino / 8) N
 tab : ∀ i f, fs i = some f -> tabOk Pg i
 node : ∀ i f, fs i = some f -> ¬ sk i -> inoL (Pg (3 + i / 8)) i = encL f.node /\ f.cnt = needN f.data.length /\ (5120 < f.data.length -> Pg (f.slot 10) = namesTo (f.slots.drop 11) 128)
 data : ∀ i f, fs i = some f -> ∀ k, k < f.data.length -> (Pg (f.slot (dslot (k / 512)))).getD (k % 512) 0 = f.data.getD k 0
 pbit : ∀ p, 3 + ino / 8 <= p -> p < N -> (bitL (Pg 2) p = true ↔ ∃ i f j, fs i = some f /\ j < f.cnt /\ f.slot j = p)
 apart : ∀ i f j i' f' j', fs i = some f -> fs i' = some f' -> j < f.cnt -> j' < f'.cnt -> f.slot j = f'.slot j' -> i = i' /\ j = j'
def noSk : Nat -> Prop := fun _ => False
section
variable {sk : Nat -> Prop} {N ino : Nat} {Pg Pg' : Nat -> List UInt8} {fs : Nat -> Option FileA} {i : Nat} {f : FileA}
theorem GoodX.weak (h : GoodX noSk N ino Pg fs) : GoodX sk N ino Pg fs :=
 ⟨h.n4, h.nf, h.h8, h.i5, h.len, h.ibit, h.out, h.file, h.tab, fun i f hf _ => h.node i f hf (fun e => e), h.data, h.pbit, h.apart⟩
theorem GoodX.tabLt (h : GoodX sk N ino Pg fs) {i : Nat} (hi : i < ino) : 3 + i / 8 < 3 + ino / 8 := by have := h.h8; omega
theorem GoodX.at_ (h : GoodX sk N ino Pg fs) {i : Nat} {f : FileA} (hf : fs i = some f) {k : Nat} (hk : k < f.data.length) : dslot (k / 512) < f.cnt /\ dslot (k / 512) ≠ 10 := by
 have h1 := h.file i f hf
 have h2 := dslot_need hk h1.size
 exact ⟨Nat.lt_of_lt_of_le h2.1 h1.need, h2.2⟩
theorem GoodX.pages (h : GoodX sk N ino Pg fs) (hf : fs i = some f) (hs : sk i) (hl : ∀ p, p < N -> (Pg' p).length = 512) (hp : ∀ p, (∀ j, j < f.cnt -> f.slot j ≠ p) -> Pg' p = Pg p)
  (d : List UInt8) (hd : d.length <= 70656) (hn : needN d.length <= f.cnt) (hdt : ∀ k, k < d.length -> (Pg' (f.slot (dslot (k / 512)))).getD (k % 512) 0 = d.getD k 0) :
  GoodX sk N ino Pg' (updA fs i (some { f with data := d })) := by
 have hok := h.file i f hf
 have hlow : ∀ p, p < 3 + ino / 8 -> Pg' p = Pg p := fun p hp' => hp p (fun j hj e => by have := (hok.in_ j hj).1; omega)
 have hoth : ∀ i' f' j', fs i' = some f' -> i' ≠ i -> j' < f'.cnt -> Pg' (f'.slot j') = Pg (f'.slot j') := fun i' f' j' hf' hne hj' => hp _ (fun j hj e => hne (h.apart i f j i' f' j' hf hf' hj hj' e).1.symm)
 have hi := h.out i f hf
 refine ⟨h.n4, h.nf, h.h8, h.i5, hl, fun k hk => ?_, fun k g hg => ?_, fun k g hg => ?_, fun k g hg => ?_, fun k g hg hns => ?_, fun k g hg x hx => ?_, fun p hp1 hp2 => ?_, fun k g j k' g' j' hg hg' hj hj' e => ?_⟩
 ·rw [hlow 1 (by omega), h.ibit k hk]
  by_cases e : k = i
  ·subst e; rw [updA_self, hf]; simp
  ·rw [updA_ne e]
 ·rcases updA_cases hg with ⟨rfl, -⟩ | ⟨-, hg⟩
  ·exact hi
  ·exact h.out k g hg
 ·rcases updA_cases hg with ⟨rfl, e⟩ | ⟨-, hg⟩
  ·cases e; exact ⟨hok.kind, hok.mode, hok.links, hd, hok.len, hok.cnt, hn, hok.in_, hok.zero⟩
  ·exact h.file k g hg
 ·have hk : k < ino /\ tabOk Pg k := by
   rcases updA_cases hg with ⟨rfl, -⟩ | ⟨-, hg⟩
   ·exact ⟨hi.2, h.tab k f hf⟩
   ·exact ⟨(h.out k g hg).2, h.tab k g hg⟩
  unfold tabOk
  rw [hlow _ (h.tabLt hk.1)]
  exact hk.2
 ·rcases updA_cases hg with ⟨rfl, -⟩ | ⟨hne, hg⟩
  ·exact absurd hs hns
  ·obtain ⟨h1, h2, h3⟩ := h.node k g hg hns
   rw [hlow _ (h.tabLt (h.out k g hg).2)]
   refine ⟨h1, h2, fun hb => ?_⟩
   rw [hoth k g 10 hg hne (by rw [h2]; have := need_far hb (h.file k g hg).size; omega)]
   exact h3 hb
 ·rcases updA_cases hg with ⟨rfl, e⟩ | ⟨hne, hg⟩
  ·cases e; exact hdt x hx
  ·rw [hoth k g _ hg hne (h.at_ hg hx).1]
   exact h.data k g hg x hx
 ·rw [hlow 2 (by omega), h.pbit p hp1 hp2]
  constructor
  ·rintro ⟨k, g, j, hg, hj, e⟩
   by_cases hk : k = i
   ·subst hk
    rw [hf] at hg; cases hg
    exact ⟨k, _, j, updA_self _ _ _, hj, e⟩
   ·exact ⟨k, g, j, (updA_ne hk).trans hg, hj, e⟩
  ·rintro ⟨k, g, j, hg, hj, e⟩
   rcases updA_cases hg with ⟨rfl, e'⟩ | ⟨-, hg⟩
   ·cases e'; exact ⟨k, f, j, hf, hj, e⟩
   ·exact ⟨k, g, j, hg, hj, e⟩
 ·have t : ∀ {k : Nat} {g : FileA}, updA fs i (some { f with data := d }) k = some g -> ∃ g0, fs k = some g0 /\ g0.cnt = g.cnt /\ g0.slots = g.slots := fun {k g} hg => by
   rcases updA_cases hg with ⟨rfl, e'⟩ | ⟨-, hg⟩
   ·cases e'; exact ⟨f, hf, rfl, rfl⟩
   ·exact ⟨g, hg, rfl, rfl⟩
  obtain ⟨g0, a1, a2, a3⟩ := t hg
  obtain ⟨g1, b1, b2, b3⟩ := t hg'
  exact h.apart k g0 j k' g1 j' a1 b1 (by rw [a2]; exact hj) (by rw [b2]; exact hj') (by unfold FileA.slot; rw [a3, b3]; exact e)
end
end
section
open Go.RowKit
theorem getD_zN (n j : Nat) : (zN n).getD j 0 = 0 := by
 unfold zN
 rw [List.getD_eq_getElem?_getD]
 by_cases h : j < n
 ·rw [List.getElem?_eq_getElem (by simpa using h)]; simp
 ·rw [List.getElem?_eq_none (by simpa using h)]; rfl
def ztail (Pg : Nat -> List UInt8) (f : FileA) : Prop := ∀ k, f.data.length <= k -> dslot (k / 512) < f.cnt -> (Pg (f.slot (dslot (k / 512)))).getD (k % 512) 0 = 0
def FileA.grow (f : FileA) (q : Nat) : FileA := { f with slots := f.slots.set f.cnt q, cnt := f.cnt + 1 }
theorem grow_old {f : FileA} {q j : Nat} (h : j ≠ f.cnt) : (f.grow q).slot j = f.slot j := by
 unfold FileA.grow FileA.slot
 rw [List.getD_eq_getElem?_getD, List.getElem?_set_ne (fun e => h e.symm), <- List.getD_eq_getElem?_getD]
theorem grow_new {f : FileA} {q : Nat} (h : f.cnt < f.slots.length) : (f.grow q).slot f.cnt = q := by
 unfold FileA.grow FileA.slot
 rw [List.getD_eq_getElem?_getD, List.getElem?_set_self h]; rfl
section
variable {sk : Nat -> Prop} {N ino : Nat} {Pg Pg' : Nat -> List UInt8} {fs : Nat -> Option FileA} {i : Nat} {f : FileA}
theorem tkP_low {q p : Nat} (h2 : p ≠ 2) (hq : p ≠ q) : tkP Pg q p = Pg p := by
 unfold tkP updP; rw [if_neg hq, if_neg h2]
theorem tkP_new {q : Nat} : tkP Pg q q = zN 512 := by unfold tkP updP; rw [if_pos rfl]
theorem tkP_two {q : Nat} (h : q ≠ 2) : tkP Pg q 2 = flipL (Pg 2) q := by unfold tkP updP; rw [if_neg (fun e => h e.symm), if_pos rfl]
theorem GoodX.take1 (h : GoodX sk N ino Pg fs) (hf : fs i = some f) (hs : sk i) (hc : f.cnt < 139) {q : Nat} {rest : List Nat} (hq : freeTo (Pg 2) (3 + ino / 8) N 4096 = q :: rest) (hz : ztail Pg f) :
  GoodX sk N ino (tkP Pg q) (updA fs i (some (f.grow q))) /\ ztail (tkP Pg q) (f.grow q) := by
 obtain ⟨q1, q2, q3⟩ := freeTo_first hq
 have hok := h.file i f hf
 have hi := h.out i f hf
 have hnf := h.nf
 have hn4 := h.n4
 have hl2 := h.len 2 (by omega)
 have hno : ∀ k g j, fs k = some g -> j < g.cnt -> g.slot j ≠ q := fun k g j hg hj e => by
  have := (h.pbit q q1 q2).2 ⟨k, g, j, hg, hj, e⟩
  rw [q3] at this; cases this
 have hcl : f.cnt < f.slots.length := by rw [hok.len]; exact hc
 have hold : ∀ k g j, fs k = some g -> j < g.cnt -> tkP Pg q (g.slot j) = Pg (g.slot j) := fun k g j hg hj => tkP_low (by have := ((h.file k g hg).in_ j hj).1; omega) (hno k g j hg hj)
 have hlow : ∀ p, p < 3 + ino / 8 -> p ≠ 2 -> tkP Pg q p = Pg p := fun p hp h2 => tkP_low h2 (by omega)
 have hsl : ∀ {k : Nat} {g : FileA} {j : Nat}, updA fs i (some (f.grow q)) k = some g -> j < g.cnt -> (k = i /\ g = f.grow q /\ j = f.cnt /\ g.slot j = q) \/ ∃ g0, fs k = some g0 /\ j < g0.cnt /\ g.slot j = g0.slot j := fun {k g j} hg hj => by
  rcases updA_cases hg with ⟨rfl, e⟩ | ⟨-, hg⟩
  ·cases e
   by_cases e2 : j = f.cnt
   ·exact .inl ⟨rfl, rfl, e2, by rw [e2]; exact grow_new hcl⟩
   ·have hj' : j < f.cnt + 1 := hj
    exact .inr ⟨f, hf, by omega, grow_old e2⟩
  ·exact .inr ⟨g, hg, hj, rfl⟩
 refine ⟨⟨h.n4, h.nf, h.h8, h.i5, fun p hp => ?_, fun k hk => ?_, fun k g hg => ?_, fun k g hg => ?_, fun k g hg => ?_, fun k g hg hns => ?_, fun k g hg x hx => ?_, fun p hp1 hp2 => ?_, fun k g j k' g' j' hg hg' hj hj' e => ?_⟩, fun k hk1 hk2 => ?_⟩
 ·unfold tkP updP
  split
  ·exact length_zN 512
  ·split
   ·rw [length_flipL]; exact hl2
   ·exact h.len p hp
 ·rw [hlow 1 (by omega) (by omega), h.ibit k hk]
  by_cases e : k = i
  ·subst e; rw [updA_self, hf]; simp
  ·rw [updA_ne e]
 ·rcases updA_cases hg with ⟨rfl, -⟩ | ⟨-, hg⟩
  ·exact hi
  ·exact h.out k g hg
 ·rcases updA_cases hg with ⟨rfl, e⟩ | ⟨-, hg⟩
  ·cases e
   refine ⟨hok.kind, hok.mode, hok.links, hok.size, by show (f.slots.set _ _).length = 139; rw [List.length_set]; exact hok.len, hc, by show needN f.data.length <= f.cnt + 1; have := hok.need; omega, fun j hj => ?_, fun j hj => ?_⟩
   ·by_cases e2 : j = f.cnt
    ·rw [e2, grow_new hcl]; exact ⟨q1, q2⟩
    ·have hj' : j < f.cnt + 1 := hj
     rw [grow_old e2]; exact hok.in_ j (by omega)
   ·have hj' : f.cnt + 1 <= j := hj
    rw [grow_old (by omega)]; exact hok.zero j (by omega)
  ·exact h.file k g hg
 ·have hk : k < ino /\ tabOk Pg k := by
   rcases updA_cases hg with ⟨rfl, -⟩ | ⟨-, hg⟩
   ·exact ⟨hi.2, h.tab k f hf⟩
   ·exact ⟨(h.out k g hg).2, h.tab k g hg⟩
  unfold tabOk
  rw [hlow _ (h.tabLt hk.1) (by omega)]
  exact hk.2
 ·rcases updA_cases hg with ⟨rfl, -⟩ | ⟨-, hg⟩
  ·exact absurd hs hns
  ·obtain ⟨h1, h2, h3⟩ := h.node k g hg hns
   rw [hlow _ (h.tabLt (h.out k g hg).2) (by omega)]
   refine ⟨h1, h2, fun hb => ?_⟩
   rw [hold k g 10 hg (by rw [h2]; have := need_far hb (h.file k g hg).size; omega)]
   exact h3 hb
 ·rcases updA_cases hg with ⟨rfl, e⟩ | ⟨-, hg⟩
  ·cases e
   have ha := (h.at_ hf hx).1
   rw [grow_old (by omega), hold k f _ hf ha]
   exact h.data k f hf x hx
  ·rw [hold k g _ hg (h.at_ hg hx).1]
   exact h.data k g hg x hx
 ·rw [tkP_two (by omega), bitL_flipL _ _ _ (by omega)]
  by_cases e : p = q
  ·subst e
   rw [if_pos rfl, q3]
   exact ⟨fun _ => ⟨i, _, f.cnt, updA_self _ _ _, Nat.lt_succ_self _, grow_new hcl⟩, fun _ => rfl⟩
  ·rw [if_neg e, h.pbit p hp1 hp2]
   constructor
   ·rintro ⟨k, g, j, hg, hj, hp⟩
    by_cases hk : k = i
    ·subst hk
     rw [hf] at hg; cases hg
     exact ⟨k, _, j, updA_self _ _ _, Nat.lt_succ_of_lt hj, by rw [grow_old (by omega)]; exact hp⟩
    ·exact ⟨k, g, j, (updA_ne hk).trans hg, hj, hp⟩
   ·rintro ⟨k, g, j, hg, hj, hp⟩
    rcases hsl hg hj with ⟨-, -, -, h1⟩ | ⟨g0, h1, h2, h3⟩
    ·exact absurd (hp.symm.trans h1) e
    ·exact ⟨k, g0, j, h1, h2, h3.symm.trans hp⟩
 ·rcases hsl hg hj with ⟨rfl, rfl, rfl, h1⟩ | ⟨g0, h1, h2, h3⟩
  ·rcases hsl hg' hj' with ⟨rfl, rfl, rfl, -⟩ | ⟨g1, h4, h5, h6⟩
   ·exact ⟨rfl, rfl⟩
   ·exact absurd (h6.symm.trans (e.symm.trans h1)) (hno k' g1 j' h4 h5)
  ·rcases hsl hg' hj' with ⟨rfl, rfl, rfl, h4⟩ | ⟨g1, h4, h5, h6⟩
   ·exact absurd (h3.symm.trans (e.trans h4)) (hno k g0 j h1 h2)
   ·exact h.apart k g0 j k' g1 j' h1 h4 h2 h5 (h3.symm.trans (e.trans h6))
 ·by_cases e : dslot (k / 512) = f.cnt
  ·rw [e, grow_new hcl, tkP_new]; exact getD_zN _ _
  ·have hk3 : dslot (k / 512) < f.cnt + 1 := hk2
   rw [grow_old e, hold i f _ hf (by omega)]
   exact hz k hk1 (by omega)
theorem updA_twice (fs : Nat -> Option FileA) (i : Nat) (a b : Option FileA) : updA (updA fs i a) i b = updA fs i b := by
 funext k; unfold updA; split <;> rfl
theorem updA_id {fs : Nat -> Option FileA} {i : Nat} {f : FileA} (h : fs i = some f) : updA fs i (some f) = fs := by
 funext k; unfold updA; split
 ·rename_i e; rw [e, h]
 ·rfl
def FileA.grows (f : FileA) (ks : List Nat) : FileA := { f with slots := setL f.slots (upTo f.cnt (f.cnt + ks.length)) ks, cnt := f.cnt + ks.length }
theorem grows_nil (f : FileA) : f.grows [] = f := by
 unfold FileA.grows
 simp only [List.length_nil, Nat.add_zero, upTo_none]
 rfl
theorem grows_snoc (f : FileA) (ks : List Nat) (q : Nat) : (f.grows ks).grow q = f.grows (ks ++ [q]) := by
 unfold FileA.grow FileA.grows
 simp only [List.length_append, List.length_singleton, <- Nat.add_assoc]
 rw [upTo_succ (by omega), setL_snoc _ _ _ _ _ (by rw [length_upTo]; omega)]
theorem GoodX.takes (h : GoodX sk N ino Pg fs) (hf : fs i = some f) (hs : sk i) (hz : ztail Pg f) : ∀ n, f.cnt + n <= 139 -> n <= (freeTo (Pg 2) (3 + ino / 8) N 4096).length ->
  GoodX sk N ino (tkPs Pg ((freeTo (Pg 2) (3 + ino / 8) N 4096).take n)) (updA fs i (some (f.grows ((freeTo (Pg 2) (3 + ino / 8) N 4096).take n)))) /\ ztail (tkPs Pg ((freeTo (Pg 2) (3 + ino / 8) N 4096).take n)) (f.grows ((freeTo (Pg 2) (3 + ino / 8) N 4096).take n))
 | 0, _, _ => by
  rw [List.take_zero, grows_nil, updA_id hf]
  exact ⟨h, hz⟩
 | n + 1, hc, hl => by
  obtain ⟨h1, h2⟩ := GoodX.takes h hf hs hz n (by omega) (by omega)
  have hnf := h.nf
  obtain ⟨h3, -⟩ := free_tks (Pg := Pg) (a := 3 + ino / 8) (z := N) (by omega) h.n4 (h.len 2 (by omega)) n (by omega)
  have hlt : n < (freeTo (Pg 2) (3 + ino / 8) N 4096).length := by omega
  rw [List.drop_eq_getElem_cons hlt] at h3
  have hln : ((freeTo (Pg 2) (3 + ino / 8) N 4096).take n).length = n := by rw [List.length_take]; omega
  have hg := h1.take1 (updA_self _ _ _) hs (by show f.cnt + _ < 139; rw [hln]; omega) h3 h2
  rw [updA_twice, grows_snoc] at hg
  rw [List.take_add_one, List.getElem?_eq_getElem hlt, Option.toList_some, tkPs_snoc]
  exact hg
theorem inoL_put {L e : List UInt8} {k i : Nat} (hL : L.length = 512) (he : e.length = 64) : inoL (putT L i e) k = if k % 8 = i % 8 then e else inoL L k := by
 unfold inoL putT
 have hi : (L.take (i % 8 * 64)).length = i % 8 * 64 := by rw [List.length_take]; omega
 by_cases hk : k % 8 = i % 8
 ·rw [if_pos hk, hk, List.append_assoc, List.drop_left' hi, List.take_left' he]
 ·rw [if_neg hk]
  rcases Nat.lt_or_gt_of_ne hk with hlt | hgt
  ·rw [List.append_assoc, List.drop_append_of_le_length (by rw [hi]; omega), List.take_append_of_le_length (by rw [List.length_drop, hi]; omega), List.drop_take, List.take_take]
   congr 1
   omega
  ·rw [List.drop_append, List.drop_of_length_le (by rw [List.length_append, hi, he]; omega), List.nil_append, List.drop_drop, List.length_append, hi, he]
   congr 2
   omega
theorem tabP_other {n : NodeS} {p : Nat} (h : p ≠ 3 + i / 8) : tabP Pg i n p = Pg p := by unfold tabP updP; rw [if_neg h]
theorem tabP_self {n : NodeS} : tabP Pg i n (3 + i / 8) = putT (Pg (3 + i / 8)) i (encL n) := by unfold tabP updP; rw [if_pos rfl]
theorem tabP_ino {n : NodeS} {k : Nat} (hn : n.ok) (hL : (Pg (3 + i / 8)).length = 512) : inoL (tabP Pg i n (3 + k / 8)) k = if k = i then encL n else inoL (Pg (3 + k / 8)) k := by
 by_cases e : k / 8 = i / 8
 ·rw [e, tabP_self, inoL_put hL (show (encL n).length = 64 from length_encTo n 11 (Nat.le_refl _) hn.pages)]
  by_cases e2 : k = i
  ·rw [if_pos e2, if_pos (by rw [e2])]
  ·rw [if_neg e2, if_neg (by omega)]
 ·rw [tabP_other (by omega), if_neg (fun e2 => e (by rw [e2]))]
theorem GoodX.put {sk' : Nat -> Prop} (h : GoodX sk N ino Pg fs) (hf : fs i = some f) (f' : FileA) (hsl : f'.slots = f.slots) (hc : f'.cnt = f.cnt) (hd : f'.data = f.data) (hk : f'.kind <= 3) (hm : f'.mode <= 4095) (hli : f'.links <= 65535)
  (hcn : f.cnt = needN f.data.length) (hfar : 5120 < f.data.length -> Pg (f.slot 10) = namesTo (f.slots.drop 11) 128) (hsk : ∀ k, k ≠ i -> sk k -> sk' k) : GoodX sk' N ino (tabP Pg i f'.node) (updA fs i (some f')) := by
 have hok := h.file i f hf
 have hi := h.out i f hf
 have hnf := h.nf
 have hn4 := h.n4
 have hti := h.tabLt hi.2
 have hsl2 : ∀ j, f'.slot j = f.slot j := fun j => by unfold FileA.slot; rw [hsl]
 have hok' : f'.ok (3 + ino / 8) N := ⟨hk, hm, hli, by rw [hd]; exact hok.size, by rw [hsl]; exact hok.len, by rw [hc]; exact hok.cnt, by rw [hc, hd]; exact hok.need, fun j hj => by rw [hsl2]; exact hok.in_ j (by rw [<- hc]; exact hj), fun j hj => by rw [hsl2]; exact hok.zero j (by rw [<- hc]; exact hj)⟩
 have hno := hok'.node (by omega) hn4
 have hL := h.len (3 + i / 8) (by omega)
 have hup : ∀ p, 3 + ino / 8 <= p -> tabP Pg i f'.node p = Pg p := fun p hp => tabP_other (by omega)
 have hino : ∀ k, inoL (tabP Pg i f'.node (3 + k / 8)) k = if k = i then encL f'.node else inoL (Pg (3 + k / 8)) k := fun k => tabP_ino hno hL
 have old : ∀ {k : Nat} {g : FileA}, updA fs i (some f') k = some g -> ∃ g0, fs k = some g0 /\ g0.cnt = g.cnt /\ g0.slots = g.slots /\ g0.data = g.data := fun {k g} hg => by
  rcases updA_cases hg with ⟨rfl, e⟩ | ⟨-, hg⟩
  ·cases e; exact ⟨f, hf, hc.symm, hsl.symm, hd.symm⟩
  ·exact ⟨g, hg, rfl, rfl, rfl⟩
 refine ⟨h.n4, h.nf, h.h8, h.i5, fun p hp => ?_, fun k hk => ?_, fun k g hg => ?_, fun k g hg => ?_, fun k g hg => ?_, fun k g hg hns => ?_, fun k g hg x hx => ?_, fun p hp1 hp2 => ?_, fun k g j k' g' j' hg hg' hj hj' e => ?_⟩
 ·by_cases e : p = 3 + i / 8
  ·rw [e, tabP_self]; exact length_putT hL i (length_encTo _ 11 (Nat.le_refl _) hno.pages)
  ·rw [tabP_other e]; exact h.len p hp
 ·rw [tabP_other (by omega), h.ibit k hk]
  by_cases e : k = i
  ·subst e; rw [updA_self, hf]; simp
  ·rw [updA_ne e]
 ·obtain ⟨g0, h1, -⟩ := old hg
  exact h.out k g0 h1
 ·rcases updA_cases hg with ⟨rfl, e⟩ | ⟨-, hg⟩
  ·cases e; exact hok'
  ·exact h.file k g hg
 ·unfold tabOk
  rw [hino k]
  rcases updA_cases hg with ⟨rfl, e⟩ | ⟨hne, hg⟩
  ·rw [if_pos rfl]; exact ⟨_, hno, rfl⟩
  ·rw [if_neg hne]; exact h.tab k g hg
 ·rw [hino k]
  rcases updA_cases hg with ⟨rfl, e⟩ | ⟨hne, hg⟩
  ·cases e
   rw [if_pos rfl]
   refine ⟨rfl, by rw [hc, hd]; exact hcn, fun hb => ?_⟩
   rw [hd] at hb
   have := need_far hb hok.size
   rw [hsl2, hsl, hup _ (hok.in_ 10 (by omega)).1]
   exact hfar hb
  ·obtain ⟨h1, h2, h3⟩ := h.node k g hg (fun hh => hns (hsk k hne hh))
   rw [if_neg hne]
   refine ⟨h1, h2, fun hb => ?_⟩
   have := need_far hb (h.file k g hg).size
   rw [hup _ ((h.file k g hg).in_ 10 (by omega)).1]
   exact h3 hb
 ·obtain ⟨g0, h1, h2, h3, h4⟩ := old hg
  have ha := (h.at_ h1 (by rw [h4]; exact hx : x < g0.data.length)).1
  have hs0 : ∀ j, g.slot j = g0.slot j := fun j => by unfold FileA.slot; rw [h3]
  rw [hs0, hup _ ((h.file k g0 h1).in_ _ ha).1, <- h4]
  exact h.data k g0 h1 x (by rw [h4]; exact hx)
 ·rw [tabP_other (by omega), h.pbit p hp1 hp2]
  constructor
  ·rintro ⟨k, g, j, hg, hj, e⟩
   by_cases hk : k = i
   ·subst hk
    rw [hf] at hg; cases hg
    exact ⟨k, f', j, updA_self _ _ _, by rw [hc]; exact hj, by rw [hsl2]; exact e⟩
   ·exact ⟨k, g, j, (updA_ne hk).trans hg, hj, e⟩
  ·rintro ⟨k, g, j, hg, hj, e⟩
   obtain ⟨g0, h1, h2, h3, -⟩ := old hg
   exact ⟨k, g0, j, h1, by rw [h2]; exact hj, by unfold FileA.slot at e ⊢; rw [h3]; exact e⟩
 ·obtain ⟨g0, h1, h2, h3, -⟩ := old hg
  obtain ⟨g1, h4, h5, h6, -⟩ := old hg'
  exact h.apart k g0 j k' g1 j' h1 h4 (by rw [h2]; exact hj) (by rw [h5]; exact hj') (by unfold FileA.slot at e ⊢; rw [h3, h6]; exact e)
theorem GoodX.save (h : GoodX (fun k => k = i) N ino Pg fs) (hf : fs i = some f) (hcn : f.cnt = needN f.data.length) : GoodX noSk N ino (tabP (farP Pg (f.S i f.data.length)) i f.node) fs := by
 have hok := h.file i f hf
 have h10 : 5120 < f.data.length -> 10 < f.cnt := fun hb => by have := need_far hb hok.size; omega
 have hfp : ∀ p, (∀ j, j < f.cnt -> f.slot j ≠ p) -> farP Pg (f.S i f.data.length) p = Pg p := fun p hp => by
  unfold farP
  split
  ·rfl
  ·rename_i hs
   have hs' : ¬ f.data.length <= 5120 := hs
   unfold updP
   rw [if_neg (fun e => hp 10 (h10 (by omega)) e.symm)]
 have hg := h.pages (Pg' := farP Pg (f.S i f.data.length)) hf rfl (fun p hp => by
  unfold farP
  split
  ·exact h.len p hp
  ·unfold updP
   split
   ·exact length_namesTo (by show (f.slots.drop 11).length = 128; rw [List.length_drop, hok.len]) 128 (Nat.le_refl _)
   ·exact h.len p hp) hfp f.data hok.size hok.need (fun k hk => by
  have ha := h.at_ hf hk
  have e : farP Pg (f.S i f.data.length) (f.slot (dslot (k / 512))) = Pg (f.slot (dslot (k / 512))) := by
   unfold farP
   split
   ·rfl
   ·rename_i hs
    have hs' : ¬ f.data.length <= 5120 := hs
    exact if_neg (fun e => ha.2 (h.apart i f _ i f 10 hf hf ha.1 (h10 (by omega)) e).2)
  rw [e]
  exact h.data i f hf k hk)
 rw [updA_id hf] at hg
 have := hg.put (sk' := noSk) hf f rfl rfl rfl hok.kind hok.mode hok.links hcn (fun hb => by
  unfold farP
  rw [if_neg (show ¬ (f.S i f.data.length).size <= 5120 from fun hh => absurd hb (Nat.not_lt.2 hh))]
  exact if_pos rfl) (fun k hne hk => absurd hk hne)
 rwa [updA_id hf] at this
end
end
section
open Go.RowKit
def wrD (d : List UInt8) (a : Nat) (l : List UInt8) : List UInt8 := (List.range (max d.length (a + l.length))).map fun k => if a <= k /\ k < a + l.length then l.getD (k - a) 0 else d.getD k 0
theorem length_wrD (d : List UInt8) (a : Nat) (l : List UInt8) : (wrD d a l).length = max d.length (a + l.length) := by simp [wrD]
theorem getD_wrD (d : List UInt8) (a : Nat) (l : List UInt8) (k : Nat) (hk : k < max d.length (a + l.length)) : (wrD d a l).getD k 0 = if a <= k /\ k < a + l.length then l.getD (k - a) 0 else d.getD k 0 := by
 have h : k < (wrD d a l).length := by rw [length_wrD]; exact hk
 rw [List.getD_eq_getElem?_getD, List.getElem?_eq_getElem h]
 simp [wrD]
theorem fill_need {k z : Nat} (h : k < fillN z) (hz : z <= 70656) : dslot k < needN z := by
 unfold fillN at h
 have := dslot_need (k := k * 512) (z := z) (by omega) hz
 rw [Nat.mul_div_cancel _ (by omega)] at this
 exact this.1
section
variable {sk : Nat -> Prop} {N ino : Nat} {Pg Pg' : Nat -> List UInt8} {fs : Nat -> Option FileA} {i : Nat} {f : FileA}
theorem GoodX.over (h : GoodX sk N ino Pg fs) (hf : fs i = some f) (hs : sk i) (a z : Nat) (hz : f.data.length < z -> ztail Pg f) (l : List UInt8) (hl : l.length = z - a) (haz : a < z) (hz7 : z <= 70656) (hn : needN (max f.data.length z) <= f.cnt) :
  GoodX sk N ino (wPs f.slots a z Pg l (upTo (a / 512) (fillN z))).1 (updA fs i (some { f with data := wrD f.data a l })) := by
 have hok := h.file i f hf
 have hal : a + l.length = z := by omega
 have hlen : (wrD f.data a l).length = max f.data.length z := by rw [length_wrD, hal]
 have hm7 : max f.data.length z <= 70656 := Nat.max_le.2 ⟨hok.size, hz7⟩
 have hnz : needN z <= f.cnt := Nat.le_trans (need_mono (Nat.le_max_right _ _) hm7) hn
 have hds : ∀ k, k < fillN z -> dslot k < f.cnt := fun k hk => Nat.lt_of_lt_of_le (fill_need hk hz7) hnz
 have hq : a / 512 + (fillN z - a / 512) = fillN z := by unfold fillN; omega
 obtain ⟨w1, w2⟩ := wPs_at f.slots a z Pg l hl haz (fun k k' _ hk _ hk' e => dslot_inj (h.apart i f _ i f _ hf hf (hds k hk) (hds k' hk') e).2) (fillN z - a / 512) (by omega)
 rw [hq] at w1 w2
 refine h.pages hf hs (fun p hp => ?_) (fun p hp => w2 p (fun k _ hk => hp _ (hds k hk))) _ (by rw [hlen]; exact hm7) (by rw [hlen]; exact hn) (fun k hk => ?_)
 ·by_cases hx : ∃ k, a / 512 <= k /\ k < fillN z /\ f.slots.getD (dslot k) 0 = p
  ·obtain ⟨k, k1, k2, rfl⟩ := hx
   rw [w1 k k1 k2]
   exact length_wPage (h.len _ hp) hl haz k1 k2
  ·rw [w2 p (fun k k1 k2 e => hx ⟨k, k1, k2, e⟩)]
   exact h.len p hp
 ·rw [hlen] at hk
  rw [getD_wrD _ _ _ _ (by rw [hal]; exact hk), hal]
  have hold : (Pg (f.slot (dslot (k / 512)))).getD (k % 512) 0 = f.data.getD k 0 := by
   by_cases hkd : k < f.data.length
   ·exact h.data i f hf k hkd
   ·have hd0 : f.data.getD k 0 = 0 := by rw [List.getD_eq_getElem?_getD, List.getElem?_eq_none (by omega)]; rfl
    rw [hd0]
    exact hz (by omega) k (by omega) (Nat.lt_of_lt_of_le (dslot_need hk hm7).1 hn)
  by_cases hr : a / 512 <= k / 512 /\ k / 512 < fillN z
  ·have hsl : f.slot (dslot (k / 512)) < N := (hok.in_ _ (hds _ hr.2)).2
   have e1 := w1 (k / 512) hr.1 hr.2
   unfold FileA.slot at hsl hold ⊢
   rw [e1, wPage_at (h.len _ hsl) hl haz hr.1 hr.2 _ (Nat.mod_lt _ (by omega)), show k / 512 * 512 + k % 512 = k by omega, hold]
  ·have e1 := w2 (f.slot (dslot (k / 512))) (fun k' k1 k2 e => hr (by
    have h3 : dslot (k / 512) < f.cnt := Nat.lt_of_lt_of_le (dslot_need hk hm7).1 hn
    have h4 := dslot_inj (h.apart i f _ i f _ hf hf (hds k' k2) h3 e).2
    rw [<- h4]; exact ⟨k1, k2⟩))
   rw [e1, hold, if_neg (fun hh => hr ⟨by omega, by unfold fillN; omega⟩)]
theorem farL_names {xs : List Nat} (h : xs.length = 128) (hx : ∀ p ∈ xs, p < 4294967296) : farL (namesTo xs 128) 128 = xs := by
 have ht : xs.take 128 = xs := List.take_of_length_le (by omega)
 refine List.ext_getElem (by rw [length_farL, h]) (fun j h1 h2 => ?_)
 have hd : (farL (namesTo xs 128) 128)[j] = numS (((namesTo xs 128).drop (4 * j)).take 4) := by simp [farL]
 rw [hd]
 unfold namesTo
 rw [ht, show 512 - 4 * 128 = 0 by omega, show zN 0 = [] from rfl, List.append_nil, flat4_at xs j h2, numS_be]
 exact Nat.mod_eq_of_lt (hx _ (List.getElem_mem h2))
theorem near_slots {l : List Nat} (hl : l.length = 139) (hz : ∀ j, 11 <= j -> l.getD j 0 = 0) : l.take 11 ++ List.replicate 128 0 = l := by
 refine List.ext_getElem (by rw [List.length_append, List.length_take, List.length_replicate, hl]; omega) (fun j h1 h2 => ?_)
 by_cases hj : j < 11
 ·rw [List.getElem_append_left (by rw [List.length_take, hl]; omega), List.getElem_take]
 ·rw [List.getElem_append_right (by rw [List.length_take, hl]; omega), List.getElem_replicate]
  have := hz j (by omega)
  rw [List.getD_eq_getElem?_getD, List.getElem?_eq_getElem h2] at this
  exact this.symm
theorem far_slots {l : List Nat} (hl : l.length = 139) (hx : ∀ p ∈ l, p < 4294967296) : slotsTo (l.take 11) (namesTo (l.drop 11) 128) 128 = l := by
 unfold slotsTo
 rw [farL_names (by rw [List.length_drop, hl]) (fun p hp => hx p (List.mem_of_mem_drop hp)), show 128 - 128 = 0 by omega]
 simp
end
end
section
open Go.RowKit
def cutB (L : List UInt8) (r : Nat) : List UInt8 := L.take r ++ zN (512 - r)
theorem length_cutB {L : List UInt8} {r : Nat} (hL : L.length = 512) (hr : r <= 512) : (cutB L r).length = 512 := by
 unfold cutB; rw [List.length_append, List.length_take, length_zN]; omega
theorem cutB_at {L : List UInt8} {r : Nat} (hL : L.length = 512) (hr : r <= 512) (j : Nat) : (cutB L r).getD j 0 = if j < r then L.getD j 0 else 0 := by
 unfold cutB
 simp only [List.getD_eq_getElem?_getD]
 by_cases h : j < r
 ·rw [if_pos h, List.getElem?_append_left (by rw [List.length_take]; omega), List.getElem?_take_of_lt h]
 ·rw [if_neg h, List.getElem?_append_right (by rw [List.length_take]; omega), <- List.getD_eq_getElem?_getD]
  exact getD_zN _ _
def clrP (Pg : Nat -> List UInt8) (sl : List Nat) (z : Nat) : Nat -> List UInt8 := if z % 512 = 0 then Pg else updP Pg (sl.getD (dslot (z / 512)) 0) (cutB (Pg (sl.getD (dslot (z / 512)) 0)) (z % 512))
theorem dslot_past0 {z k : Nat} (h5 : z % 512 = 0) (hz : z <= 70656) (h : z <= k) : ¬ dslot (k / 512) < needN z := by
 unfold needN fillN dslot
 have h1 : ¬ 70656 < z := by omega
 simp only [h1, if_false]
 split <;> split <;> omega
theorem dslot_tail {z k : Nat} (hz : z <= 70656) (hk : z <= k) (hn : dslot (k / 512) < needN z) : k / 512 = z / 512 := by
 unfold needN fillN dslot at hn
 have h1 : ¬ 70656 < z := by omega
 simp only [h1, if_false] at hn
 split at hn <;> split at hn <;> omega
section
variable {sk : Nat -> Prop} {N ino : Nat} {Pg Pg' : Nat -> List UInt8} {fs : Nat -> Option FileA} {i : Nat} {f : FileA}
theorem GoodX.clears (h : GoodX sk N ino Pg fs) (hf : fs i = some f) (hs : sk i) (hc : f.cnt = needN f.data.length) :
  GoodX sk N ino (clrP Pg f.slots f.data.length) fs /\ ztail (clrP Pg f.slots f.data.length) f /\ clrP Pg f.slots f.data.length 2 = Pg 2 := by
 have hok := h.file i f hf
 obtain ⟨z, hz⟩ : ∃ z, z = f.data.length := ⟨_, rfl⟩
 have hz7 : z <= 70656 := by rw [hz]; exact hok.size
 by_cases h5 : z % 512 = 0
 ·have e : clrP Pg f.slots f.data.length = Pg := by unfold clrP; rw [<- hz, if_pos h5]
  rw [e]
  exact ⟨h, fun k hk1 hk2 => absurd (by rw [hc, <- hz] at hk2; exact hk2) (dslot_past0 h5 hz7 (by rw [hz]; exact hk1)), rfl⟩
 ·have hd : dslot (z / 512) < f.cnt := by rw [hc, <- hz]; exact fill_need (by unfold fillN; omega) hz7
  obtain ⟨q, hq⟩ : ∃ q, q = f.slot (dslot (z / 512)) := ⟨_, rfl⟩
  have hqN := hok.in_ _ hd
  rw [<- hq] at hqN
  have e : clrP Pg f.slots f.data.length = updP Pg q (cutB (Pg q) (z % 512)) := by unfold clrP; rw [<- hz, if_neg h5, hq]; rfl
  have hL := h.len q hqN.2
  have hoth : ∀ p, p ≠ q -> updP Pg q (cutB (Pg q) (z % 512)) p = Pg p := fun p hp => if_neg hp
  have hsel : updP Pg q (cutB (Pg q) (z % 512)) q = cutB (Pg q) (z % 512) := if_pos rfl
  have hz5 : z % 512 <= 512 := by omega
  rw [e]
  refine ⟨?_, fun k hk1 hk2 => ?_, hoth 2 (by omega)⟩
  ·have := h.pages (Pg' := updP Pg q (cutB (Pg q) (z % 512))) hf hs (fun p hp => ?_) (fun p hp => hoth p (fun e' => hp _ hd (by rw [<- hq, e']))) f.data hok.size (by rw [hc]; exact Nat.le_refl _) (fun k hk => ?_)
   ·rwa [updA_id hf] at this
   ·by_cases e' : p = q
    ·rw [e', hsel]; exact length_cutB hL hz5
    ·rw [hoth p e']; exact h.len p hp
   ·by_cases e' : f.slot (dslot (k / 512)) = q
    ·have hke := dslot_inj (h.apart i f _ i f _ hf hf (h.at_ hf hk).1 hd (e'.trans hq)).2
     rw [e', hsel, cutB_at hL hz5, if_pos (by rw [<- hz] at hk; omega), <- e']
     exact h.data i f hf k hk
    ·rw [hoth _ e']; exact h.data i f hf k hk
  ·rw [<- hz] at hk1
   have hke := dslot_tail hz7 hk1 (by rw [hz, <- hc]; exact hk2)
   rw [hke, <- hq, hsel, cutB_at hL hz5, if_neg (by omega)]
end
end
section
open Go.RowKit
def JustN (Q : Exit -> Act -> World -> Prop) : Exit -> Act -> World -> Prop
 | .normal, a, w => Q .normal a w
 | _, _, _ => False
theorem JustN.normal {Q : Exit -> Act -> World -> Prop} {a : Act} {w : World} (h : Q .normal a w) : JustN Q .normal a w := h
theorem JustN.imp {Q : Exit -> Act -> World -> Prop} : ∀ (e : Exit) (a : Act) (w : World), JustN Q e a w -> Q e a w := fun e a w h => by
 cases e <;> first | exact h | exact (h : False).elim
theorem JustN.out {Q : Exit -> Act -> World -> Prop} : ¬ LetsOut (JustN Q) := fun ⟨_, _, h⟩ => h
def noDefers (ops : Array Oper) : Bool := ops.all fun o => match o.op with | .defer _ => false | _ => true
theorem noDefers_at {ops : Array Oper} (h : noDefers ops = true) {o : Oper} (ho : o ∈ ops) : ∀ c, o.op ≠ .defer c := fun c e => by
 have := Array.all_eq_true_iff_forall_mem.1 h o ho
 rw [e] at this
 cases this
section
variable {P : Program} {ops : Array Oper} {Q : Exit -> Act -> World -> Prop}
theorem rowsIn_of {l n : Nat} {row : String} {args : Array Value} {w : World} {R : Value -> World -> Prop} (h : Rows P row args w R) : RowsIn (Fence.wide.inRound l) n P row args w R :=
 fun c cs _ => let ⟨v, w', r, s⟩ := h c cs; ⟨v, w', r, stepsIn_wide.2 s⟩
theorem operIn_of {l n : Nat} {o : Oper} {a : Act} {w : World} {K : Act -> World -> Prop} (hd : ∀ c, o.op ≠ .defer c) (h : o.wp P a w K Q) : o.wpIn (Fence.wide.inRound l) n P a w K Q := by
 unfold Oper.wpIn
 refine ⟨fun _ _ => trivial, ?_⟩
 rw [show (Fence.wide.inRound l).round = some l from rfl, Oper.semAt_some l _ _ hd]
 unfold Oper.wp at h
 generalize (execOp a.eval o).run P w = r at *
 cases r with
 | ok x w' =>
  cases x <;> simp only [Oper.upon, Oper.uponIn] at h ⊢
  case value u => exact h
  case skip => exact h
  case defer d => exact h
  case enter f args => exact ⟨fun e => (by cases e), CallsIn.inRound l (callsIn_wide.2 h)⟩
  case row row args => exact ⟨fun e => (by cases e), rowsIn_of h⟩
 | halt x w' => cases x <;> simp only [Oper.upon, Oper.uponIn] at h ⊢ <;> exact h
theorem wpOpIn_of {l n i : Nat} {a : Act} {w : World} {K : Act -> World -> Prop} (hd : noDefers ops = true) (h : wpOp P ops (JustN Q) i K a w) : wpOpIn (Fence.wide.inRound l) n P ops (JustN Q) i K a w := by
 unfold wpOp at h
 unfold wpOpIn
 split
 ·rename_i ho; rw [ho] at h; exact h
 ·rename_i o ho
  rw [ho] at h
  simp only at h
  split
  ·rename_i hw
   rw [if_pos hw] at h
   rcases h with h | ⟨-, h⟩
   ·exact operIn_of (noDefers_at hd (Array.mem_of_getElem? ho)) h
   ·exact absurd h JustN.out
  ·rename_i hw
   rw [if_neg hw] at h
   exact ⟨fun _ _ => trivial, h⟩
theorem wpAnyIn_of {l n : Nat} (hd : noDefers ops = true) {md : Region.Mode} : ∀ (fuel : Nat) (listed : Array Bool) (a : Act) (w : World), wpAny P md ops (JustN Q) fuel listed a w -> wpAnyIn (Fence.wide.inRound l) n P md ops (JustN Q) fuel listed a w
 | 0, _, _, _, h => h
 | fuel + 1, _, _, _, h => ⟨h.1, fun i hi => wpOpIn_of hd (wpOp_mono (fun a' w' h' => wpAnyIn_of hd fuel _ a' w' h') (h.2 i hi))⟩
theorem wpListIn_of {l n : Nat} (hd : noDefers ops = true) : ∀ (os : List Oper) (a : Act) (w : World), (∀ o ∈ os, o ∈ ops) -> wpList P ops (JustN Q) os a w -> wpListIn (Fence.wide.inRound l) n P ops (JustN Q) os a w
 | [], _, _, _, h => h
 | o :: os, a, w, hm, h => by
  unfold wpList at h
  unfold wpListIn
  split
  ·rename_i hw
   rw [if_pos hw] at h
   rcases h with h | ⟨-, h⟩
   ·exact operIn_of (noDefers_at hd (hm o (by simp))) (Oper.wp_mono (fun a' w' h' => wpListIn_of hd os a' w' (fun o ho => hm o (by simp [ho])) h') h)
   ·exact absurd h JustN.out
  ·rename_i hw
   rw [if_neg hw] at h
   exact ⟨fun _ _ => trivial, wpListIn_of hd os _ w (fun o ho => hm o (by simp [ho])) h⟩
theorem wpInR_drew {S : World -> Prop} {l n id : Nat} {a : Act} {w : World} (hm : P.follows .mixedOrders = true) (hd : noDefers ops = true) (hS : S w.drew)
  (h : S w.drew -> wpAnyH P .any ops (JustN Q) S ops.size (Array.replicate ops.size false) a w.drew) : (Code.region id ops true).wpIn (Fence.wide.inRound l) n P Q a w :=
 wpIn_mono (wpIn_region_any hm (wpAnyIn_of hd _ _ _ _ (wpAny_of_held _ _ _ _ (h hS)))) JustN.imp
theorem wpInR_list {l n id : Nat} {a : Act} {w : World} (hd : noDefers ops = true) (h : wpList P ops (JustN Q) ops.toList a w) : (Code.region id ops false).wpIn (Fence.wide.inRound l) n P Q a w :=
 wpIn_mono (wpIn_region_list (wpListIn_of hd _ _ _ (fun o ho => by simpa using ho) h)) JustN.imp
end
end
section
set_option maxRecDepth 100000
set_option maxHeartbeats 4000000
open Go.RowKit Go.Shelf
attribute [local go_sem] Oper.semAt_some
theorem fill_fill (z : Nat) : fillN (fillN z * 512) = fillN z := by unfold fillN; omega
theorem run_mkN (w : World) (n : Nat) (hn : n <= 100000) : (Instr.makeSlice 81 (.int .i64 n) (.int .i64 n)).run Tryz.prog w = .ok (.slice (some ⟨w.heap.size, 0, none⟩) n n) (w.alloc (.cells ((zN n).map U8).toArray 5)) := by
 obtain ⟨i, hi, hz, hs, hb⟩ := info_parts infoU8
 have hrun := run_make (P := Tryz.prog) w 81 5 i (.int .u8 0) Tryz.underlying81 hi hz .i64 .i64 n n (by omega) (by omega) (by rw [hb]; omega) (by omega)
 simp only [Int.toNat_natCast, hs, madeU8] at hrun
 rw [rep_U8] at hrun
 exact hrun
theorem clr_cut : ∀ (t r : Nat) (L : List UInt8), L.length = r + t -> clr L r t = L.take r ++ zN t
 | 0, r, L, h => by rw [clr, List.take_of_length_le (by omega)]; simp [zN]
 | t + 1, r, L, h => by
  rw [clr, clr_cut t (r + 1) (L.set r 0) (by rw [List.length_set]; omega), List.take_add_one, List.getElem?_set_self (by omega), List.take_set_of_le (Nat.le_refl _), List.append_assoc]
  rfl
section
variable {w : World} {f m c ino : Nat} {F : Nat -> Prop} {size N : Nat} {Pg Cm : Nat -> List UInt8} {o u k : Nat} {S : FileS}
theorem iclear_tail (h : mapB w m c ino) (hmF : ¬ F m) (hf : fileB w f m S) (hfF : ¬ F f) (hS : S.slots.length = 139) (hs : S.size <= 70656) (h5 : S.size % 512 ≠ 0) (hq : S.slots.getD (dslot (S.size / 512)) 0 < N) (hu : u < 990000) (hp : Pe w c F size N Pg Cm o u (k + 1)) :
  Calls Tryz.prog 202 #[.pointer (some ⟨f, 0, none⟩)] w fun e w' => e = .returned (.int .i64 0) /\ Keeps F w w' /\ Pe w' c F size N (clrP Pg S.slots S.size) Cm o (u + 1) k := by
 refine (callsIn_wide (n := 8)).1 ?_
 obtain ⟨wA, hA⟩ : ∃ wA, wA = (w.alloc (.cells #[.pointer (some ⟨f, 0, none⟩)] 168)).alloc (.cells #[.int .i64 0] 31) := ⟨_, rfl⟩
 have hAB : Below w.heap.size w wA := by rw [hA]; exact ((Below.refl _ w).alloc (Nat.le_refl _) _).alloc (by simp) _
 have hA0 : wA.heap[w.heap.size]? = some (.cells #[.pointer (some ⟨f, 0, none⟩)] 168 (0, 0)) := by rw [hA]; exact block_alloc (block_new w _) _
 have hA1 : wA.heap[w.heap.size + 1]? = some (.cells #[.int .i64 0] 31 (0, 0)) := by
  have h1 := block_new (w.alloc (.cells #[.pointer (some ⟨f, 0, none⟩)] 168)) (.cells #[.int .i64 0] 31)
  rw [World.size_alloc] at h1
  rw [hA]; exact h1
 have hAs : wA.heap.size = w.heap.size + 2 := by rw [hA]; simp
 have hfA := hf.below hAB
 obtain ⟨-, -, -, -, -, c5⟩ := hfA.head
 have c0 : wA.cell? ⟨w.heap.size, 0, none⟩ = some (.pointer (some ⟨f, 0, none⟩)) := cell_of_block hA0 0
 have HF := hid hfA
 have HFi := hid (fun W => ifilled_any S.size (by omega) W)
 obtain ⟨z, hz⟩ : ∃ z, z = S.size := ⟨_, rfl⟩
 obtain ⟨fz, hfz⟩ : ∃ fz, fz = fillN S.size := ⟨_, rfl⟩
 obtain ⟨z1, hz1⟩ : ∃ z1, z1 = fillN S.size * 512 := ⟨_, rfl⟩
 have HFe : Hid (((fz : Nat) : Int) * 512 = (z1 : Int)) := by unfold Hid; omega
 have hfb : ((fz : Nat) : Int) <= 200 := by rw [hfz]; unfold fillN; omega
 have HZe : Hid (fillN z1 = z / 512 + 1 /\ z1 <= 70656 /\ z1 = (z / 512 + 1) * 512 /\ z <= 70656) := by
  unfold Hid; rw [hz1, fill_fill, <- hz]; unfold fillN; rw [<- hz] at hs h5; omega
 have HMp := hid (h.below hAB)
 have HPc : Hid (Pe wA c F size N Pg Cm o u (k + 1)) := by obtain ⟨D, h1, h2⟩ := hp; exact ⟨D, h1, h2.below hAB⟩
 have HFl : Hid (∀ i, F i -> i < w.heap.size) := by obtain ⟨D, h1, h2⟩ := hp; exact h2.lt
 have HA1 := hid hA1
 have HA0 := hid hA0
 have HAB := hid hAB
 have HAs := hid hAs
 have HS := hid hS
 have HQ := hid hq
 have H5 := hid h5
 have hfl : f < w.heap.size := hf.lt
 have hml : m < w.heap.size := lt_of_heap h
 rw [hA] at c5 c0
 rw [<- hz] at c5
 have HZ := hid hz
 have HFz := hid hfz
 clear hf hfA hA0 hA1 hAB hAs hS hq h5 hp h hz hfz hs hz1
 refine callsIn_of_wp_marks Tryz.func202 rfl trivial ?_ rfl
 simp only [Tryz.ntmps202, List.size_toArray, List.length_cons, List.length_nil, Nat.reduceAdd, Nat.reduceSub, Array.replicate_succ, Array.replicate_zero, List.push_toArray, List.append_toArray, List.nil_append, List.cons_append]
 have hf1 : Fence.wide.fn 209 := trivial
 have hf2 : Fence.wide.fn 153 := trivial
 have hf4 : Fence.wide.fn 138 := trivial
 have hf5 : Fence.wide.fn 19 := trivial
 have hf6 : Fence.wide.fn 130 := trivial
 have hf7 : Fence.wide.fn 117 := trivial
 gi_wp2
 rw [<- hA] at c0 c5 ⊢
 clear hA
 have hbd : Below wA.heap.size wA wA.drew := (Below.refl _ wA).drew
 have d0 := (hbd.cell (World.block_lt_of_cell? wA _ c0)).trans c0
 have HBd := hid hbd
 have hfi := HFi.out wA.drew
 rw [<- HFz.out, <- HZ.out] at hfi
 have HFi2 := hid hfi
 have HPa := hid (iparts_any f z z1 wA.drew)
 have hmul : IntKind.i64.wrap ((fz : Int) * 512) = (z1 : Int) := by rw [IntWalk.i64_in _ (by omega)]; exact HFe.out
 clear HFi hfi hbd c5
 refine wpIn_wide.2 ?_
 refine wp_region_noPanic ?_
 refine wp_region_held_drew (S := fun W => W.cell? ⟨w.heap.size, 0, none⟩ = some (.pointer (some ⟨f, 0, none⟩))) (by kernel_rfl) c0 (fun hHeld => ?_)
 generalize wA.drew = wd at *
 refine tq 0 _ ?_
 try simp only [tS]
 refine tq 1 _ ?_
 try simp only [tS]
 refine tq 2 _ ?_
 try simp only [tS]
 refine tr 3 (fun K hK => ?_)
 go_simp
 refine HFi2.out.mono ?_
 clear HFi2
 rintro e w1 ⟨rfl, h1⟩
 obtain rfl := h1.symm
 clear h1
 go_wp2_with fail
 refine hK.out _ _ d0 (fun hHeld => ?_)
 clear hK K
 try simp only [tS]
 refine tq 4 (.int .i64 (z1 : Int)) ?_
 try simp only [tS]
 refine tr 5 (fun K hK => ?_)
 go_simp
 refine HPa.out.mono ?_
 clear HPa
 rintro e wD ⟨rfl, hD⟩
 have hDB : Below wd.heap.size wd wD := by rw [hD]; exact (((Below.refl _ wd).alloc (Nat.le_refl _) _).alloc (by simp) _).alloc (by simp; omega) _
 have hsD : wD.heap.size = wd.heap.size + 3 := by rw [hD]; simp
 have x0 : wD.cell? ⟨wd.heap.size, 0, none⟩ = some (.pointer (some ⟨f, 0, none⟩)) := by rw [hD]; exact cell_of_block (block_alloc (block_alloc (block_new wd _) _) _) 0
 have x1 : wD.cell? ⟨wd.heap.size + 1, 0, none⟩ = some (.int .i64 z) := by
  have h1 := block_new (wd.alloc (.cells #[.pointer (some ⟨f, 0, none⟩)] 168)) (.cells #[.int .i64 z] 3)
  rw [World.size_alloc] at h1
  rw [hD]; exact cell_of_block (block_alloc h1 _) 0
 have x2 : wD.cell? ⟨wd.heap.size + 1 + 1, 0, none⟩ = some (.int .i64 z1) := by
  have h1 := block_new ((wd.alloc (.cells #[.pointer (some ⟨f, 0, none⟩)] 168)).alloc (.cells #[.int .i64 z] 3)) (.cells #[.int .i64 z1] 3)
  rw [World.size_alloc, World.size_alloc] at h1
  rw [hD]; exact cell_of_block h1 0
 have dD : wD.cell? ⟨w.heap.size, 0, none⟩ = some (.pointer (some ⟨f, 0, none⟩)) := (hDB.cell (World.block_lt_of_cell? wd _ d0)).trans d0
 have hBD := HBd.out.trans (hDB.mono HBd.out.size)
 have HBD := hid hBD
 have HFD := hid (HF.out.below hBD)
 have HMD := hid (HMp.out.below hBD)
 have HPD : Hid (Pe wD c F size N Pg Cm o u (k + 1)) := by obtain ⟨D, h1, h2⟩ := HPc.out; exact ⟨D, h1, h2.below hBD⟩
 have HR1 := hid (below_block hBD HA1.out (lt_of_heap HA1.out))
 have HR0 := hid (below_block hBD HA0.out (lt_of_heap HA0.out))
 have HX0 := hid x0
 have HX1 := hid x1
 have HX2 := hid x2
 have HsD := hid hsD
 have hsd := HBd.out.size
 clear hD hDB hsD x0 x1 x2 hBD HF HA1 HA0 HMp HPc
 go_wp2_with fail
 refine hK.out _ _ dD (fun hHeld => ?_)
 clear hK K
 try simp only [tS]
 refine wpAnyH_done (by kernel_rfl) ?_ _
 refine NoPanic.normal ?_
 clear hHeld dD d0 c0
 gi_wp2
 have hs9 := HsD.out
 have hwA := HAs.out
 have HSt := hid (iparts_stops 7 (by omega) wd.heap.size (wd.heap.size + 1) (wd.heap.size + 1 + 1) f m z z1 S HS.out (fun i => F i \/ wD.heap.size <= i) HZe.out.2.1 HZe.out.2.2.2 wD (fun hh => by rcases hh with hh | hh; (have := HFl.out _ hh; omega); omega) (fun hh => by rcases hh with hh | hh; (have := HFl.out _ hh; omega); omega) (fun hh => by rcases hh with hh | hh; (have := HFl.out _ hh; omega); omega) (fun hh => by rcases hh with hh | hh; exact hfF hh; omega) HFD.out HX0.out HX1.out HX2.out (fillN z1 - z / 512) rfl)
 have hM1 : fillN z1 - z / 512 = 1 := by have := HZe.out.1; omega
 generalize hM : fillN z1 - z / 512 = M at *
 have HMM := hid hM1
 clear hM hM1
 refine wpIn_rangeFunc_ownH rfl (by omega) (gf := 208) (lb := #[.pointer (some ⟨wd.heap.size + 1, 0, none⟩), .pointer (some ⟨wd.heap.size + 1 + 1, 0, none⟩), .pointer (some ⟨wd.heap.size, 0, none⟩)]) rfl trivial (enters_of Tryz.func208 (by kernel_rfl) rfl)
  HSt.out (fun h k => keepsK_t h k) (keepsK_b (fun i h => .inr h)) (Below.refl _ _) (fun _ => rfl)
  (fun pre W => Hid (fileB W f m S) /\ Hid (mapB W m c ino) /\ Hid (Pe W c F size N (if pre.length = 0 then Pg else clrP Pg S.slots S.size) Cm o (u + pre.length) (k + (1 - pre.length))) /\ Hid (Keeps F wD W))
  (fun _ _ _ => False)
  (fun s A B row hs hgr hr => ⟨grown_block hgr hs.1.out (fun e => by obtain ⟨-, ob, h1, h2⟩ := hr _ e; have h3 := hs.1.out; unfold fileB at h3; rw [h3] at h1; cases h1; cases h2), grown_block hgr hs.2.1.out (fun e => by obtain ⟨-, ob, h1, h2⟩ := hr _ e; have h3 := hs.2.1.out; unfold mapB at h3; rw [h3] at h1; cases h1; cases h2), ?own1, ?own3⟩)
  (fun cd s A B row hs hgr hr => hs)
  ⟨HFD, HMD, HPD, Keeps.refl _ _⟩
  (fun x a' W => ∃ pb, wD.heap.size <= pb /\ a' = { tmps := #[.pointer (some ⟨f, 0, none⟩), .pointer (some ⟨w.heap.size, 0, none⟩), .pointer (some ⟨w.heap.size + 1, 0, none⟩), .int .i64 z, .int .i64 (S.slots.getD (dslot (z / 512 + x.val)) 0 : Nat), .pointer (some ⟨pb, 0, none⟩), undef, undef, undef, .pointer (some ⟨f, 0, none⟩), .pointer (some ⟨f, 0, none⟩), .pointer (some ⟨f, 2, none⟩), .pointer (some ⟨f, 5, none⟩), .int .i64 z, .pointer (some ⟨f, 0, none⟩), .int .i64 z, .int .i64 z, .int .i64 fz, .int .i64 z1, .func (.func 208) #[] #[.pointer (some ⟨wd.heap.size + 1, 0, none⟩), .pointer (some ⟨wd.heap.size + 1 + 1, 0, none⟩), .pointer (some ⟨wd.heap.size, 0, none⟩)], .int .i64 (S.slots.getD (dslot (z / 512 + x.val)) 0 : Nat), .agg #[.int .i64 (z - (z / 512 + x.val) * 512 : Nat), .int .i64 (min (z1 - (z / 512 + x.val) * 512) 512 : Nat)], undef, undef, undef, undef, undef, undef, undef, undef, undef, undef, undef, undef, undef, undef, undef, undef, undef, undef, undef, undef, undef, undef, undef, undef, undef, undef, undef, undef], defers := [] } /\ W.heap[pb]? = some (.cells #[.int .i64 (z - (z / 512 + x.val) * 512 : Nat), .int .i64 (min (z1 - (z / 512 + x.val) * 512) 512 : Nat)] 239 (0, 0))) (fun x a' s A B row hs hgr hr => ?own4) ?assign ?body ?done ?stop
 case assign =>
  rintro l1 pre x W K hI hK
  have HK := hid hK
  have HI := hid hI
  clear hK hI
  unfold partV
  obtain ⟨a1, ha1⟩ : ∃ a1 : Int, a1 = ((S.slots.getD (dslot (z / 512 + x.val)) 0 : Nat) : Int) := ⟨_, rfl⟩
  obtain ⟨a2, ha2⟩ : ∃ a2 : Int, a2 = ((z - (z / 512 + x.val) * 512 : Nat) : Int) := ⟨_, rfl⟩
  obtain ⟨a3, ha3⟩ : ∃ a3 : Int, a3 = ((min (z1 - (z / 512 + x.val) * 512) 512 : Nat) : Int) := ⟨_, rfl⟩
  rw [<- ha1, <- ha2, <- ha3]
  have HA123 := hid (And.intro ha1 (And.intro ha2 ha3))
  clear ha1 ha2 ha3
  gi_wp2
  obtain ⟨rfl, rfl, rfl⟩ := HA123.out
  obtain ⟨i1, i2, i3, i5⟩ := HI.out
  have hwD := i5.out.size
  have hba : Below W.heap.size W (W.alloc (.cells #[.int .i64 (z - (z / 512 + x.val) * 512 : Nat), .int .i64 (min (z1 - (z / 512 + x.val) * 512) 512 : Nat)] 239)) := (Below.refl _ W).alloc (Nat.le_refl _) _
  refine HK.out _ _ ⟨by simp, fun i ob hi ho _ => block_alloc ho _⟩ (Keeps.of_below hba) ⟨i1.out.below hba, i2.out.below hba, ?_, i5.out.trans (Keeps.of_below hba : Keeps (fun _ => False) W _) (fun i e => e.elim)⟩ ⟨W.heap.size, hwD, rfl, block_new W _⟩
  obtain ⟨D, h1, h2⟩ := i3.out
  exact ⟨D, h1, h2.below hba⟩
 case body =>
  rintro l1 pre x a' W hl1 hrec ⟨HFw, HMw, HPw, HKw⟩ ⟨pb, hpb, rfl, hpW⟩ hlt
  have hx0 : x.val = 0 := by have := x.isLt; have := HMM.out; omega
  have hpr : pre.length = 0 := by have := HMM.out; omega
  have hze := HZe.out
  simp only [hx0, Nat.add_zero] at hpW ⊢
  rw [hpr, if_pos rfl] at HPw
  obtain ⟨D, hrD, hpD⟩ := HPw.out
  have hnw : ∀ i, w.heap.size <= i -> ¬ F i := fun i hi hh => by have := HFl.out i hh; omega
  have c0b := HKw.out.heap HR0.out (hnw _ (Nat.le_refl _))
  have c0 : W.cell? ⟨w.heap.size, 0, none⟩ = some (.pointer (some ⟨f, 0, none⟩)) := cell_of_block c0b 0
  obtain ⟨cf, -⟩ := HFw.out.head
  have hqN := HQ.out
  have h5 := H5.out
  rw [<- HZ.out] at hqN h5
  have HPg := hid (ipage_any HMw.out (S.slots.getD (dslot (z / 512)) 0) hqN (show u < 1000000 by omega) hpD (Below.refl _ W))
  obtain ⟨pn, hpn⟩ : ∃ pn, pn = S.slots.getD (dslot (z / 512)) 0 := ⟨_, rfl⟩
  obtain ⟨r, hr⟩ : ∃ r, r = z - z / 512 * 512 := ⟨_, rfl⟩
  have hr5 : min (z1 - z / 512 * 512) 512 = 512 := by omega
  rw [<- hpn, <- hr, hr5]
  rw [<- hpn] at HPg hqN
  rw [<- hr, hr5] at hpW
  have HRz : Hid (r = z % 512) := by unfold Hid; omega
  have hr0 : 0 < r := by omega
  have hr1 : r < 512 := by omega
  have hr1' : (r : Int) < 512 := by omega
  have hr2 : ¬ (512 = r) := by omega
  have hp0 : W.cell? ⟨pb, 0, none⟩ = some (.int .i64 r) := cell_of_block hpW 0
  have HPW := hid hpW
  have HRD := hid hrD
  have HPD1 := hid hpD
  have HLn := hid (hpD.len pn hqN)
  have HQN := hid hqN
  have hpbW := lt_of_heap hpW
  have HC0 := hid c0b
  have HPn := hid hpn
  clear HPw hrD hpD hpW c0b hpn HSt hze hqN h5 hr hr5 hx0 hnw
  unfold gV at HPg
  gi_wp2
  refine (CallsIn.inRound l1 (callsIn_wide.2 HPg.out)).mono ?_
  clear HPg
  rintro e W2 ⟨g, rfl, hg, ho2, hk2, hW2⟩
  have hnp : ∀ i, w.heap.size <= i -> ¬ F i := fun i hi hh => by have := HFl.out i hh; omega
  have HP2 := hid (hk2.heap HPW.out (hnp _ (by omega)))
  have HC2 := hid (hk2.heap HC0.out (hnp _ (by omega)))
  have q0 : W2.cell? ⟨pb, 0, none⟩ = some (.int .i64 r) := cell_of_block HP2.out 0
  have HO2 := hid ho2
  have HK2 := hid hk2
  have HW2 := hid hW2
  have hgl := ho2.lt
  have HG := hid hg
  obtain ⟨t, ht⟩ : ∃ t, t = 512 - r := ⟨_, rfl⟩
  have hmk := run_mkN W2 t (by omega)
  have hsl : 512 - r = t := ht.symm
  have hrt : r + t = 512 := by omega
  have ht0 : 0 < t := by omega
  clear ho2 hk2 hW2 hnp hp0 c0 cf hg ht
  gi_wp2
  obtain ⟨W3, hW3⟩ : ∃ W3, W3 = W2.alloc (.cells ((zN t).map U8).toArray 5) := ⟨_, rfl⟩
  have hb23 : Below W2.heap.size W2 W3 := by rw [hW3]; exact (Below.refl _ W2).alloc (Nat.le_refl _) _
  have ho3 : ownB W3 W2.heap.size (zN t) := by rw [hW3]; exact block_new W2 _
  have hrow3 := (rowU_own HO2.out).below hb23
  have hdl : ((Pg pn).drop r).length = t := by rw [List.length_drop, HLn.out]; omega
  have heq := equal_any ((Pg pn).drop r) (zN t) ⟨g, r, none⟩ ⟨W2.heap.size, 0, none⟩ t t W3 (fun j hj => by rw [Addr.add_mid, List.getElem_drop]; exact hrow3.cell (r + j) (by rw [HLn.out]; omega)) ho3.at
  rw [hdl, length_zN] at heq
  rw [<- hW3]
  have HEq := hid heq
  have HB23 := hid hb23
  have HRo3 := hid hrow3
  have HDl := hid hdl
  clear heq hb23 hrow3 hdl ho3 hW3 hmk q0
  refine (CallsIn.inRound l1 (callsIn_wide.2 HEq.out)).mono ?_
  clear HEq
  rintro e w4 ⟨rfl, h4⟩
  obtain rfl := h4.symm
  clear h4
  have hclr : clrP Pg S.slots S.size = updP Pg pn (cutB (Pg pn) r) := by
   have h5 := H5.out
   unfold clrP
   rw [if_neg h5, <- HZ.out, <- HPn.out, <- HRz.out]
  have HClr := hid hclr
  have hgW := HG.out
  have hWD := HKw.out.size
  clear hclr
  by_cases hc : (Pg pn).drop r = zN t
  ·rw [decide_eq_true hc]
   have hsame : updP Pg pn (cutB (Pg pn) r) = Pg := by
    have e1 : cutB (Pg pn) r = Pg pn := by unfold cutB; rw [hsl, <- hc, List.take_append_drop]
    rw [e1]; funext q; unfold updP; split
    ·rename_i e; rw [e]
    ·rfl
   have HSm := hid hsame
   clear hsame hc
   gi_wp2
   have kW3 : Keeps F W W3 := HK2.out.trans (Keeps.of_below HB23.out : Keeps F W2 W3) (fun i e => .inl e)
   have hP3 := HW2.out W3 (Keeps.of_below HB23.out)
   refine ⟨⟨kW3.size, fun i ob hi ho _ => kW3.heap ho (fun hh => by have := HFl.out i hh; omega)⟩, kW3.mono (fun i e => .inl e), HFw.out.keep kW3 hfF, HMw.out.keep kW3 hmF, ?_, HKw.out.trans kW3 (fun i e => .inl e)⟩
   unfold Hid
   rw [List.length_append, List.length_singleton, hpr, if_neg (by omega), HClr.out, HSm.out]
   exact ⟨D, HRD.out.le (by omega), hP3⟩
  ·rw [decide_eq_false hc]
   have hcr := run_clear_row HRo3.out r t t ht0 (by rw [HLn.out]; omega)
   have hst := rowU.clears t r (Pg pn) W3 HRo3.out (by rw [HLn.out]; omega)
   obtain ⟨W4, hW4⟩ : ∃ W4, W4 = W3.setCells g r (List.replicate t (.int .u8 0)) := ⟨_, rfl⟩
   rw [<- hW4] at hcr hst
   have hcc := clr_cut t r (Pg pn) (by rw [HLn.out]; omega)
   rw [hcc, show zN t = zN (512 - r) by rw [hsl], show (Pg pn).take r ++ zN (512 - r) = cutB (Pg pn) r from rfl] at hst
   obtain ⟨hr4, hk4⟩ := hst
   have k24 : Keeps (fun i => W.heap.size <= i) W2 W4 := (Keeps.of_below HB23.out : Keeps (fun i => W.heap.size <= i) W2 W3).trans hk4 (fun i e => by have e' : i = g := e; exact .inl (by show W.heap.size <= i; omega))
   have hP4 := HW2.out W4 k24
   have kW4 : Keeps F W W4 := HK2.out.trans k24 (fun i e => .inr e)
   have hf4 := HFw.out.keep kW4 hfF
   have hm4 := HMw.out.keep kW4 hmF
   obtain ⟨cf, -⟩ := hf4.head
   have c0 : W4.cell? ⟨w.heap.size, 0, none⟩ = some (.pointer (some ⟨f, 0, none⟩)) := cell_of_block (kW4.heap HC0.out (fun hh => Nat.lt_irrefl _ (HFl.out _ hh))) 0
   have HWr := hid (hP4.write pn HQN.out _ (length_cutB HLn.out (by omega)) ⟨g, 0, none⟩ 512 hr4.1 (HRD.out.use pn HQN.out))
   have HCa := hid (amCache_any hm4)
   have HF4 := hid hf4
   have HM4 := hid hm4
   have HKW4 := hid kW4
   clear hW4 hcc hr4 hk4 k24 hP4 kW4 hf4 hm4 hc hsl
   gi_wp2
   refine (CallsIn.inRound l1 (callsIn_wide.2 HCa.out)).mono ?_
   clear HCa
   rintro e w8 ⟨rfl, h8⟩
   obtain rfl := h8.symm
   clear h8
   gi_wp2
   refine (CallsIn.inRound l1 (callsIn_wide.2 HWr.out)).mono ?_
   clear HWr
   rintro e W8 ⟨rfl, hk8, hp8⟩
   have HK8 := hid hk8
   have HP8 := hid hp8
   clear hk8 hp8 c0 cf hcr
   gi_wp2
   have kW8 : Keeps F W W8 := HKW4.out.trans HK8.out (fun i e => .inl e)
   refine ⟨⟨kW8.size, fun i ob hi ho _ => kW8.heap ho (fun hh => by have := HFl.out i hh; omega)⟩, kW8.mono (fun i e => .inl e), HF4.out.keep HK8.out hfF, HM4.out.keep HK8.out hmF, ?_, HKw.out.trans kW8 (fun i e => .inl e)⟩
   unfold Hid
   rw [List.length_append, List.length_singleton, hpr, if_neg (by omega), HClr.out]
   exact ⟨_, HRD.out.put pn, HP8.out⟩
 case own1 =>
  obtain ⟨D, h1, h2⟩ := hs.2.2.1.out
  exact ⟨D, h1, h2.own (B := wD.heap.size) (fun i hi => by have := HFl.out i hi; have := HsD.out; omega) hgr hr⟩
 case own3 => exact hs.2.2.2.out.trans (Keeps.of_grown hgr (F := fun i => row = some i) (fun i e => e)) (fun i e => .inr (hr i e).1)
 case own4 =>
  obtain ⟨pb, h1, h2, h3⟩ := hs
  exact ⟨pb, h1, h2, grown_block hgr h3 (fun e => by obtain ⟨-, ob, h4, h5⟩ := hr _ e; rw [h3] at h4; cases h4; cases h5)⟩
 case done =>
  rintro D1 ys W hD1 hys ⟨HFw, HMw, HPw, HKw⟩ hK1
  have hyl : ys.length = 1 := by
   have h1 := congrArg List.length hys
   have := HZe.out.1
   rw [List.length_map, length_upTo] at h1
   omega
  rw [hyl, if_neg (by omega)] at HPw
  have v1 := HKw.out.heap HR1.out (fun hh => by have := HFl.out _ hh; omega)
  have e1 : W.cell? ⟨w.heap.size + 1, 0, none⟩ = some (.int .i64 0) := cell_of_block v1 0
  have f1 : W.frozen? ⟨w.heap.size + 1, 0, none⟩ = false := frozen_of_block v1 0
  have HV1 := hid v1
  have HKD := hid hK1
  clear hys v1 hK1 hyl HSt
  gi_wp2
  have hwl := HAs.out
  have hwd := HBD.out.size
  have k4 : Keeps (fun i => i = w.heap.size + 1) W (W.setCell ⟨w.heap.size + 1, 0, none⟩ (.int .i64 0)) := (Keeps.refl _ _).grown (grown_setCell (grown_refl _ _) _ _) (fun i e => .inl (Option.some.inj e).symm)
  have v4 := block_setCell HV1.out 0 (.int .i64 0)
  have d4 := k4.heap HKD.out (fun e => by have e' : D1 = w.heap.size + 1 := e; omega)
  obtain ⟨D, hr4, hp4⟩ := HPw.out
  have hp5 := hp4.keepY (errno_off HV1.out) (fun hh => by have := HFl.out _ hh; omega) k4
  have kw4 : Keeps F w (W.setCell ⟨w.heap.size + 1, 0, none⟩ (.int .i64 0)) := (((Keeps.of_below HAB.out : Keeps F w wA).trans (Keeps.of_below HBD.out : Keeps F wA wD) (fun i e => .inl e)).trans HKw.out (fun i e => .inl e)).trans k4 (fun i e => .inr (by have e' : i = w.heap.size + 1 := e; omega))
  generalize W.setCell ⟨w.heap.size + 1, 0, none⟩ (.int .i64 0) = W4 at *
  have hg5 := grownBy_putObj' W4 D1 (.deferred none)
  have hr5 : ∀ r, some D1 = some r -> w.heap.size <= r /\ ∃ o : Obj, W4.heap[r]? = some o /\ o.isCells = false := fun r e => by cases e; exact ⟨by omega, _, d4, rfl⟩
  refine ⟨by simp, .inl ⟨_, _, rfl, run_takeDeferred d4, ?_⟩⟩
  refine ⟨_, results_iclear rfl (grown_block hg5 v4 (fun e => by cases e; omega)), ?_⟩
  exact ⟨rfl, kw4.trans (Keeps.of_grown hg5 (F := fun i => some D1 = some i) (fun i e => e)) (fun i e => .inr (by cases e; omega)), D, hr4.le (by omega), hp5.own HFl.out hg5 hr5⟩
 case stop =>
  intro D c pre W hD hpre hx
  exact hx.elim
end
end
section
open Go.RowKit
def gvP (Pg : Nat -> List UInt8) (q : Nat) : Nat -> List UInt8 := updP Pg 2 (flipL (Pg 2) q)
theorem gvP_low {Pg : Nat -> List UInt8} {q p : Nat} (h2 : p ≠ 2) : gvP Pg q p = Pg p := by unfold gvP updP; rw [if_neg h2]
theorem gvP_two {Pg : Nat -> List UInt8} {q : Nat} : gvP Pg q 2 = flipL (Pg 2) q := by unfold gvP updP; rw [if_pos rfl]
def FileA.shrink (f : FileA) : FileA := { f with slots := f.slots.set (f.cnt - 1) 0, cnt := f.cnt - 1 }
theorem shrink_old {f : FileA} {j : Nat} (h : j ≠ f.cnt - 1) : f.shrink.slot j = f.slot j := by
 unfold FileA.shrink FileA.slot
 rw [List.getD_eq_getElem?_getD, List.getElem?_set_ne (fun e => h e.symm), <- List.getD_eq_getElem?_getD]
theorem shrink_new {f : FileA} : f.shrink.slot (f.cnt - 1) = 0 := by
 unfold FileA.shrink FileA.slot
 rw [List.getD_eq_getElem?_getD]
 by_cases h : f.cnt - 1 < f.slots.length
 ·rw [List.getElem?_set_self h]; rfl
 ·rw [List.getElem?_eq_none (by rw [List.length_set]; omega)]; rfl
def zsL (sl ks : List Nat) : List Nat := ks.foldl (fun s j => s.set j 0) sl
theorem zsL_snoc (sl ks : List Nat) (k : Nat) : zsL sl (ks ++ [k]) = (zsL sl ks).set k 0 := by simp [zsL]
def gvPs (Pg : Nat -> List UInt8) (sl ks : List Nat) : Nat -> List UInt8 := ks.foldl (fun P j => gvP P (sl.getD j 0)) Pg
theorem gvPs_snoc (Pg : Nat -> List UInt8) (sl ks : List Nat) (k : Nat) : gvPs Pg sl (ks ++ [k]) = gvP (gvPs Pg sl ks) (sl.getD k 0) := by simp [gvPs]
def FileA.cuts (f : FileA) (k : Nat) : FileA := { f with slots := zsL f.slots (dnL f.cnt k), cnt := f.cnt - k }
theorem cuts_zero (f : FileA) : f.cuts 0 = f := by unfold FileA.cuts dnL zsL; simp
theorem cuts_succ (f : FileA) (k : Nat) : (f.cuts k).shrink = f.cuts (k + 1) := by
 unfold FileA.shrink FileA.cuts
 simp only [dnL_succ, zsL_snoc]
 rw [show f.cnt - k - 1 = f.cnt - 1 - k by omega, show f.cnt - (k + 1) = f.cnt - 1 - k by omega]
theorem cuts_slot (f : FileA) : ∀ (k j : Nat), j < f.cnt - k -> (f.cuts k).slot j = f.slot j
 | 0, j, _ => by rw [cuts_zero]
 | k + 1, j, hj => by
  rw [<- cuts_succ, shrink_old (by show j ≠ f.cnt - k - 1; omega)]
  exact cuts_slot f k j (by omega)
section
variable {sk : Nat -> Prop} {N ino : Nat} {Pg Pg' : Nat -> List UInt8} {fs : Nat -> Option FileA} {i : Nat} {f : FileA}
theorem GoodX.give1 (h : GoodX sk N ino Pg fs) (hf : fs i = some f) (hs : sk i) (hc : 0 < f.cnt) (hn : needN f.data.length <= f.cnt - 1) : GoodX sk N ino (gvP Pg (f.slot (f.cnt - 1))) (updA fs i (some f.shrink)) /\ bitL (Pg 2) (f.slot (f.cnt - 1)) = true := by
 have hok := h.file i f hf
 have hi := h.out i f hf
 have hnf := h.nf
 have hn4 := h.n4
 have hl2 := h.len 2 (by omega)
 obtain ⟨q, hq⟩ : ∃ q, q = f.slot (f.cnt - 1) := ⟨_, rfl⟩
 rw [<- hq]
 have hqi := hok.in_ (f.cnt - 1) (by omega)
 rw [<- hq] at hqi
 have hqb : bitL (Pg 2) q = true := (h.pbit q hqi.1 hqi.2).2 ⟨i, f, f.cnt - 1, hf, by omega, hq.symm⟩
 have hup : ∀ p, p ≠ 2 -> gvP Pg q p = Pg p := fun p hp => gvP_low hp
 have hsl : ∀ {k : Nat} {g : FileA} {j : Nat}, updA fs i (some f.shrink) k = some g -> j < g.cnt -> ∃ g0, fs k = some g0 /\ j < g0.cnt /\ g.slot j = g0.slot j /\ (k = i -> j < f.cnt - 1) := fun {k g j} hg hj => by
  rcases updA_cases hg with ⟨rfl, e⟩ | ⟨hne, hg⟩
  ·cases e
   have hj' : j < f.cnt - 1 := hj
   exact ⟨f, hf, by omega, shrink_old (by omega), fun _ => hj'⟩
  ·exact ⟨g, hg, hj, rfl, fun e => absurd e hne⟩
 refine ⟨⟨h.n4, h.nf, h.h8, h.i5, fun p hp => ?_, fun k hk => ?_, fun k g hg => ?_, fun k g hg => ?_, fun k g hg => ?_, fun k g hg hns => ?_, fun k g hg x hx => ?_, fun p hp1 hp2 => ?_, fun k g j k' g' j' hg hg' hj hj' e => ?_⟩, hqb⟩
 ·by_cases e : p = 2
  ·rw [e, gvP_two, length_flipL]; exact hl2
  ·rw [hup p e]; exact h.len p hp
 ·rw [hup 1 (by omega), h.ibit k hk]
  by_cases e : k = i
  ·subst e; rw [updA_self, hf]; simp
  ·rw [updA_ne e]
 ·rcases updA_cases hg with ⟨rfl, -⟩ | ⟨-, hg⟩
  ·exact hi
  ·exact h.out k g hg
 ·rcases updA_cases hg with ⟨rfl, e⟩ | ⟨-, hg⟩
  ·cases e
   refine ⟨hok.kind, hok.mode, hok.links, hok.size, by show (f.slots.set _ _).length = 139; rw [List.length_set]; exact hok.len, by show f.cnt - 1 <= 139; have := hok.cnt; omega, hn, fun j hj => ?_, fun j hj => ?_⟩
   ·have hj' : j < f.cnt - 1 := hj
    rw [shrink_old (by omega)]; exact hok.in_ j (by omega)
   ·have hj' : f.cnt - 1 <= j := hj
    by_cases e2 : j = f.cnt - 1
    ·rw [e2]; exact shrink_new
    ·rw [shrink_old e2]; exact hok.zero j (by omega)
  ·exact h.file k g hg
 ·have hk : k < ino /\ tabOk Pg k := by
   rcases updA_cases hg with ⟨rfl, -⟩ | ⟨-, hg⟩
   ·exact ⟨hi.2, h.tab k f hf⟩
   ·exact ⟨(h.out k g hg).2, h.tab k g hg⟩
  unfold tabOk
  rw [hup _ (by omega)]
  exact hk.2
 ·rcases updA_cases hg with ⟨rfl, -⟩ | ⟨-, hg⟩
  ·exact absurd hs hns
  ·obtain ⟨h1, h2, h3⟩ := h.node k g hg hns
   rw [hup _ (by omega)]
   refine ⟨h1, h2, fun hb => ?_⟩
   have hx := ((h.file k g hg).in_ 10 (by rw [h2]; have := need_far hb (h.file k g hg).size; omega)).1
   rw [hup _ (by omega)]
   exact h3 hb
 ·have ha : ∃ g0, fs k = some g0 /\ g0.data = g.data /\ g.slot (dslot (x / 512)) = g0.slot (dslot (x / 512)) := by
   rcases updA_cases hg with ⟨rfl, e⟩ | ⟨-, hg⟩
   ·cases e
    have h1 := (dslot_need (show x < f.data.length from hx) hok.size).1
    exact ⟨f, hf, rfl, shrink_old (by omega)⟩
   ·exact ⟨g, hg, rfl, rfl⟩
  obtain ⟨g0, h1, h2, h3⟩ := ha
  have hx0 : x < g0.data.length := by rw [h2]; exact hx
  have h4 := ((h.file k g0 h1).in_ _ (h.at_ h1 hx0).1).1
  rw [h3, hup _ (by omega), <- h2]
  exact h.data k g0 h1 x hx0
 ·rw [gvP_two, bitL_flipL _ _ _ (by omega)]
  by_cases e : p = q
  ·subst e
   rw [if_pos rfl, hqb]
   refine ⟨fun hh => (by cases hh), ?_⟩
   rintro ⟨k, g, j, hg, hj, hp⟩
   obtain ⟨g0, h1, h2, h3, h4⟩ := hsl hg hj
   have h5 := h.apart k g0 j i f (f.cnt - 1) h1 hf h2 (by omega) (by rw [<- h3, hp, hq])
   have h6 := h4 h5.1
   omega
  ·rw [if_neg e, h.pbit p hp1 hp2]
   constructor
   ·rintro ⟨k, g, j, hg, hj, hp⟩
    by_cases hk : k = i
    ·subst hk
     rw [hf] at hg; cases hg
     have hjn : j ≠ f.cnt - 1 := fun e' => e (by rw [<- hp, hq, e'])
     exact ⟨k, _, j, updA_self _ _ _, by show j < f.cnt - 1; omega, by rw [shrink_old hjn]; exact hp⟩
    ·exact ⟨k, g, j, (updA_ne hk).trans hg, hj, hp⟩
   ·rintro ⟨k, g, j, hg, hj, hp⟩
    obtain ⟨g0, h1, h2, h3, -⟩ := hsl hg hj
    exact ⟨k, g0, j, h1, h2, h3.symm.trans hp⟩
 ·obtain ⟨g0, h1, h2, h3, -⟩ := hsl hg hj
  obtain ⟨g1, h4, h5, h6, -⟩ := hsl hg' hj'
  exact h.apart k g0 j k' g1 j' h1 h4 h2 h5 (h3.symm.trans (e.trans h6))
theorem GoodX.gives (h : GoodX sk N ino Pg fs) (hf : fs i = some f) (hs : sk i) : ∀ n, n <= f.cnt -> needN f.data.length <= f.cnt - n -> GoodX sk N ino (gvPs Pg f.slots (dnL f.cnt n)) (updA fs i (some (f.cuts n)))
 | 0, _, _ => by rw [cuts_zero, updA_id hf]; exact h
 | n + 1, hc, hn => by
  have h1 := GoodX.gives h hf hs n (by omega) (by omega)
  have h2 := (h1.give1 (updA_self _ _ _) hs (by show 0 < f.cnt - n; omega) (by show needN f.data.length <= f.cnt - n - 1; omega)).1
  rw [updA_twice, cuts_succ, cuts_slot f n _ (by show f.cnt - n - 1 < f.cnt - n; omega)] at h2
  rw [dnL_succ, gvPs_snoc]
  rw [show (f.cuts n).cnt - 1 = f.cnt - 1 - n by show f.cnt - n - 1 = _; omega] at h2
  exact h2
theorem GoodX.givesBit (h : GoodX sk N ino Pg fs) (hf : fs i = some f) (hs : sk i) (n : Nat) (hc : n + 1 <= f.cnt) (hn : needN f.data.length <= f.cnt - (n + 1)) : bitL (gvPs Pg f.slots (dnL f.cnt n) 2) (f.slots.getD (f.cnt - 1 - n) 0) = true := by
 have h1 := GoodX.gives h hf hs n (by omega) (by omega)
 have h2 := (h1.give1 (updA_self _ _ _) hs (by show 0 < f.cnt - n; omega) (by show needN f.data.length <= f.cnt - n - 1; omega)).2
 rw [cuts_slot f n _ (by show f.cnt - n - 1 < f.cnt - n; omega), show (f.cuts n).cnt - 1 = f.cnt - 1 - n by show f.cnt - n - 1 = _; omega] at h2
 exact h2
theorem GoodX.fewer (h : GoodX sk N ino Pg fs) (hf : fs i = some f) (hs : sk i) (z : Nat) (hz : z <= f.data.length) : GoodX sk N ino Pg (updA fs i (some { f with data := f.data.take z })) := by
 have hok := h.file i f hf
 have hl : (f.data.take z).length = z := by rw [List.length_take]; omega
 refine h.pages hf hs h.len (fun _ _ => rfl) _ (by rw [hl]; have := hok.size; omega) (by rw [hl]; exact Nat.le_trans (need_mono hz hok.size) hok.need) (fun k hk => ?_)
 rw [hl] at hk
 rw [getD_take _ _ _ hk]
 exact h.data i f hf k (by omega)
end
end
end Go.Proofs.YtehkeadpgedolaaGreatDoor
