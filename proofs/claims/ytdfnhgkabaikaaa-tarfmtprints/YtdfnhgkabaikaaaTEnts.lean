/- entries: the iterator. -/
import Derived.RangeFuncNested
import Derived.RangeFuncBound
import Derived.RangeFuncCalls
import Derived.RangeFuncLeaves
import Derived.Shelf.Abstract
import Derived.Shelf.RegionOpen
import Derived.WalkKit
import Derived.OwnWalkIn
import Derived.TacticsInMore
import Derived.LoopNIn
import Derived.LoopIn
import Derived.Scope
import Derived.Sort.CutIn
import Derived.Test.YtdfnhgkabaikaaaTRead
namespace Go.Proofs.Ytdfnhgkabaikaaa
open Go.RowKit Go.Shelf
attribute [local go_sem] Oper.semAt_some
theorem noGoto_normal {Q : Exit → Act → World → Prop} {a : Act} {w : World} (h : Q .normal a w) : Exit.noGoto Q .normal a w := h
theorem readP_n {bs : List UInt8} {en : EN} {n : Nat} (h : readP bs = some (en, n)) : 512 ≤ n ∧ n ≤ bs.length ∧ rightE en = 0 := by
  unfold readP at h
  split at h
  · cases h
  · split at h
    · cases h
    · split at h
      · cases h
      · split at h
        · cases h
        · split at h
          · cases h
          · rename_i h1 h2 h3 h4 h5
            injection h with h; injection h with h6 h7; subst h6 h7
            exact ⟨by omega, by omega, by simpa using h5⟩
/-- What the iterator comes to. -/
def EntsR (J : List (EN × Value) → World → Prop) (Jx : Nat → World → Prop) (W' : World) : Option (List EN) × Nat → Prop
  | (some es, _) => ∃ acc, acc.map Prod.fst = es ∧ J acc W'
  | (none, at_) => Jx at_ W'
def EntsTo (bs : List UInt8) (J : List (EN × Value) → World → Prop) (Jx : Nat → World → Prop) (W' : World) : Prop := EntsR J Jx W' (parseF 118 bs 0 [])
set_option maxRecDepth 100000 in
set_option maxHeartbeats 4000000 in
theorem entries1_in (n : Nat) (hn : 2 ≤ n) (l bb : Nat) (bs : List UInt8) (ao : Option Addr) (cap : Nat) (hlen : bs.length ≤ 60000) (J : List (EN × Value) → World → Prop) (Jx : Nat → World → Prop)
    (hJ : ∀ acc W W', J acc W → Below W.heap.size W W' → J acc W') (hJb : ∀ acc W, J acc W → W.cell? ⟨bb, 0, none⟩ = some (.slice ao bs.length cap) ∧ Rd W (.slice ao bs.length cap) bs) (hJx : ∀ a W W', Jx a W → Below W.heap.size W W' → Jx a W')
    (hY : ∀ acc (x : EN) (dv : Value) (at_ : Nat) K W, J acc W → acc.length ≤ 117 → rightE x = 0 → DataU W K dv x.data → at_ ≤ 60000 → YieldAt Fence.wide (n - 1) Try.prog l #[.int .i64 (at_ : Int), enV x dv] W fun e W' => e = .returned (.bool true) ∧ J (acc ++ [(x, dv)]) W')
    (hN : ∀ acc (at_ : Nat) W, J acc W → at_ ≤ 60000 → YieldAt Fence.wide (n - 1) Try.prog l #[.int .i64 (at_ : Int), enV zeroE (.slice none 0 0)] W fun e W' => e = .returned (.bool false) ∧ Jx at_ W')
    (W : World) (h0 : J [] W) :
    CallsIn Fence.wide n Try.prog 38 #[.func (.yield l) #[] #[], .pointer (some ⟨bb, 0, none⟩)] W fun e W' => (∃ v, e = .returned v) ∧ EntsTo bs J Jx W' := by
  have HY := hid hY
  have HN := hid hN
  have HJ := hid hJ
  have HJx := hid hJx
  have HJb := hid hJb
  have HLen := hid hlen
  have HJ0 := hid h0
  clear hY hN hJ hJx hJb h0 hlen
  have hf9 : Fence.wide.fn 39 := trivial
  have hf10 : Fence.wide.fn 40 := trivial
  have h1n : 1 ≤ n := by omega
  refine callsIn_of_wp Try.func38 rfl trivial ?_ rfl
  simp only [Try.ntmps38, List.size_toArray, List.length_cons, List.length_nil, Nat.reduceAdd, Nat.reduceSub, Array.replicate_succ, Array.replicate_zero, List.push_toArray, List.append_toArray, List.nil_append, List.cons_append]
  gi_wp2
  gi_loopw [3] (fun i wr => ∃ (at_ k : Nat) (acc : List (EN × Value)), i = .int .i64 at_ ∧ at_ ≤ bs.length ∧ Hid (bs.length - at_ < 512 * k ∧ acc.length * 512 ≤ at_ ∧ parseF k (bs.drop at_) at_ (acc.map Prod.fst) = parseF 118 bs 0 []) ∧ Hid (J acc wr)) (fun i _ => bs.length - (intOf i).toNat)
  case atStart => exact ⟨0, 118, [], rfl, by omega, ⟨by have := HLen.out; omega, by simp, rfl⟩, HJ0⟩
  case round =>
    obtain ⟨at_, k, acc, rfl, hat, HP, HJa⟩ := hrel
    clear HJ0
    obtain ⟨cb, hrd⟩ := HJb.out acc wr HJa.out
    obtain ⟨a', hsl0, hr2⟩ := run_slice_from hrd at_ hat
    have hsl := hsl0 wr
    have HRd := hid hrd
    have HSl := hid hsl0
    have HE := hid (isEnd_any _ _ wr hr2)
    have HR := hid (fun W' hB => read_any (bs.drop at_) _ W' (hr2.up (w' := W') hB) (by rw [List.length_drop]; have := HLen.out; omega))
    clear hrd hsl0 hr2
    have hat6 : at_ ≤ 60000 := by have := HLen.out; omega
    by_cases hend : endP (bs.drop at_) = true
    · rw [hend] at HE
      have HRs : Hid (EntsTo bs J Jx wr) := by
        obtain ⟨p1, p2, p3⟩ := HP.out
        obtain ⟨k', rfl⟩ : ∃ k', k = k' + 1 := ⟨k - 1, by omega⟩
        unfold Hid EntsTo
        rw [← p3]
        unfold parseF
        rw [if_pos hend]
        exact ⟨acc, rfl, HJa.out⟩
      clear hend
      gi_wp2_with (gi_at_call 39; refine (callsIn_wide.2 HE.out).mono ?_; rintro e w9 ⟨rfl, h9⟩; obtain rfl := h9.symm; clear h9)
      go_end0
      exact ⟨⟨_, rfl⟩, HRs.out⟩
    · have hend' : endP (bs.drop at_) = false := by simpa using hend
      rw [hend'] at HE
      clear hend
      gi_wp2_with (gi_at_call 39; refine (callsIn_wide.2 HE.out).mono ?_; rintro e w9 ⟨rfl, h9⟩; obtain rfl := h9.symm; clear h9)
      refine (callsIn_wide.2 (HR.out wr (Below.refl _ _))).mono ?_
      rintro e w2 ⟨hB2, hm⟩
      clear HR HE
      cases hrp : readP (bs.drop at_) with
      | none =>
        rw [hrp] at hm
        obtain rfl := hm
        have HRs : Hid (∀ V, Jx at_ V → EntsTo bs J Jx V) := fun V hV => by
          obtain ⟨p1, p2, p3⟩ := HP.out
          obtain ⟨k', rfl⟩ : ∃ k', k = k' + 1 := ⟨k - 1, by omega⟩
          unfold EntsTo
          rw [← p3]
          unfold parseF
          rw [if_neg (by rw [hend']; simp), hrp]
          exact hV
        clear hrp hend'
        simp only [enV, zeroE]
        have hbx := block_new w2 (.cells #[str [], .int .i64 0, .int .i64 0, str [], .slice none 0 0] 31)
        have hBx := (Below.refl w2.heap.size w2).alloc (Nat.le_refl _) (.cells #[str [], .int .i64 0, .int .i64 0, str [], .slice none 0 0] 31)
        gi_upto_region 3 with fail
        have HJ2 := hid (HJ.out _ _ _ (HJ.out _ _ _ HJa.out hB2) hBx)
        clear hBx cb hsl
        generalize w2.alloc (.cells #[str [], .int .i64 0, .int .i64 0, str [], .slice none 0 0] 31) = w3 at *
        have d0 : w3.cell? ⟨w2.heap.size, 0, none⟩ = some (str []) := cell_of_block hbx 0
        have d1 : w3.cell? ⟨w2.heap.size, 1, none⟩ = some (.int .i64 0) := cell_of_block hbx 1
        have d2 : w3.cell? ⟨w2.heap.size, 2, none⟩ = some (.int .i64 0) := cell_of_block hbx 2
        have d3 : w3.cell? ⟨w2.heap.size, 3, none⟩ = some (str []) := cell_of_block hbx 3
        have d4 : w3.cell? ⟨w2.heap.size, 4, none⟩ = some (.slice none 0 0) := cell_of_block hbx 4
        obtain ⟨fn, tmps, assign, body, hy, hR⟩ := HN.out acc at_ w3 HJ2.out hat6
        simp only [enV, zeroE] at hy
        have HR := hid hR
        clear hbx hR HY HN
        gi_wp2
        refine HR.out.mono ?_
        rintro e W3 ⟨rfl, hX⟩
        have HX := hid hX
        clear hX HR hy
        gi_wp2
        refine bodyPost_ret (results_none (by rfl) _ _ _) rfl ?_
        exact ⟨⟨_, rfl⟩, HRs.out _ HX.out⟩
      | some x =>
        obtain ⟨en, m⟩ := x
        rw [hrp] at hm
        obtain ⟨dv, rfl, hdu⟩ := hm
        obtain ⟨da, dn, dc, rfl⟩ : ∃ da dn dc, dv = .slice da dn dc := by
          rcases hdu with ⟨rfl, _⟩ | ⟨g, cp, C, fr, rfl, _⟩
          · exact ⟨_, _, _, rfl⟩
          · exact ⟨_, _, _, rfl⟩
        obtain ⟨q1, q2, q3⟩ := readP_n hrp
        rw [List.length_drop] at q2
        have hm0 : ¬ ((m : Int) = 0) := by omega
        have hm2 : ((m : Int) == 0) = false := beq_false_of_ne hm0
        have hm1 : m ≤ 60000 := by have := HLen.out; omega
        have HAl : Hid (acc.length ≤ 117) := by have := HP.out.2.1; have := HLen.out; unfold Hid; omega
        have HP2 : Hid (bs.length - (at_ + m) < 512 * (k - 1) ∧ (acc ++ [(en, Value.slice da dn dc)]).length * 512 ≤ at_ + m ∧ parseF (k - 1) (bs.drop (at_ + m)) (at_ + m) ((acc ++ [(en, Value.slice da dn dc)]).map Prod.fst) = parseF 118 bs 0 []) := by
          obtain ⟨p1, p2, p3⟩ := HP.out
          have h117 := HAl.out
          obtain ⟨k', rfl⟩ : ∃ k', k = k' + 1 := ⟨k - 1, by omega⟩
          refine ⟨by omega, by rw [List.length_append]; simp; omega, ?_⟩
          rw [← p3]
          conv => rhs; unfold parseF
          rw [if_neg (by rw [hend']; simp), hrp]
          simp only
          rw [if_neg (by rw [List.length_map]; omega), List.drop_drop, List.map_append]
          rfl
        have HDu := hid hdu
        have HQ3 := hid q3
        have q2' : at_ + m ≤ bs.length := by omega
        clear hrp hend' HP hdu q3 q2
        have hbx := block_new w2 (.cells #[str en.name, .int .i64 en.kind, .int .i64 en.mode, str en.link, .slice da dn dc] 31)
        have hBx := (Below.refl w2.heap.size w2).alloc (Nat.le_refl _) (.cells #[str en.name, .int .i64 en.kind, .int .i64 en.mode, str en.link, .slice da dn dc] 31)
        gi_upto_region 3 with fail
        have HJ2 := hid (HJ.out _ _ _ (HJ.out _ _ _ HJa.out hB2) hBx)
        have HD2 := hid (HDu.out.up hBx)
        clear hBx cb hsl HDu
        generalize w2.alloc (.cells #[str en.name, .int .i64 en.kind, .int .i64 en.mode, str en.link, .slice da dn dc] 31) = w3 at *
        have d0 : w3.cell? ⟨w2.heap.size, 0, none⟩ = some (str en.name) := cell_of_block hbx 0
        have d1 : w3.cell? ⟨w2.heap.size, 1, none⟩ = some (.int .i64 en.kind) := cell_of_block hbx 1
        have d2 : w3.cell? ⟨w2.heap.size, 2, none⟩ = some (.int .i64 en.mode) := cell_of_block hbx 2
        have d3 : w3.cell? ⟨w2.heap.size, 3, none⟩ = some (str en.link) := cell_of_block hbx 3
        have d4 : w3.cell? ⟨w2.heap.size, 4, none⟩ = some (.slice da dn dc) := cell_of_block hbx 4
        obtain ⟨fn, tmps, assign, body, hy, hR⟩ := HY.out acc en (.slice da dn dc) at_ _ w3 HJ2.out HAl.out HQ3.out HD2.out hat6
        have HR := hid hR
        clear hbx hR HY HN HD2 HQ3 HAl
        gi_wp2
        refine HR.out.mono ?_
        rintro e W3 ⟨rfl, hX⟩
        have HX := hid hX
        clear hX HR hy
        gi_wp2
        go_roundw
        case rel => exact ⟨at_ + m, k - 1, acc ++ [(en, Value.slice da dn dc)], by go_num, q2', HP2, HX⟩
        case measure => simp [intOf]; omega
end Go.Proofs.Ytdfnhgkabaikaaa
