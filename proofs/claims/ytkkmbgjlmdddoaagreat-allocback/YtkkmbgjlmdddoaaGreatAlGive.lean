/- taken, Used, UsedInode; give, GivePage, GiveInode; answer; Table. -/
import Derived.Test.YtkkmbgjlmdddoaaGreatAlWrite
namespace Go.Proofs.YtkkmbgjlmdddoaaGreat
open Go.RowKit
set_option maxRecDepth 100000 in
theorem aanswer_any (n e0 : Int) (w : World) : Calls Tryz.prog 64 #[.int .i64 n, .int .i64 e0] w fun e w' => e = .returned (.tuple #[.int .i64 (if e0 = 0 then n else 0), .int .i64 e0]) ∧ w' = w := by
  by_cases h : e0 = 0
  · subst h
    rw [if_pos rfl]
    go_enter Tryz.func64, Tryz.ntmps64
    go_wp2
    go_returns
    exact ⟨rfl, rfl⟩
  · rw [if_neg h]
    have h1 : (e0 != 0) = true := by simp [h]
    have h2 : (e0 == 0) = false := beq_eq_false_iff_ne.2 h
    go_enter Tryz.func64, Tryz.ntmps64
    go_wp2
    go_returns
    exact ⟨rfl, rfl⟩
section
variable {w : World} {m c ino : Nat} {F : Nat → Prop} {size N : Nat} {Pg Cm : Nat → List UInt8} {D : Int → Bool} {o u : Nat}
/-- Is n taken? -/
def takenP (L : List UInt8) (a z : Nat) (n : Int) : Bool := if (a : Int) ≤ n ∧ n < (z : Int) then bitL L n.toNat else decide (0 ≤ n ∧ n < (a : Int))
set_option maxRecDepth 100000 in
set_option maxHeartbeats 1000000 in
theorem ataken_any (h : mapB w m c ino) (hmF : ¬ F m) (b a z x y : Nat) (n : Int) (hb : b < N) (hz : z ≤ 4096) (hu : u < 1000000) (hp : Pc w c F size N Pg Cm D o u) :
    Calls Tryz.prog 91 #[.pointer (some ⟨m, 0, none⟩), numV b a z x y, .int .i64 n] w fun e w' => e = .returned (.bool (takenP (Pg b) a z n)) ∧ Keeps F w w' ∧ Pc w' c F size N Pg Cm D o (u + 1) := by
  obtain ⟨wa, hwa⟩ : ∃ wa, wa = w.alloc (.cells #[.int .i64 b, .int .i64 a, .int .i64 z, .complex .f64 x y] 102) := ⟨_, rfl⟩
  have hb0 : Below w.heap.size w wa := by rw [hwa]; exact (Below.refl _ w).alloc (Nat.le_refl _) _
  have hbl : wa.heap[w.heap.size]? = some (.cells #[.int .i64 b, .int .i64 a, .int .i64 z, .complex .f64 x y] 102 (0, 0)) := by rw [hwa]; exact block_new w _
  have HH := hid (fun W => ahas_any b a z x y n W)
  have HMa := hid (h.below hb0)
  have HPa := hid hp
  have HB0 := hid hb0
  have HBl := hid hbl
  have hlen := hp.len b hb
  have HLen := hid hlen
  have f0 : ∀ (W : World), Below wa.heap.size wa W → W.cell? ⟨w.heap.size, 0, none⟩ = some (.int .i64 b) ∧ W.cell? ⟨w.heap.size, 1, none⟩ = some (.int .i64 a) ∧ W.cell? ⟨w.heap.size, 2, none⟩ = some (.int .i64 z) ∧ W.cell? ⟨w.heap.size, 3, none⟩ = some (.complex .f64 x y) := fun W hW => by
    have hw := below_block hW hbl (lt_of_heap hbl)
    exact ⟨cell_of_block hw 0, cell_of_block hw 1, cell_of_block hw 2, cell_of_block hw 3⟩
  have HC := hid f0
  clear h hp hb0 hbl hlen f0
  unfold numV takenP
  by_cases hin : (a : Int) ≤ n ∧ n < (z : Int)
  · rw [if_pos hin]
    rw [decide_eq_true hin] at HH
    obtain ⟨k, rfl⟩ : ∃ k : Nat, n = (k : Int) := ⟨n.toNat, by omega⟩
    have hk : k < 4096 := by omega
    rw [show ((k : Int)).toNat = k by omega]
    clear hin
    go_enter Tryz.func91, Tryz.ntmps91
    go_wp2_with fail
    rw [← hwa]
    clear hwa
    unfold numV at HH
    refine (HH.out wa).mono ?_
    clear HH
    rintro e w1 ⟨rfl, hb1⟩
    obtain ⟨c0, c1, c2, c3⟩ := HC.out w1 hb1
    have HB1 := hid (HB0.out.trans (hb1.mono HB0.out.size))
    have HBi := hid (abits_any (HMa.out.below hb1) hmF b a z x y hb hu HPa.out HB1.out)
    unfold numV at HBi
    clear hb1
    go_wp2_with fail
    refine HBi.out.mono ?_
    clear HBi
    rintro e w2 ⟨g, cap, rfl, hcap, hg, hrow, hK2, hW2⟩
    have HIs := hid (isSet_any g k cap (Pg b) w2 hrow.1 HLen.out hk)
    have HK2 := hid ((Keeps.of_below HB1.out).trans hK2 (fun i e => .inl e))
    have HW2 := hid hW2
    clear hrow hK2 hW2 c0 c1 c2 c3
    go_wp2_with fail
    refine HIs.out.mono ?_
    clear HIs
    rintro e w3 ⟨rfl, h3⟩
    obtain rfl := h3.symm
    clear h3
    go_wp2
    go_ret
    exact ⟨rfl, HK2.out, HW2.out _ (Keeps.refl _ _)⟩
  · rw [if_neg hin]
    rw [decide_eq_false hin] at HH
    clear hin
    unfold numV at HH
    by_cases h1 : 0 ≤ n
    · by_cases h2 : n < (a : Int)
      · rw [decide_eq_true ⟨h1, h2⟩]
        have h1' : decide (0 ≤ n) = true := decide_eq_true h1
        go_enter Tryz.func91, Tryz.ntmps91
        go_wp2_with fail
        rw [← hwa]
        clear hwa
        refine (HH.out wa).mono ?_
        clear HH
        rintro e w1 ⟨rfl, hb1⟩
        obtain ⟨c0, c1, c2, c3⟩ := HC.out w1 hb1
        have HB1 := hid (HB0.out.trans (hb1.mono HB0.out.size))
        clear hb1
        go_wp2
        go_ret
        exact ⟨rfl, Keeps.of_below HB1.out, (HPa.out.below HB1.out).more (Nat.le_refl _) (Nat.le_succ _)⟩
      · rw [decide_eq_false (fun h => h2 h.2)]
        have h1' : decide (0 ≤ n) = true := decide_eq_true h1
        have h2' : (a : Int) ≤ n := by omega
        go_enter Tryz.func91, Tryz.ntmps91
        go_wp2_with fail
        rw [← hwa]
        clear hwa
        refine (HH.out wa).mono ?_
        clear HH
        rintro e w1 ⟨rfl, hb1⟩
        obtain ⟨c0, c1, c2, c3⟩ := HC.out w1 hb1
        have HB1 := hid (HB0.out.trans (hb1.mono HB0.out.size))
        clear hb1
        go_wp2
        go_ret
        refine ⟨?_, Keeps.of_below HB1.out, (HPa.out.below HB1.out).more (Nat.le_refl _) (Nat.le_succ _)⟩
        first | rfl | (simp [h2]; done) | (simp [h2]; omega)
    · rw [decide_eq_false (fun h => h1 h.1)]
      go_enter Tryz.func91, Tryz.ntmps91
      go_wp2_with fail
      rw [← hwa]
      clear hwa
      refine (HH.out wa).mono ?_
      clear HH
      rintro e w1 ⟨rfl, hb1⟩
      obtain ⟨c0, c1, c2, c3⟩ := HC.out w1 hb1
      have HB1 := hid (HB0.out.trans (hb1.mono HB0.out.size))
      clear hb1
      go_wp2
      go_ret
      exact ⟨rfl, Keeps.of_below HB1.out, (HPa.out.below HB1.out).more (Nat.le_refl _) (Nat.le_succ _)⟩
set_option maxRecDepth 100000 in
set_option maxHeartbeats 1000000 in
theorem aUsed_any (h : mapB w m c ino) (hmF : ¬ F m) (hi : ino ≤ 512) (n : Int) (hN : 3 ≤ N) (hu : u < 1000000) (hp : Pc w c F size N Pg Cm D o u) :
    Calls Tryz.prog 49 #[.pointer (some ⟨m, 0, none⟩), .int .i64 n] w fun e w' => e = .returned (.bool (takenP (Pg 2) (3 + ino / 8) N n)) ∧ Keeps F w w' ∧ Pc w' c F size N Pg Cm D o (u + 1) := by
  have hN4 := hp.four
  have HO := hid (amofPages_any h hi hp)
  have HT := hid (fun W (hW : Below w.heap.size w W) => ataken_any (h.below hW) hmF 2 (3 + ino / 8) N oneF 0 n (by omega) hN4 hu (hp.below hW))
  generalize takenP (Pg 2) (3 + ino / 8) N n = t at *
  clear h hp hN4
  go_enter Tryz.func49, Tryz.ntmps49
  go_wp2_with fail
  refine HO.out.mono ?_
  clear HO
  rintro e w1 ⟨rfl, hb1⟩
  have HT1 := hid (HT.out w1 hb1)
  have HK1 : Hid (Keeps F w w1) := Keeps.of_below hb1
  clear HT hb1
  go_wp2_with fail
  refine HT1.out.mono ?_
  clear HT1
  rintro e w2 ⟨rfl, hk2, hp2⟩
  have HK2 := hid (HK1.out.trans hk2 (fun i e => .inl e))
  have HP2 := hid hp2
  clear hk2 hp2
  go_wp2
  go_ret
  exact ⟨rfl, HK2.out, HP2.out⟩
set_option maxRecDepth 100000 in
set_option maxHeartbeats 1000000 in
theorem aUsedInode_any (h : mapB w m c ino) (hmF : ¬ F m) (hi : ino ≤ 512) (n : Int) (hN : 3 ≤ N) (hu : u < 1000000) (hp : Pc w c F size N Pg Cm D o u) :
    Calls Tryz.prog 51 #[.pointer (some ⟨m, 0, none⟩), .int .i64 n] w fun e w' => e = .returned (.bool (takenP (Pg 1) 1 ino n)) ∧ Keeps F w w' ∧ Pc w' c F size N Pg Cm D o (u + 1) := by
  have HO := hid (amofInodes_any h)
  have HT := hid (fun W (hW : Below w.heap.size w W) => ataken_any (h.below hW) hmF 1 1 ino 0 oneF n (by omega) (by omega) hu (hp.below hW))
  generalize takenP (Pg 1) 1 ino n = t at *
  clear h hp
  go_enter Tryz.func51, Tryz.ntmps51
  go_wp2_with fail
  refine HO.out.mono ?_
  clear HO
  rintro e w1 ⟨rfl, hb1⟩
  have HT1 := hid (HT.out w1 hb1)
  have HK1 : Hid (Keeps F w w1) := Keeps.of_below hb1
  clear HT hb1
  go_wp2_with fail
  refine HT1.out.mono ?_
  clear HT1
  rintro e w2 ⟨rfl, hk2, hp2⟩
  have HK2 := hid (HK1.out.trans hk2 (fun i e => .inl e))
  have HP2 := hid hp2
  clear hk2 hp2
  go_wp2
  go_ret
  exact ⟨rfl, HK2.out, HP2.out⟩
set_option maxRecDepth 100000 in
theorem aTable_any (h : mapB w m c ino) (hi : ino ≤ 512) (n : Int) : Calls Tryz.prog 15 #[.pointer (some ⟨m, 0, none⟩), .int .i64 n] w fun e w' => e = .returned (if 0 ≤ n ∧ n < (ino : Int) then .tuple #[.int .i64 (3 + n / 8), .int .i64 (n % 8 * 64), .int .i64 0] else .tuple #[.int .i64 0, .int .i64 0, .int .i64 2]) ∧ w' = w := by
  have c1 : w.cell? ⟨m, 1, none⟩ = some (.int .i64 ino) := cell_of_block h 1
  clear h
  by_cases hin : 0 ≤ n ∧ n < (ino : Int)
  · rw [if_pos hin]
    obtain ⟨h0, h1⟩ := hin
    go_enter Tryz.func15, Tryz.ntmps15
    go_wp2
    go_returns
    exact ⟨rfl, rfl⟩
  · rw [if_neg hin]
    by_cases h0 : n < 0
    · go_enter Tryz.func15, Tryz.ntmps15
      go_wp2
      go_returns
      exact ⟨rfl, rfl⟩
    · have h1 : (ino : Int) ≤ n := by omega
      have h2 : ¬ (n < 0) := h0
      clear hin
      go_enter Tryz.func15, Tryz.ntmps15
      go_wp2
      go_returns
      exact ⟨rfl, rfl⟩
end
end Go.Proofs.YtkkmbgjlmdddoaaGreat
