/- Several of my texts in one: AlGive, AlTake, AlMake, AlEmpty, AlMade, AlOpen. -/
import Derived.Test.YtkkmbgjlmdddoabGreatAlWrite
import Derived.Test.YtkkmbgjlmdddoabGreatWRef
/- taken, Used, UsedInode; give, GivePage, GiveInode; answer; Table. -/
namespace Go.Proofs.YtkkmbgjlmdddoabGreat
open Go.RowKit
set_option maxRecDepth 100000 in
theorem aanswer_any (n e0 : Int) (w : World) : Calls Tryz.prog 33 #[.int .i64 n, .int .i64 e0] w fun e w' => e = .returned (.tuple #[.int .i64 (if e0 = 0 then n else 0), .int .i64 e0]) ∧ w' = w := by
  by_cases h : e0 = 0
  · subst h
    rw [if_pos rfl]
    go_enter Tryz.func33, Tryz.ntmps33
    go_wp2
    go_returns
    exact ⟨rfl, rfl⟩
  · rw [if_neg h]
    have h1 : (e0 != 0) = true := by simp [h]
    have h2 : (e0 == 0) = false := beq_eq_false_iff_ne.2 h
    go_enter Tryz.func33, Tryz.ntmps33
    go_wp2
    go_returns
    exact ⟨rfl, rfl⟩
section
variable {w : World} {m c ino : Nat} {F : Nat → Prop} {size N : Nat} {Pg Cm : Nat → List UInt8} {D : Int → Bool} {o u : Nat}
/-- Is n taken? -/
def takenP (L : List UInt8) (a z : Nat) (n : Int) : Bool := if (a : Int) ≤ n ∧ n < (z : Int) then bitL L n.toNat else decide (0 ≤ n ∧ n < (a : Int))
set_option maxRecDepth 100000 in
set_option maxHeartbeats 1000000 in
theorem ataken_any (h : mapB w m c ino) (hmF : ¬ F m) (b a z x y : Nat) (n : Int) (hb : b < N) (hz : z ≤ 4096) (hu : u < 1000000) (hp : Pc w c F size N Pg Cm D o u) :
    Calls Tryz.prog 39 #[.pointer (some ⟨m, 0, none⟩), numV b a z x y, .int .i64 n] w fun e w' => e = .returned (.bool (takenP (Pg b) a z n)) ∧ Keeps F w w' ∧ Pc w' c F size N Pg Cm D o (u + 1) := by
  obtain ⟨wa, hwa⟩ : ∃ wa, wa = w.alloc (.cells #[.int .i64 b, .int .i64 a, .int .i64 z, .complex .f64 x y] 68) := ⟨_, rfl⟩
  have hb0 : Below w.heap.size w wa := by rw [hwa]; exact (Below.refl _ w).alloc (Nat.le_refl _) _
  have hbl : wa.heap[w.heap.size]? = some (.cells #[.int .i64 b, .int .i64 a, .int .i64 z, .complex .f64 x y] 68 (0, 0)) := by rw [hwa]; exact block_new w _
  have HH := hid (fun W => ahas_any b a z x y n W)
  have HMa := hid (h.below hb0)
  have HPa := hid hp
  have HB0 := hid hb0
  have HBl := hid hbl
  have hlen := hp.len b hb
  have HLen := hid hlen
  have f0 : ∀ (W : World), Below wa.heap.size wa W → W.cell? ⟨w.heap.size, 0, none⟩ = some (.int .i64 b) ∧ W.cell? ⟨w.heap.size, 1, none⟩ = some (.int .i64 a) ∧ W.cell? ⟨w.heap.size, 2, none⟩ = some (.int .i64 z) ∧ W.cell? ⟨w.heap.size, 3, none⟩ = some (.complex .f64 x y) := fun W hW => by
    have hw := below_block hW hbl (lt_of_heap hbl)
    exact ⟨cell_of_block hw 0, cell_of_block hw 1, cell_of_block hw 2, cell_of_block hw 3⟩
  have HC := hid f0
  clear h hp hb0 hbl hlen f0
  unfold numV takenP
  by_cases hin : (a : Int) ≤ n ∧ n < (z : Int)
  · rw [if_pos hin]
    rw [decide_eq_true hin] at HH
    obtain ⟨k, rfl⟩ : ∃ k : Nat, n = (k : Int) := ⟨n.toNat, by omega⟩
    have hk : k < 4096 := by omega
    rw [show ((k : Int)).toNat = k by omega]
    clear hin
    go_enter Tryz.func39, Tryz.ntmps39
    go_wp2_with fail
    rw [← hwa]
    clear hwa
    unfold numV at HH
    refine (HH.out wa).mono ?_
    clear HH
    rintro e w1 ⟨rfl, hb1⟩
    obtain ⟨c0, c1, c2, c3⟩ := HC.out w1 hb1
    have HB1 := hid (HB0.out.trans (hb1.mono HB0.out.size))
    have HBi := hid (abits_any (HMa.out.below hb1) hmF b a z x y hb hu HPa.out HB1.out)
    unfold numV at HBi
    clear hb1
    go_wp2_with fail
    refine HBi.out.mono ?_
    clear HBi
    rintro e w2 ⟨g, cap, rfl, hcap, hg, hrow, hK2, hW2⟩
    have HIs := hid (isSet_any g k cap (Pg b) w2 hrow.1 HLen.out hk)
    have HK2 := hid ((Keeps.of_below HB1.out).trans hK2 (fun i e => .inl e))
    have HW2 := hid hW2
    clear hrow hK2 hW2 c0 c1 c2 c3
    go_wp2_with fail
    refine HIs.out.mono ?_
    clear HIs
    rintro e w3 ⟨rfl, h3⟩
    obtain rfl := h3.symm
    clear h3
    go_wp2
    go_ret
    exact ⟨rfl, HK2.out, HW2.out _ (Keeps.refl _ _)⟩
  · rw [if_neg hin]
    rw [decide_eq_false hin] at HH
    clear hin
    unfold numV at HH
    by_cases h1 : 0 ≤ n
    · by_cases h2 : n < (a : Int)
      · rw [decide_eq_true ⟨h1, h2⟩]
        have h1' : decide (0 ≤ n) = true := decide_eq_true h1
        go_enter Tryz.func39, Tryz.ntmps39
        go_wp2_with fail
        rw [← hwa]
        clear hwa
        refine (HH.out wa).mono ?_
        clear HH
        rintro e w1 ⟨rfl, hb1⟩
        obtain ⟨c0, c1, c2, c3⟩ := HC.out w1 hb1
        have HB1 := hid (HB0.out.trans (hb1.mono HB0.out.size))
        clear hb1
        go_wp2
        go_ret
        exact ⟨rfl, Keeps.of_below HB1.out, (HPa.out.below HB1.out).more (Nat.le_refl _) (Nat.le_succ _)⟩
      · rw [decide_eq_false (fun h => h2 h.2)]
        have h1' : decide (0 ≤ n) = true := decide_eq_true h1
        have h2' : (a : Int) ≤ n := by omega
        go_enter Tryz.func39, Tryz.ntmps39
        go_wp2_with fail
        rw [← hwa]
        clear hwa
        refine (HH.out wa).mono ?_
        clear HH
        rintro e w1 ⟨rfl, hb1⟩
        obtain ⟨c0, c1, c2, c3⟩ := HC.out w1 hb1
        have HB1 := hid (HB0.out.trans (hb1.mono HB0.out.size))
        clear hb1
        go_wp2
        go_ret
        refine ⟨?_, Keeps.of_below HB1.out, (HPa.out.below HB1.out).more (Nat.le_refl _) (Nat.le_succ _)⟩
        first | rfl | (simp [h2]; done) | (simp [h2]; omega)
    · rw [decide_eq_false (fun h => h1 h.1)]
      go_enter Tryz.func39, Tryz.ntmps39
      go_wp2_with fail
      rw [← hwa]
      clear hwa
      refine (HH.out wa).mono ?_
      clear HH
      rintro e w1 ⟨rfl, hb1⟩
      obtain ⟨c0, c1, c2, c3⟩ := HC.out w1 hb1
      have HB1 := hid (HB0.out.trans (hb1.mono HB0.out.size))
      clear hb1
      go_wp2
      go_ret
      exact ⟨rfl, Keeps.of_below HB1.out, (HPa.out.below HB1.out).more (Nat.le_refl _) (Nat.le_succ _)⟩
set_option maxRecDepth 100000 in
set_option maxHeartbeats 1000000 in
theorem aUsed_any (h : mapB w m c ino) (hmF : ¬ F m) (hi : ino ≤ 512) (n : Int) (hN : 3 ≤ N) (hu : u < 1000000) (hp : Pc w c F size N Pg Cm D o u) :
    Calls Tryz.prog 14 #[.pointer (some ⟨m, 0, none⟩), .int .i64 n] w fun e w' => e = .returned (.bool (takenP (Pg 2) (3 + ino / 8) N n)) ∧ Keeps F w w' ∧ Pc w' c F size N Pg Cm D o (u + 1) := by
  have hN4 := hp.four
  have HO := hid (amofPages_any h hi hp)
  have HT := hid (fun W (hW : Below w.heap.size w W) => ataken_any (h.below hW) hmF 2 (3 + ino / 8) N oneF 0 n (by omega) hN4 hu (hp.below hW))
  generalize takenP (Pg 2) (3 + ino / 8) N n = t at *
  clear h hp hN4
  go_enter Tryz.func14, Tryz.ntmps14
  go_wp2_with fail
  refine HO.out.mono ?_
  clear HO
  rintro e w1 ⟨rfl, hb1⟩
  have HT1 := hid (HT.out w1 hb1)
  have HK1 : Hid (Keeps F w w1) := Keeps.of_below hb1
  clear HT hb1
  go_wp2_with fail
  refine HT1.out.mono ?_
  clear HT1
  rintro e w2 ⟨rfl, hk2, hp2⟩
  have HK2 := hid (HK1.out.trans hk2 (fun i e => .inl e))
  have HP2 := hid hp2
  clear hk2 hp2
  go_wp2
  go_ret
  exact ⟨rfl, HK2.out, HP2.out⟩
set_option maxRecDepth 100000 in
set_option maxHeartbeats 1000000 in
theorem aUsedInode_any (h : mapB w m c ino) (hmF : ¬ F m) (hi : ino ≤ 512) (n : Int) (hN : 3 ≤ N) (hu : u < 1000000) (hp : Pc w c F size N Pg Cm D o u) :
    Calls Tryz.prog 15 #[.pointer (some ⟨m, 0, none⟩), .int .i64 n] w fun e w' => e = .returned (.bool (takenP (Pg 1) 1 ino n)) ∧ Keeps F w w' ∧ Pc w' c F size N Pg Cm D o (u + 1) := by
  have HO := hid (amofInodes_any h)
  have HT := hid (fun W (hW : Below w.heap.size w W) => ataken_any (h.below hW) hmF 1 1 ino 0 oneF n (by omega) (by omega) hu (hp.below hW))
  generalize takenP (Pg 1) 1 ino n = t at *
  clear h hp
  go_enter Tryz.func15, Tryz.ntmps15
  go_wp2_with fail
  refine HO.out.mono ?_
  clear HO
  rintro e w1 ⟨rfl, hb1⟩
  have HT1 := hid (HT.out w1 hb1)
  have HK1 : Hid (Keeps F w w1) := Keeps.of_below hb1
  clear HT hb1
  go_wp2_with fail
  refine HT1.out.mono ?_
  clear HT1
  rintro e w2 ⟨rfl, hk2, hp2⟩
  have HK2 := hid (HK1.out.trans hk2 (fun i e => .inl e))
  have HP2 := hid hp2
  clear hk2 hp2
  go_wp2
  go_ret
  exact ⟨rfl, HK2.out, HP2.out⟩
set_option maxRecDepth 100000 in
theorem aTable_any (h : mapB w m c ino) (hi : ino ≤ 512) (n : Int) : Calls Tryz.prog 9 #[.pointer (some ⟨m, 0, none⟩), .int .i64 n] w fun e w' => e = .returned (if 0 ≤ n ∧ n < (ino : Int) then .tuple #[.int .i64 (3 + n / 8), .int .i64 (n % 8 * 64), .int .i64 0] else .tuple #[.int .i64 0, .int .i64 0, .int .i64 2]) ∧ w' = w := by
  have c1 : w.cell? ⟨m, 1, none⟩ = some (.int .i64 ino) := cell_of_block h 1
  clear h
  by_cases hin : 0 ≤ n ∧ n < (ino : Int)
  · rw [if_pos hin]
    obtain ⟨h0, h1⟩ := hin
    go_enter Tryz.func9, Tryz.ntmps9
    go_wp2
    go_returns
    exact ⟨rfl, rfl⟩
  · rw [if_neg hin]
    by_cases h0 : n < 0
    · go_enter Tryz.func9, Tryz.ntmps9
      go_wp2
      go_returns
      exact ⟨rfl, rfl⟩
    · have h1 : (ino : Int) ≤ n := by omega
      have h2 : ¬ (n < 0) := h0
      clear hin
      go_enter Tryz.func9, Tryz.ntmps9
      go_wp2
      go_returns
      exact ⟨rfl, rfl⟩
end
end Go.Proofs.YtkkmbgjlmdddoabGreat
/- give, GivePage, GiveInode. -/
namespace Go.Proofs.YtkkmbgjlmdddoabGreat
open Go.RowKit
section
variable {w : World} {m c ino : Nat} {F : Nat → Prop} {size N : Nat} {Pg Cm : Nat → List UInt8} {D : Int → Bool} {o u : Nat}
theorem rowU.wpg {w : World} {g : Nat} {l : List UInt8} (h : rowU w g l) (hl : l.length = 512) (b cap : Nat) (hb : b < N) (hF : ¬ F g) (hn : ¬ F w.heap.size) :
    WPgs (w.alloc (.cells #[.int .i64 b, .slice (some ⟨g, 0, none⟩) 512 cap] 63)) w.heap.size [⟨b, g, cap, l⟩] F N := by
  have hbl := block_new w (.cells #[.int .i64 b, .slice (some ⟨g, 0, none⟩) 512 cap] 63)
  have hb0 : Below w.heap.size w (w.alloc (.cells #[.int .i64 b, .slice (some ⟨g, 0, none⟩) 512 cap] 63)) := (Below.refl _ w).alloc (Nat.le_refl _) _
  refine ⟨fun i hi => ?_, fun _ => hn, fun p hp => ?_⟩
  · obtain rfl : i = 0 := by simp at hi; omega
    exact ⟨cell_of_block hbl 0, cell_of_block hbl 1⟩
  · obtain rfl : p = ⟨b, g, cap, l⟩ := by simpa using hp
    exact ⟨hb, hl, (h.below hb0).1, hF⟩
/-- What give tells. -/
def GiveTo (w : World) (c : Nat) (F : Nat → Prop) (size N : Nat) (Pg Cm : Nat → List UInt8) (D : Int → Bool) (o u b a z : Nat) (n : Int) (e : Ending) (w' : World) : Prop :=
  Keeps F w w' ∧ ((¬ ((a : Int) ≤ n ∧ n < (z : Int)) ∧ e = .returned (.int .i64 2) ∧ Pc w' c F size N Pg Cm D o (u + 1)) ∨
    (((a : Int) ≤ n ∧ n < (z : Int)) ∧ bitL (Pg b) n.toNat = false ∧ e = .returned (.int .i64 4) ∧ Pc w' c F size N Pg Cm D o (u + 1)) ∨
    (((a : Int) ≤ n ∧ n < (z : Int)) ∧ bitL (Pg b) n.toNat = true ∧ min size 100 < (dkD N D).length + (if D b then 0 else 1) ∧ e = .returned (.int .i64 7) ∧ Pc w' c F size N Pg Cm D o (u + 1)) ∨
    (((a : Int) ≤ n ∧ n < (z : Int)) ∧ bitL (Pg b) n.toNat = true ∧ (dkD N D).length + (if D b then 0 else 1) ≤ min size 100 ∧ e = .returned (.int .i64 0) ∧ Pc w' c F size N (updP Pg b (flipL (Pg b) n.toNat)) Cm (updT D b) o (u + 1)))
theorem newC_one (D : Int → Bool) (p : WPg) : newC D [p] = (if D (p.n : Int) then 0 else 1) := by
  rw [newC_cons]; rfl
set_option maxRecDepth 100000 in
set_option maxHeartbeats 2000000 in
theorem agive_any (h : mapB w m c ino) (hmF : ¬ F m) (b a z x y : Nat) (n : Int) (hb : b < N) (hz : z ≤ 4096) (hu : u < 1000000) (hp : Pc w c F size N Pg Cm D o u) :
    Calls Tryz.prog 38 #[.pointer (some ⟨m, 0, none⟩), numV b a z x y, .int .i64 n] w (GiveTo w c F size N Pg Cm D o u b a z n) := by
  obtain ⟨wa, hwa⟩ : ∃ wa, wa = w.alloc (.cells #[.int .i64 b, .int .i64 a, .int .i64 z, .complex .f64 x y] 68) := ⟨_, rfl⟩
  have hb0 : Below w.heap.size w wa := by rw [hwa]; exact (Below.refl _ w).alloc (Nat.le_refl _) _
  have hbl : wa.heap[w.heap.size]? = some (.cells #[.int .i64 b, .int .i64 a, .int .i64 z, .complex .f64 x y] 68 (0, 0)) := by rw [hwa]; exact block_new w _
  have HH := hid (fun W => ahas_any b a z x y n W)
  have HMa := hid (h.below hb0)
  have HPa := hid hp
  have HB0 := hid hb0
  have HLen := hid (hp.len b hb)
  have HFl := hid hp.lt
  have HC : Hid (∀ (W : World), Keeps F wa W → W.cell? ⟨w.heap.size, 0, none⟩ = some (.int .i64 b) ∧ W.cell? ⟨w.heap.size, 1, none⟩ = some (.int .i64 a) ∧ W.cell? ⟨w.heap.size, 2, none⟩ = some (.int .i64 z) ∧ W.cell? ⟨w.heap.size, 3, none⟩ = some (.complex .f64 x y)) := fun W hW => by
    have hw := hW.heap hbl (fun hf => Nat.lt_irrefl _ (hp.lt _ hf))
    exact ⟨cell_of_block hw 0, cell_of_block hw 1, cell_of_block hw 2, cell_of_block hw 3⟩
  have HSa : Hid (w.heap.size < wa.heap.size) := lt_of_heap hbl
  clear h hp hb0 hbl
  unfold numV
  unfold numV at HH
  by_cases hin : (a : Int) ≤ n ∧ n < (z : Int)
  · rw [decide_eq_true hin] at HH
    have HIn := hid hin
    obtain ⟨k, rfl⟩ : ∃ k : Nat, n = (k : Int) := ⟨n.toNat, by omega⟩
    have hk : k < 4096 := by omega
    have hkk : ((k : Int)).toNat = k := by omega
    have HKk := hid hkk
    clear hin hkk
    go_enter Tryz.func38, Tryz.ntmps38
    go_wp2_with fail
    rw [← hwa]
    clear hwa
    refine (HH.out wa).mono ?_
    clear HH
    rintro e w1 ⟨rfl, hb1⟩
    obtain ⟨c0, c1, c2, c3⟩ := HC.out w1 (Keeps.of_below hb1)
    have HB1 := hid (HB0.out.trans (hb1.mono HB0.out.size))
    have HBi := hid (abits_any (HMa.out.below hb1) hmF b a z x y hb hu HPa.out HB1.out)
    unfold numV at HBi
    have HKa1 : Hid (Keeps F wa w1) := Keeps.of_below hb1
    have HM1 := hid (HMa.out.below hb1)
    have hs1 := hb1.size
    clear hb1
    go_wp2_with fail
    refine HBi.out.mono ?_
    clear HBi
    rintro e w2 ⟨g, cap, rfl, hcap, hg, hrow, hK2, hW2⟩
    have HRow := hid hrow
    have HIs := hid (isSet_any g k cap (Pg b) w2 hrow.1 HLen.out hk)
    have HKa2 := hid (HKa1.out.trans hK2 (fun i e => .inl e))
    have HK2 := hid ((Keeps.of_below HB1.out).trans hK2 (fun i e => .inl e))
    have HW2 := hid hW2
    have HM2 : Hid (mapB w2 m c ino) := HM1.out.keep hK2 hmF
    have HgF : Hid (¬ F g) := fun hf => by have := HFl.out _ hf; have := HB1.out.size; omega
    have Hgw : Hid (wa.heap.size ≤ g) := Nat.le_trans hs1 hg
    clear hrow hK2 hW2 c0 c1 c2 c3
    cases hbit : bitL (Pg b) k with
    | false =>
      rw [hbit] at HIs
      have HBit := hid hbit
      clear hbit
      go_wp2_with fail
      refine HIs.out.mono ?_
      clear HIs
      rintro e w3 ⟨rfl, h3⟩
      obtain rfl := h3.symm
      clear h3
      go_wp2
      go_ret
      exact ⟨HK2.out, .inr (.inl ⟨HIn.out, by rw [HKk.out]; exact HBit.out, rfl, HW2.out _ (Keeps.refl _ _)⟩)⟩
    | true =>
      rw [hbit] at HIs
      have HBit := hid hbit
      have HFp := hid (flip_any g k cap (Pg b) w2 HRow.out HLen.out hk)
      clear hbit
      go_wp2_with fail
      refine HIs.out.mono ?_
      clear HIs
      rintro e w3 ⟨rfl, h3⟩
      obtain rfl := h3.symm
      clear h3
      go_wp2_with fail
      refine HFp.out.mono ?_
      clear HFp
      rintro e w3 ⟨rfl, hr3, hk3⟩
      have hK3 : Keeps F w w3 := HK2.out.trans hk3 (fun i e => .inr (by have e' : i = g := e; have := HB1.out.size; have := Hgw.out; have := HSa.out; omega))
      have hgF := HgF.out
      have hcl := HC.out w2 HKa2.out
      have d0 : w3.cell? ⟨w.heap.size, 0, none⟩ = some (.int .i64 b) := hk3.cell hcl.1 (show ¬ w.heap.size = g by have := Hgw.out; have := HSa.out; omega)
      have hnF : ¬ F w3.heap.size := fun hf => by have := HFl.out _ hf; have := hK3.size; omega
      have hwp := hr3.wpg (N := N) (F := F) (by rw [length_flipL]; exact HLen.out) b cap hb hgF hnF
      have hb4 : Below w3.heap.size w3 (w3.alloc (.cells #[.int .i64 b, .slice (some ⟨g, 0, none⟩) 512 cap] 63)) := (Below.refl _ w3).alloc (Nat.le_refl _) _
      have hgm : ¬ m = g := fun e => by have h1 := HMa.out.lt; have := Hgw.out; omega
      have hP3 : Pc w3 c F size N Pg Cm D o (u + 1) := HW2.out _ (hk3.mono (fun i e => by have e' : i = g := e; have := Hgw.out; have := HSa.out; omega))
      have HWr := hid (awrite_any ((HM2.out.keep hk3 hgm).below hb4) hmF w3.heap.size [⟨b, g, cap, flipL (Pg b) k⟩] hwp 1 (by simp) (by simp) (hP3.below hb4))
      have HK4 : Hid (Keeps F w (w3.alloc (.cells #[.int .i64 b, .slice (some ⟨g, 0, none⟩) 512 cap] 63))) := hK3.trans (Keeps.of_below hb4 : Keeps (fun _ => False) w3 _) (fun i e => e.elim)
      clear hr3 hk3 hK3 hgF hcl hnF hwp hb4 hgm hP3
      go_wp2_with fail
      refine HWr.out.mono ?_
      clear HWr
      rintro e w5 ⟨hk5, hw5⟩
      have HK5 := hid (HK4.out.trans hk5 (fun i e => .inl e))
      rw [newC_one] at hw5
      rcases hw5 with ⟨hf, rfl, hp5⟩ | ⟨hf, rfl, hp5⟩
      · have HP5 := hid hp5
        have Hf := hid hf
        clear hp5 hf hk5 d0
        go_wp2
        go_ret
        exact ⟨HK5.out, .inr (.inr (.inl ⟨HIn.out, by rw [HKk.out]; exact HBit.out, Hf.out, rfl, HP5.out⟩))⟩
      · have HP5 := hid hp5
        have Hf := hid hf
        clear hp5 hf hk5 d0
        go_wp2
        go_ret
        refine ⟨HK5.out, .inr (.inr (.inr ⟨HIn.out, by rw [HKk.out]; exact HBit.out, Hf.out, rfl, ?_⟩))⟩
        rw [HKk.out]
        exact HP5.out
  · rw [decide_eq_false hin] at HH
    have HIn := hid hin
    clear hin
    go_enter Tryz.func38, Tryz.ntmps38
    go_wp2_with fail
    rw [← hwa]
    clear hwa
    refine (HH.out wa).mono ?_
    clear HH
    rintro e w1 ⟨rfl, hb1⟩
    have HB1 := hid (HB0.out.trans (hb1.mono HB0.out.size))
    clear hb1
    go_wp2
    go_ret
    exact ⟨Keeps.of_below HB1.out, .inl ⟨HIn.out, rfl, (HPa.out.below HB1.out).more (Nat.le_refl _) (Nat.le_succ _)⟩⟩
theorem GiveTo.from {w w0 : World} {b a z : Nat} {n : Int} {e : Ending} {w' : World} (h : GiveTo w c F size N Pg Cm D o u b a z n e w') (k : Keeps F w0 w) : GiveTo w0 c F size N Pg Cm D o u b a z n e w' := ⟨k.trans h.1 (fun _ e => .inl e), h.2⟩
set_option maxRecDepth 100000 in
set_option maxHeartbeats 1000000 in
theorem aGivePage_any (h : mapB w m c ino) (hmF : ¬ F m) (hi : ino ≤ 512) (n : Int) (hN : 3 ≤ N) (hu : u < 1000000) (hp : Pc w c F size N Pg Cm D o u) :
    Calls Tryz.prog 12 #[.pointer (some ⟨m, 0, none⟩), .int .i64 n] w (GiveTo w c F size N Pg Cm D o u 2 (3 + ino / 8) N n) := by
  have hN4 := hp.four
  have HO := hid (amofPages_any h hi hp)
  have HT := hid (fun W (hW : Below w.heap.size w W) => agive_any (h.below hW) hmF 2 (3 + ino / 8) N oneF 0 n (by omega) hN4 hu (hp.below hW))
  clear h hp hN4
  go_enter Tryz.func12, Tryz.ntmps12
  go_wp2_with fail
  refine HO.out.mono ?_
  clear HO
  rintro e w1 ⟨rfl, hb1⟩
  have HT1 := hid (HT.out w1 hb1)
  have HK1 : Hid (Keeps F w w1) := Keeps.of_below hb1
  clear HT hb1
  go_wp2_with fail
  refine HT1.out.mono ?_
  clear HT1
  intro e w2 hg
  have HG := hid (hg.from HK1.out)
  obtain ⟨v, rfl⟩ : ∃ v : Int, e = .returned (.int .i64 v) := by
    rcases hg.2 with ⟨-, h, -⟩ | ⟨-, -, h, -⟩ | ⟨-, -, -, h, -⟩ | ⟨-, -, -, h, -⟩ <;> exact ⟨_, h⟩
  clear hg
  go_wp2
  go_ret
  exact HG.out
set_option maxRecDepth 100000 in
set_option maxHeartbeats 1000000 in
theorem aGiveInode_any (h : mapB w m c ino) (hmF : ¬ F m) (hi : ino ≤ 512) (n : Int) (hN : 3 ≤ N) (hu : u < 1000000) (hp : Pc w c F size N Pg Cm D o u) :
    Calls Tryz.prog 13 #[.pointer (some ⟨m, 0, none⟩), .int .i64 n] w (GiveTo w c F size N Pg Cm D o u 1 1 ino n) := by
  have HO := hid (amofInodes_any h)
  have HT := hid (fun W (hW : Below w.heap.size w W) => agive_any (h.below hW) hmF 1 1 ino 0 oneF n (by omega) (by omega) hu (hp.below hW))
  clear h hp
  go_enter Tryz.func13, Tryz.ntmps13
  go_wp2_with fail
  refine HO.out.mono ?_
  clear HO
  rintro e w1 ⟨rfl, hb1⟩
  have HT1 := hid (HT.out w1 hb1)
  have HK1 : Hid (Keeps F w w1) := Keeps.of_below hb1
  clear HT hb1
  go_wp2_with fail
  refine HT1.out.mono ?_
  clear HT1
  intro e w2 hg
  have HG := hid (hg.from HK1.out)
  obtain ⟨v, rfl⟩ : ∃ v : Int, e = .returned (.int .i64 v) := by
    rcases hg.2 with ⟨-, h, -⟩ | ⟨-, -, h, -⟩ | ⟨-, -, -, h, -⟩ | ⟨-, -, -, h, -⟩ <;> exact ⟨_, h⟩
  clear hg
  go_wp2
  go_ret
  exact HG.out
end
end Go.Proofs.YtkkmbgjlmdddoabGreat
/- Make: superblock, alwaysTaken. -/
namespace Go.Proofs.YtkkmbgjlmdddoabGreat
open Go.RowKit
/-- Bits of which the first a are set. -/
def bitsTo : Nat → List UInt8
  | 0 => zN 512
  | n + 1 => flipL (bitsTo n) n
theorem length_bitsTo : ∀ n, (bitsTo n).length = 512
  | 0 => length_zN 512
  | n + 1 => by rw [bitsTo, length_flipL, length_bitsTo n]
theorem bitL_zN (n : Nat) : bitL (zN 512) n = false := by
  unfold bitL
  have : (zN 512).getD (n / 8) 0 = 0 := by
    rw [List.getD_eq_getElem?_getD]
    cases h : (zN 512)[n / 8]? with
    | none => rfl
    | some x =>
      have hm := List.mem_of_getElem? h
      unfold zN at hm
      exact List.eq_of_mem_replicate hm
  rw [this]
  exact Nat.zero_testBit _
theorem bitL_bitsTo : ∀ (a n : Nat), a ≤ 4096 → bitL (bitsTo a) n = decide (n < a)
  | 0, n, _ => by rw [bitsTo, bitL_zN]; simp
  | a + 1, n, h => by
    rw [bitsTo, bitL_flipL _ _ _ (by rw [length_bitsTo]; omega), bitL_bitsTo a n (by omega), bitL_bitsTo a a (by omega)]
    by_cases e : n = a
    · rw [if_pos e]; simp [e]
    · rw [if_neg e]
      apply decide_eq_decide.2
      omega
set_option maxRecDepth 100000 in
set_option maxHeartbeats 2000000 in
theorem aalways_any (b a z x y : Nat) (ha : a ≤ 4096) (w : World) : Calls Tryz.prog 57 #[numV b a z x y] w fun e w' => ∃ g, e = .returned (.slice (some ⟨g, 0, none⟩) 512 512) ∧ w.heap.size ≤ g ∧ rowU w' g (bitsTo a) ∧ Below w.heap.size w w' := by
  obtain ⟨wa, hwa⟩ : ∃ wa, wa = w.alloc (.cells #[.int .i64 b, .int .i64 a, .int .i64 z, .complex .f64 x y] 68) := ⟨_, rfl⟩
  have hb0 : Below w.heap.size w wa := by rw [hwa]; exact (Below.refl _ w).alloc (Nat.le_refl _) _
  have hbl : wa.heap[w.heap.size]? = some (.cells #[.int .i64 b, .int .i64 a, .int .i64 z, .complex .f64 x y] 68 (0, 0)) := by rw [hwa]; exact block_new w _
  have HB0 := hid hb0
  have HBl := hid hbl
  have ha' : (a : Int) ≤ 4096 := by omega
  clear hb0 hbl
  unfold numV
  go_enter Tryz.func57, Tryz.ntmps57
  go_wp2_with fail
  rw [← hwa]
  clear hwa
  refine (noughts_any wa).mono ?_
  rintro e w1 ⟨rfl, hz1, hb1⟩
  have c1 : w1.cell? ⟨w.heap.size, 1, none⟩ = some (.int .i64 a) := cell_of_block (below_block hb1 HBl.out (lt_of_heap HBl.out)) 1
  have HZ1 := hid (rowU_own hz1)
  have HB1 := hid (HB0.out.trans (hb1.mono HB0.out.size))
  have hsa := HB0.out.size
  obtain ⟨g, hg⟩ : ∃ g, g = wa.heap.size := ⟨_, rfl⟩
  rw [← hg] at HZ1 ⊢
  have hgw : w.heap.size ≤ g := by omega
  clear hz1 hb1 hsa hg
  go_wp2
  go_loopw [8] (fun i wr => ∃ k : Nat, k ≤ a ∧ i = .int .i64 k ∧ Hid (rowU wr g (bitsTo k)) ∧ Hid (Below w.heap.size w wr)) (fun i _ => a - (intOf i).toNat)
  case atStart => exact ⟨0, by omega, rfl, HZ1, HB1⟩
  case round =>
    obtain ⟨k, hk, rfl, HR, HB⟩ := hrel
    clear HZ1 HB1 c1
    by_cases hlt : k < a
    · have hk0 : (0 : Int) ≤ (k : Int) := by omega
      have hlt' : (k : Int) < (a : Int) := by omega
      have HFp := hid (flip_any g k 512 (bitsTo k) wr HR.out (length_bitsTo k) (by omega))
      go_wp2_with fail
      refine HFp.out.mono ?_
      clear HFp
      rintro e w2 ⟨rfl, hr2, hk2⟩
      have HR2 : Hid (rowU w2 g (bitsTo (k + 1))) := hr2
      have HB2 : Hid (Below w.heap.size w w2) := HB.out.trans (hk2.below HB.out.size (fun i e => by have e' : i = g := e; omega))
      clear hr2 hk2
      go_wp2
      exact ⟨⟨k + 1, by omega, by go_num, HR2, HB2⟩, by simp [intOf]; omega⟩
    · obtain rfl : k = a := by omega
      have hge : ¬ ((k : Int) < (k : Int)) := by omega
      go_wp2
      go_ret
      exact ⟨g, rfl, hgw, HR.out, HB.out⟩
/-- The bytes of a superblock. -/
def super1 : List UInt8 := [68, 85, 78, 49] ++ (zN 512).drop 4
def superL (pages ino : Nat) : List UInt8 := ((super1.take 4 ++ beS 4 pages ++ super1.drop 8).take 8 ++ beS 4 ino ++ (super1.take 4 ++ beS 4 pages ++ super1.drop 8).drop 12)
theorem length_super1 : super1.length = 512 := by unfold super1; rw [List.length_append, List.length_drop, length_zN]; rfl
theorem length_super2 (n : Nat) : (super1.take 4 ++ beS 4 n ++ super1.drop 8).length = 512 := by
  rw [List.length_append, List.length_append, List.length_take, List.length_drop, length_beS, length_super1]; rfl
theorem length_superL (pages ino : Nat) : (superL pages ino).length = 512 := by
  unfold superL
  rw [List.length_append, List.length_append, List.length_take, List.length_drop, length_beS, length_super2]; rfl
set_option maxRecDepth 100000 in
set_option maxHeartbeats 2000000 in
theorem asuper_any (pages ino : Nat) (hp : pages ≤ 4096) (hi : ino ≤ 4096) (w : World) : Calls Tryz.prog 55 #[.int .i64 pages, .int .i64 ino] w fun e w' => e = .returned (.slice (some ⟨w.heap.size, 0, none⟩) 512 512) ∧ ownB w' w.heap.size (superL pages ino) ∧ Below w.heap.size w w' := by
  go_enter Tryz.func55, Tryz.ntmps55
  go_wp2_with fail
  refine (noughts_any w).mono ?_
  rintro e w1 ⟨rfl, hz1, hb1⟩
  have HZ1 := hid hz1
  have HB1 := hid hb1
  obtain ⟨g, hg⟩ : ∃ g, g = w.heap.size := ⟨_, rfl⟩
  rw [← hg] at HZ1
  have HG := hid hg
  have hgle : w.heap.size ≤ g := by omega
  clear hz1 hb1
  rw [← hg]
  clear hg
  go_wp2_with (refine wpList_copy_str rfl (.tmp 7) (.const (.string ⟨#[68, 85, 78, 49]⟩)) rfl g 512 (zN 512) ⟨#[68, 85, 78, 49]⟩ rfl rfl HZ1.out (length_zN 512) (by decide) ?_; intro r2 w2 hr2 hk2; have HB2 := hid (HB1.out.trans (hk2.below HB1.out.size (fun i e => by have e' : i = g := e; omega))); have HR2 : Hid (ownB w2 g super1) := hr2; clear hr2 hk2 HZ1 HB1)
  have HPu := hid (put_any g 4 4 508 pages super1 w2 HR2.out (by rw [length_super1]; omega) (by rw [length_super1]; omega) (by omega))
  refine HPu.out.mono ?_
  clear HPu
  rintro e w3 ⟨rfl, hr3, hk3⟩
  have HR3 : Hid (ownB w3 g (super1.take 4 ++ beS 4 pages ++ super1.drop 8)) := hr3
  have HB3 := hid (HB2.out.trans (hk3.below HB2.out.size (fun i e => by have e' : i = g := e; omega)))
  have HPv := hid (put_any g 8 4 504 ino _ w3 HR3.out (by rw [length_super2]; omega) (by rw [length_super2]; omega) (by omega))
  clear hr3 hk3 HR2 HB2
  go_wp2_with fail
  refine HPv.out.mono ?_
  clear HPv
  rintro e w4 ⟨rfl, hr4, hk4⟩
  have HR4 : Hid (ownB w4 g (superL pages ino)) := hr4
  have HB4 := hid (HB3.out.trans (hk4.below HB3.out.size (fun i e => by have e' : i = g := e; omega)))
  clear hr4 hk4 HR3 HB3
  go_wp2
  go_ret
  rw [← HG.out]
  refine ⟨rfl, HR4.out, ?_⟩
  rw [HG.out]
  exact HB4.out
end Go.Proofs.YtkkmbgjlmdddoabGreat
/- empty: the pages of a new map. -/
namespace Go.Proofs.YtkkmbgjlmdddoabGreat
open Go.RowKit
/-- The pages ahead of First, as Make writes them; k of them in the table. -/
def empK (N ino k : Nat) : List (Nat × List UInt8) := [(0, superL N ino), (1, bitsTo 1), (2, bitsTo (3 + ino / 8))] ++ (List.range k).map (fun j => (3 + j, zN 512))
def WPg.key (p : WPg) : Nat × List UInt8 := (p.n, p.l)
/-- Pages that are made, in memory. -/
structure EmpIn (w0 w : World) (ps : List WPg) (N ino k : Nat) : Prop where
  keys : ps.map WPg.key = empK N ino k
  rows : ∀ p ∈ ps, p.l.length = 512 ∧ bytesAt w ⟨p.g, 0, none⟩ p.l ∧ w0.heap.size ≤ p.g
def psCells (ps : List WPg) : List Value := ps.flatMap WPg.cells
theorem psCells_snoc (ps : List WPg) (p : WPg) : psCells (ps ++ [p]) = psCells ps ++ [.int .i64 p.n, .slice (some ⟨p.g, 0, none⟩) 512 p.cap] := by simp [psCells, WPg.cells]
theorem psCells_at : ∀ (ps : List WPg) (i : Nat) (hi : i < ps.length), (psCells ps)[i * 2]? = some (.int .i64 ps[i].n) ∧ (psCells ps)[i * 2 + 1]? = some (.slice (some ⟨ps[i].g, 0, none⟩) 512 ps[i].cap)
  | p :: ps, 0, _ => by simp [psCells, WPg.cells]
  | p :: ps, i + 1, hi => by
    have ih := psCells_at ps i (by simpa using hi)
    have e : psCells (p :: ps) = [.int .i64 p.n, .slice (some ⟨p.g, 0, none⟩) 512 p.cap] ++ psCells ps := by simp [psCells, WPg.cells]
    rw [e]
    refine ⟨?_, ?_⟩
    · rw [show (i + 1) * 2 = i * 2 + 2 by omega, List.getElem?_append_right (by simp), show i * 2 + 2 - [Value.int .i64 p.n, .slice (some ⟨p.g, 0, none⟩) 512 p.cap].length = i * 2 by simp]
      simpa using ih.1
    · rw [show (i + 1) * 2 + 1 = i * 2 + 1 + 2 by omega, List.getElem?_append_right (by simp), show i * 2 + 1 + 2 - [Value.int .i64 p.n, .slice (some ⟨p.g, 0, none⟩) 512 p.cap].length = i * 2 + 1 by simp]
      simpa using ih.2
theorem length_psCells (ps : List WPg) : (psCells ps).length = ps.length * 2 := by
  induction ps with
  | nil => rfl
  | cons p ps ih =>
    have e : psCells (p :: ps) = [.int .i64 p.n, .slice (some ⟨p.g, 0, none⟩) 512 p.cap] ++ psCells ps := by simp [psCells, WPg.cells]
    rw [e, List.length_append, ih]; simp; omega
theorem psCells_one (ps : List WPg) : ∀ v ∈ psCells ps, v.oneCell' = true := fun v hv => by
  obtain ⟨p, -, hp⟩ := List.mem_flatMap.1 hv
  simp only [WPg.cells, List.mem_cons, List.mem_nil_iff, or_false] at hp
  rcases hp with rfl | rfl <;> rfl
theorem EmpIn.below {w0 w w' : World} {ps : List WPg} {N ino k : Nat} (h : EmpIn w0 w ps N ino k) (hb : Below w.heap.size w w') : EmpIn w0 w' ps N ino k :=
  ⟨h.keys, fun p hp => ⟨(h.rows p hp).1, fun j hj => (hb.cell (World.block_lt_of_cell? w _ ((h.rows p hp).2.1 j hj))).trans ((h.rows p hp).2.1 j hj), (h.rows p hp).2.2⟩⟩
theorem EmpIn.len {w0 w : World} {ps : List WPg} {N ino k : Nat} (h : EmpIn w0 w ps N ino k) : ps.length = 3 + k := by
  have := congrArg List.length h.keys
  simp [empK] at this
  omega
/-- A row of pages is no row of bytes. -/
theorem row_off {w : World} {lo g gp n : Nat} {v : Value} {ps : List WPg} {l : List UInt8} (h : w.ownsRow lo 63 2 v n (psCells ps)) (e : v.ownBlock = some g) (hp : 0 < ps.length) (hl : bytesAt w ⟨gp, 0, none⟩ l) (h0 : 0 < l.length) : gp ≠ g := fun hg => by
  subst hg
  rcases h.2 with ⟨rfl, -⟩ | ⟨g', cap, cur, rfl, -, hh, hn, -, hs, ht⟩
  · cases e
  · obtain rfl : g' = gp := Option.some.inj e
    have h1 := hl 0 h0
    rw [Addr.add_mid, Nat.zero_add, cell_of_block hh] at h1
    have h2 := (psCells_at ps 0 hp).1
    rw [← ht, Nat.zero_mul] at h2
    have h3 : cur.toList[0]? = some (.int .i64 ps[0].n) := by
      rw [List.getElem?_take] at h2
      split at h2
      · exact h2
      · cases h2
    rw [Array.getElem?_toList] at h3
    rw [h3] at h1
    simp at h1
section
variable {w : World} {m c ino : Nat} {F : Nat → Prop} {size N : Nat} {Pg Cm : Nat → List UInt8} {D : Int → Bool} {o u : Nat}
set_option maxRecDepth 100000 in
set_option maxHeartbeats 4000000 in
theorem aempty_any (h : mapB w m c ino) (hi : ino ≤ 512) (hp : Pc w c F size N Pg Cm D o u) :
    Calls Tryz.prog 28 #[.pointer (some ⟨m, 0, none⟩)] w fun e w' => ∃ pb cap ps, e = .returned (.slice (some ⟨pb, 0, none⟩) (3 + ino / 8) cap) ∧ w'.ownsRow w.heap.size 63 2 (.slice (some ⟨pb, 0, none⟩) (3 + ino / 8) cap) (3 + ino / 8) (psCells ps) ∧ EmpIn w w' ps N ino (ino / 8) ∧ Below w.heap.size w w' := by
  obtain ⟨i0, hi0, hz0, hz1, hz2⟩ := info_parts infoPage
  have HI0 := hid hi0
  have hN4 := hp.four
  have HPa := hid (fun W (hW : Below w.heap.size w W) => ampages_any (h.below hW) (hp.below hW))
  have HSu := hid (fun W => asuper_any N ino hN4 (by omega) W)
  have HOi := hid (fun W (hW : Below w.heap.size w W) => amofInodes_any (h.below hW))
  have HOp := hid (fun W (hW : Below w.heap.size w W) => amofPages_any (h.below hW) hi (hp.below hW))
  have HAi := hid (fun W => aalways_any 1 1 ino 0 oneF (by omega) W)
  have HAp := hid (fun W => aalways_any 2 (3 + ino / 8) N oneF 0 (by omega) W)
  have HFi := hid (fun W (hW : Below w.heap.size w W) => amFirst_any (h.below hW) hi)
  have HC : Hid (∀ W, Below w.heap.size w W → W.cell? ⟨m, 1, none⟩ = some (.int .i64 ino)) := fun W hW => cell_of_block (h.below hW) 1
  have hC0 := HC.out w (Below.refl _ _)
  obtain ⟨f, hf⟩ : ∃ f, f = ino / 8 := ⟨_, rfl⟩
  rw [← hf] at HOp HAp HFi ⊢
  have hf64 : f ≤ 64 := by omega
  have HEk : Hid (∀ k, empK N ino k = [(0, superL N ino), (1, bitsTo 1), (2, bitsTo (3 + f))] ++ (List.range k).map (fun j => (3 + j, zN 512))) := fun k => by rw [hf]; rfl
  clear h hp hf hi0 hN4
  go_enter Tryz.func28, Tryz.ntmps28
  go_wp2
  refine wp_region_noPanic ?_
  refine wp_region_held_drew (S := fun W => W.cell? ⟨m, 1, none⟩ = some (.int .i64 ino)) (by kernel_rfl) hC0 (fun hHeld => ?_)
  refine wpAnyH_take (i := 0) (v := ?_) rfl (by kernel_rfl) (by kernel_rfl) (by kernel_rfl) (fun _ _ _ h => h) (Or.inl ⟨by rfl, ?_⟩) (by assumption) ?_
  rotate_left
  · (intro W hSw; (try dsimp only at hSw); obtain s0 := hSw; go_simp; try with_reducible rfl)
  try simp only [List.getElem_toArray, List.getElem_cons_zero, Act.put, List.setIfInBounds_toArray, List.set_cons_zero, List.set_cons_succ]
  refine wpAnyH_take (i := 2) (v := ?_) rfl (by kernel_rfl) (by kernel_rfl) (by kernel_rfl) (fun _ _ _ h => h) (Or.inl ⟨by rfl, ?_⟩) (by assumption) ?_
  rotate_left
  · (intro W hSw; (try dsimp only at hSw); obtain s0 := hSw; go_simp; try with_reducible rfl)
  try simp only [List.getElem_toArray, List.getElem_cons_succ, List.getElem_cons_zero, Act.put, List.setIfInBounds_toArray, List.set_cons_zero, List.set_cons_succ]
  refine wpAnyH_take (i := 3) (v := ?_) rfl (by kernel_rfl) (by kernel_rfl) (by kernel_rfl) (fun _ _ _ h => h) (Or.inl ⟨by rfl, ?_⟩) (by assumption) ?_
  rotate_left
  · (intro W hSw; (try dsimp only at hSw); obtain s0 := hSw; go_simp; try with_reducible rfl)
  try simp only [List.getElem_toArray, List.getElem_cons_succ, List.getElem_cons_zero, Act.put, List.setIfInBounds_toArray, List.set_cons_zero, List.set_cons_succ]
  refine wpAnyH_take (i := 4) (v := ?_) rfl (by kernel_rfl) (by kernel_rfl) (by kernel_rfl) (fun _ _ _ h => h) (Or.inl ⟨by rfl, ?_⟩) (by assumption) ?_
  rotate_left
  · (intro W hSw; (try dsimp only at hSw); obtain s0 := hSw; go_simp; try with_reducible rfl)
  try simp only [List.getElem_toArray, List.getElem_cons_succ, List.getElem_cons_zero, Act.put, List.setIfInBounds_toArray, List.set_cons_zero, List.set_cons_succ]
  refine wpAnyH_take (i := 5) (v := ?_) rfl (by kernel_rfl) (by kernel_rfl) (by kernel_rfl) (fun _ _ _ h => h) (Or.inl ⟨by rfl, ?_⟩) (by assumption) ?_
  rotate_left
  · (intro W hSw; (try dsimp only at hSw); obtain s0 := hSw; go_simp; try with_reducible rfl)
  try simp only [List.getElem_toArray, List.getElem_cons_succ, List.getElem_cons_zero, Act.put, List.setIfInBounds_toArray, List.set_cons_zero, List.set_cons_succ]
  refine wpAnyH_take (i := 8) (v := ?_) rfl (by kernel_rfl) (by kernel_rfl) (by kernel_rfl) (fun _ _ _ h => h) (Or.inl ⟨by rfl, ?_⟩) (by assumption) ?_
  rotate_left
  · (intro W hSw; (try dsimp only at hSw); obtain s0 := hSw; go_simp; try with_reducible rfl)
  try simp only [List.getElem_toArray, List.getElem_cons_succ, List.getElem_cons_zero, Act.put, List.setIfInBounds_toArray, List.set_cons_zero, List.set_cons_succ]
  refine wpAnyH_take (i := 12) (v := ?_) rfl (by kernel_rfl) (by kernel_rfl) (by kernel_rfl) (fun _ _ _ h => h) (Or.inl ⟨by rfl, ?_⟩) (by assumption) ?_
  rotate_left
  · (intro W hSw; (try dsimp only at hSw); obtain s0 := hSw; go_simp; try with_reducible rfl)
  try simp only [List.getElem_toArray, List.getElem_cons_succ, List.getElem_cons_zero, Act.put, List.setIfInBounds_toArray, List.set_cons_zero, List.set_cons_succ]
  refine wpAnyH_ready (rs := [1]) (by kernel_rfl) (by simp) (AllReadyH.cons rfl (fun K hK => ?_) AllReadyH.nil)
  rw [if_pos (by rfl)]
  go_simp
  refine (HPa.out w.drew ((Below.refl _ w).drew)).mono ?_
  rintro e w1 ⟨rfl, hb1⟩
  have HB1 : Hid (Below w.heap.size w w1) := (Below.refl _ w).drew.trans (hb1.mono (Nat.le_refl _))
  have hz := HC.out w1 HB1.out
  clear hb1 hC0
  go_wp2_with fail
  refine hK.out _ _ hz (fun hHeld => ?_)
  clear hK K
  try simp only [List.getElem_toArray, List.getElem_cons_succ, List.getElem_cons_zero, Act.put, List.setIfInBounds_toArray, List.set_cons_zero, List.set_cons_succ]
  refine wpAnyH_ready (rs := [6]) (by kernel_rfl) (by simp) (AllReadyH.cons rfl (fun K hK => ?_) AllReadyH.nil)
  rw [if_pos (by rfl)]
  go_simp
  refine (HSu.out w1).mono ?_
  rintro e w2 ⟨rfl, hs2, hb2⟩
  have HB2 := hid (HB1.out.trans (hb2.mono HB1.out.size))
  have HS2 := hid hs2
  have Hn1 := hid HB1.out.size
  obtain ⟨g0, hg0⟩ : ∃ g0, g0 = w1.heap.size := ⟨_, rfl⟩
  rw [← hg0] at HS2 Hn1 ⊢
  have hz2' := HC.out w2 HB2.out
  clear hb2 hs2 hg0 hz
  go_wp2_with fail
  refine hK.out _ _ hz2' (fun hHeld => ?_)
  clear hK K
  try simp only [List.getElem_toArray, List.getElem_cons_succ, List.getElem_cons_zero, Act.put, List.setIfInBounds_toArray, List.set_cons_zero, List.set_cons_succ]
  refine wpAnyH_take (i := 7) (v := ?_) rfl (by kernel_rfl) (by kernel_rfl) (by kernel_rfl) (fun _ _ _ h => h) (Or.inl ⟨by rfl, ?_⟩) (by assumption) ?_
  rotate_left
  · (intro W hSw; (try dsimp only at hSw); obtain s0 := hSw; go_simp; try with_reducible rfl)
  try simp only [List.getElem_toArray, List.getElem_cons_succ, List.getElem_cons_zero, Act.put, List.setIfInBounds_toArray, List.set_cons_zero, List.set_cons_succ]
  refine wpAnyH_ready (rs := [9]) (by kernel_rfl) (by simp) (AllReadyH.cons rfl (fun K hK => ?_) AllReadyH.nil)
  rw [if_pos (by rfl)]
  go_simp
  refine (HOi.out w2 HB2.out).mono ?_
  rintro e w3 ⟨rfl, hb3⟩
  have HB3 := hid (HB2.out.trans (hb3.mono HB2.out.size))
  have HS3 := hid (HS2.out.below hb3)
  have hz3 := HC.out w3 HB3.out
  clear hb3 hz2' HS2
  go_wp2_with fail
  refine hK.out _ _ hz3 (fun hHeld => ?_)
  clear hK K
  try simp only [List.getElem_toArray, List.getElem_cons_succ, List.getElem_cons_zero, Act.put, List.setIfInBounds_toArray, List.set_cons_zero, List.set_cons_succ]
  refine wpAnyH_ready (rs := [10]) (by kernel_rfl) (by simp) (AllReadyH.cons rfl (fun K hK => ?_) AllReadyH.nil)
  rw [if_pos (by rfl)]
  go_simp
  refine (HAi.out w3).mono ?_
  rintro e w4 ⟨g1, rfl, hg1, hr4, hb4⟩
  have HB4 := hid (HB3.out.trans (hb4.mono HB3.out.size))
  have HS4 := hid (HS3.out.below hb4)
  have HR4 := hid hr4.1
  have Hg1 : Hid (w.heap.size ≤ g1) := Nat.le_trans HB3.out.size hg1
  have hz4 := HC.out w4 HB4.out
  clear hb4 hz3 HS3 hr4 hg1
  go_wp2_with fail
  refine hK.out _ _ hz4 (fun hHeld => ?_)
  clear hK K
  try simp only [List.getElem_toArray, List.getElem_cons_succ, List.getElem_cons_zero, Act.put, List.setIfInBounds_toArray, List.set_cons_zero, List.set_cons_succ]
  refine wpAnyH_take (i := 11) (v := ?_) rfl (by kernel_rfl) (by kernel_rfl) (by kernel_rfl) (fun _ _ _ h => h) (Or.inl ⟨by rfl, ?_⟩) (by assumption) ?_
  rotate_left
  · (intro W hSw; (try dsimp only at hSw); obtain s0 := hSw; go_simp; try with_reducible rfl)
  try simp only [List.getElem_toArray, List.getElem_cons_succ, List.getElem_cons_zero, Act.put, List.setIfInBounds_toArray, List.set_cons_zero, List.set_cons_succ]
  refine wpAnyH_ready (rs := [13]) (by kernel_rfl) (by simp) (AllReadyH.cons rfl (fun K hK => ?_) AllReadyH.nil)
  rw [if_pos (by rfl)]
  go_simp
  refine (HOp.out w4 HB4.out).mono ?_
  rintro e w5 ⟨rfl, hb5⟩
  have HB5 := hid (HB4.out.trans (hb5.mono HB4.out.size))
  have HS5 := hid (HS4.out.below hb5)
  have HR5 : Hid (bytesAt w5 ⟨g1, 0, none⟩ (bitsTo 1)) := fun j hj => (hb5.cell (World.block_lt_of_cell? w4 _ (HR4.out j hj))).trans (HR4.out j hj)
  have hz5 := HC.out w5 HB5.out
  clear hb5 hz4 HS4 HR4
  go_wp2_with fail
  refine hK.out _ _ hz5 (fun hHeld => ?_)
  clear hK K
  try simp only [List.getElem_toArray, List.getElem_cons_succ, List.getElem_cons_zero, Act.put, List.setIfInBounds_toArray, List.set_cons_zero, List.set_cons_succ]
  refine wpAnyH_ready (rs := [14]) (by kernel_rfl) (by simp) (AllReadyH.cons rfl (fun K hK => ?_) AllReadyH.nil)
  rw [if_pos (by rfl)]
  go_simp
  refine (HAp.out w5).mono ?_
  rintro e w6 ⟨g2, rfl, hg2, hr6, hb6⟩
  have HB6 := hid (HB5.out.trans (hb6.mono HB5.out.size))
  have HS6 := hid (HS5.out.below hb6)
  have HR6 : Hid (bytesAt w6 ⟨g1, 0, none⟩ (bitsTo 1)) := fun j hj => (hb6.cell (World.block_lt_of_cell? w5 _ (HR5.out j hj))).trans (HR5.out j hj)
  have HT6 := hid hr6.1
  have Hg2 : Hid (w.heap.size ≤ g2) := Nat.le_trans HB5.out.size hg2
  have hz6 := HC.out w6 HB6.out
  clear hb6 hz5 HS5 HR5 hr6 hg2
  go_wp2_with fail
  refine hK.out _ _ hz6 (fun hHeld => ?_)
  clear hK K
  try simp only [List.getElem_toArray, List.getElem_cons_succ, List.getElem_cons_zero, Act.put, List.setIfInBounds_toArray, List.set_cons_zero, List.set_cons_succ]
  refine wpAnyH_take (i := 15) (v := ?_) rfl (by kernel_rfl) (by kernel_rfl) (by kernel_rfl) (fun _ _ _ h => h) (Or.inl ⟨by rfl, ?_⟩) (by assumption) ?_
  rotate_left
  · (intro W hSw; (try dsimp only at hSw); obtain s0 := hSw; go_simp; try with_reducible rfl)
  try simp only [List.getElem_toArray, List.getElem_cons_succ, List.getElem_cons_zero, Act.put, List.setIfInBounds_toArray, List.set_cons_zero, List.set_cons_succ]
  refine wpAnyH_ready (rs := [16]) (by kernel_rfl) (by simp) (AllReadyH.cons rfl (fun K hK => ?_) AllReadyH.nil)
  rw [if_pos (by rfl)]
  go_simp
  have hb7 : Below w6.heap.size w6 (w6.alloc (.cells #[.int .i64 0, .slice (some ⟨g0, 0, none⟩) 512 512, .int .i64 1, .slice (some ⟨g1, 0, none⟩) 512 512, .int .i64 2, .slice (some ⟨g2, 0, none⟩) 512 512] 63)) := (Below.refl _ w6).alloc (Nat.le_refl _) _
  have HB7 := hid (HB6.out.trans (hb7.mono HB6.out.size))
  have hz7 := HC.out _ HB7.out
  have hn6 := HB6.out.size
  have HE7 : Hid (EmpIn w (w6.alloc (.cells #[.int .i64 0, .slice (some ⟨g0, 0, none⟩) 512 512, .int .i64 1, .slice (some ⟨g1, 0, none⟩) 512 512, .int .i64 2, .slice (some ⟨g2, 0, none⟩) 512 512] 63)) [⟨0, g0, 512, superL N ino⟩, ⟨1, g1, 512, bitsTo 1⟩, ⟨2, g2, 512, bitsTo (3 + f)⟩] N ino 0) := by
    refine ⟨by rw [HEk.out]; rfl, fun p hp => ?_⟩
    have hcell : ∀ (g : Nat) (l : List UInt8), bytesAt w6 ⟨g, 0, none⟩ l → bytesAt (w6.alloc (.cells #[.int .i64 0, .slice (some ⟨g0, 0, none⟩) 512 512, .int .i64 1, .slice (some ⟨g1, 0, none⟩) 512 512, .int .i64 2, .slice (some ⟨g2, 0, none⟩) 512 512] 63)) ⟨g, 0, none⟩ l := fun g l hl j hj => (hb7.cell (World.block_lt_of_cell? w6 _ (hl j hj))).trans (hl j hj)
    simp only [List.mem_cons, List.mem_nil_iff, or_false] at hp
    rcases hp with rfl | rfl | rfl
    · exact ⟨length_superL _ _, hcell _ _ HS6.out.at, Hn1.out⟩
    · exact ⟨length_bitsTo _, hcell _ _ HR6.out, Hg1.out⟩
    · exact ⟨length_bitsTo _, hcell _ _ HT6.out, Hg2.out⟩
  have HO7 : Hid ((w6.alloc (.cells #[.int .i64 0, .slice (some ⟨g0, 0, none⟩) 512 512, .int .i64 1, .slice (some ⟨g1, 0, none⟩) 512 512, .int .i64 2, .slice (some ⟨g2, 0, none⟩) 512 512] 63)).ownsRow w.heap.size 63 2 (.slice (some ⟨w6.heap.size, 0, none⟩) 3 3) 3 (psCells [⟨0, g0, 512, superL N ino⟩, ⟨1, g1, 512, bitsTo 1⟩, ⟨2, g2, 512, bitsTo (3 + f)⟩])) :=
    ⟨rfl, .inr ⟨w6.heap.size, 3, _, rfl, hn6, block_new w6 _, Nat.le_refl _, by unfold maxLen; omega, rfl, rfl⟩⟩
  clear hb7 hz6 hn6 HS6 HR6 HT6
  generalize w6.alloc (.cells #[.int .i64 0, .slice (some ⟨g0, 0, none⟩) 512 512, .int .i64 1, .slice (some ⟨g1, 0, none⟩) 512 512, .int .i64 2, .slice (some ⟨g2, 0, none⟩) 512 512] 63) = w7 at *
  generalize w6.heap.size = pb at *
  refine hK.out _ _ hz7 (fun hHeld => ?_)
  clear hK K
  try simp only [List.getElem_toArray, List.getElem_cons_succ, List.getElem_cons_zero, Act.put, List.setIfInBounds_toArray, List.set_cons_zero, List.set_cons_succ]
  refine wpAnyH_take (i := 17) (v := ?_) rfl (by kernel_rfl) (by kernel_rfl) (by kernel_rfl) (fun _ _ _ h => h) (Or.inl ⟨by rfl, ?_⟩) (by assumption) ?_
  rotate_left
  · (intro W hSw; (try dsimp only at hSw); obtain s0 := hSw; go_simp; try with_reducible rfl)
  try simp only [List.getElem_toArray, List.getElem_cons_succ, List.getElem_cons_zero, Act.put, List.setIfInBounds_toArray, List.set_cons_zero, List.set_cons_succ]
  refine wpAnyH_done (by kernel_rfl) ?_ _
  refine NoPanic.normal ?_
  clear hHeld hz7 HPa HSu HOi HOp HAi HAp
  go_wp2
  go_loopw [3, 4] (fun v i wr => ∃ (k : Nat) (ps : List WPg), k ≤ f ∧ i = .int .i64 ((3 + k : Nat) : Int) ∧ Hid (wr.ownsRow w.heap.size 63 2 v (3 + k) (psCells ps)) ∧ Hid (EmpIn w wr ps N ino k) ∧ Hid (Below w.heap.size w wr)) (fun _ i _ => 3 + f - (intOf i).toNat)
  case atStart => exact ⟨0, _, by omega, rfl, HO7, HE7, HB7⟩
  case round =>
    obtain ⟨k, ps, hk, rfl, hO, hE, hB⟩ := hrel
    clear HO7 HE7 HB7
    by_cases hlt : k < f
    · have hlt' : ((3 + k : Nat) : Int) < ((3 + f : Nat) : Int) := by omega
      have HF1 := hid (HFi.out wr hB.out)
      obtain ⟨n, hn⟩ : ∃ n, n = 3 + k := ⟨_, rfl⟩
      rw [← hn] at hlt' hO ⊢
      have HN := hid hn
      have hn67 : n ≤ 67 := by omega
      clear hn
      obtain ⟨z, hz⟩ : ∃ z, z = 3 + f := ⟨_, rfl⟩
      rw [← hz] at hlt' HF1
      clear hz
      go_wp2_with fail
      refine HF1.out.mono ?_
      clear HF1
      rintro e w8 ⟨rfl, h8⟩
      obtain rfl := h8.symm
      clear h8
      go_wp2_with fail
      refine (noughts_any wr).mono ?_
      rintro e w8 ⟨rfl, hz8, hb8⟩
      have HB8 := hid (hB.out.trans (hb8.mono hB.out.size))
      have hO8 := (Keeps.of_below hb8 : Keeps (fun _ => False) wr w8).row hO.out (fun _ _ h => h)
      have HO8 := hid hO8
      have HE8 := hid (hE.out.below hb8)
      have HZ8 := hid hz8
      have hwr := hB.out.size
      obtain ⟨gz, hgz⟩ : ∃ gz, gz = wr.heap.size := ⟨_, rfl⟩
      rw [← hgz] at HZ8 ⊢
      have hgzw : w.heap.size ≤ gz := by omega
      clear hb8 hO8 hz8 hgz hwr hO hE hB
      have hs8 := HB8.out.size
      go_wp2_with (refine wpList_append_lies _ rfl (.tmp 28) (.tmp 32) 55 rfl w.heap.size 63 i0 (.agg #[.int .i64 0, .slice none 0 0]) 2 32 Tryz.underlying55 HI0.out hz0 hz1 hz2 rfl (by omega) u3 n _ rfl (HO8.out.alloc _) ⟨w8.heap.size, 0, none⟩ 1 1 [.int .i64 n, .slice (some ⟨gz, 0, none⟩) 512 512] rfl rfl (World.news_of_block (cs := #[.int .i64 n, .slice (some ⟨gz, 0, none⟩) 512 512]) (block_new w8 _)) (by intro u hu; rcases List.mem_cons.1 hu with rfl | hu; rfl; rw [List.mem_singleton.1 hu]; rfl) (by omega) (by unfold maxLen; omega) (by omega) (by simp; omega) (w8.heap.size + 1) (by simp) ?_; intro g9 cap9 w9 hown hgr hat hlt9; have HOw := hid hown; have HGr := hid hgr; clear hown hgr hat hlt9)
      have hnn := HN.out
      have hb9 : Below w8.heap.size w8 (w8.alloc (.cells #[.int .i64 n, .slice (some ⟨gz, 0, none⟩) 512 512] 63)) := (Below.refl _ w8).alloc (Nat.le_refl _) _
      have hk9 : Keeps (fun i => u3.ownBlock = some i) w8 w9 := (Keeps.of_below hb9).grown HGr.out (fun i e => .inl e)
      have hrowpl : ∀ i, u3.ownBlock = some i → w.heap.size ≤ i := fun i e => (HO8.out.lt i e).1
      refine ⟨⟨k + 1, ps ++ [⟨n, gz, 512, zN 512⟩], by omega, by rw [hnn]; go_num, ?_, ?_, ?_⟩, by rw [hnn]; simp [intOf]; omega⟩
      · unfold Hid
        rw [psCells_snoc, show 3 + (k + 1) = n + 1 by omega]
        exact HOw.out
      · refine ⟨?_, fun p hp => ?_⟩
        · rw [List.map_append, HE8.out.keys]
          simp [empK, List.range_succ, WPg.key, hnn]
        · have hne : ∀ (gp : Nat) (l : List UInt8), l.length = 512 → bytesAt w8 ⟨gp, 0, none⟩ l → bytesAt w9 ⟨gp, 0, none⟩ l := fun gp l hl5 hl j hj => hk9.cell (hl j hj) (fun e => by
            rw [add_block] at e
            exact row_off HO8.out e (by rw [HE8.out.len]; omega) hl (by omega) rfl)
          rcases List.mem_append.1 hp with hp | hp
          · exact ⟨(HE8.out.rows p hp).1, hne _ _ (HE8.out.rows p hp).1 (HE8.out.rows p hp).2.1, (HE8.out.rows p hp).2.2⟩
          · obtain rfl : p = ⟨n, gz, 512, zN 512⟩ := by simpa using hp
            exact ⟨length_zN 512, hne _ _ (length_zN 512) HZ8.out.at, hgzw⟩
      · exact HB8.out.trans (hk9.below HB8.out.size hrowpl)
    · obtain rfl : k = f := by omega
      have HF1 := hid (HFi.out wr hB.out)
      obtain ⟨n, hn⟩ : ∃ n, n = 3 + k := ⟨_, rfl⟩
      rw [← hn] at hO HF1 ⊢
      have hge : ¬ ((n : Int) < (n : Int)) := by omega
      have HN := hid hn
      clear hn
      have hpos : 3 ≤ n := by have := HN.out; omega
      obtain ⟨pb', cap', hv⟩ : ∃ pb' cap', u3 = .slice (some ⟨pb', 0, none⟩) n cap' := by
        rcases hO.out.2 with ⟨-, h0⟩ | ⟨g, cp, cur, e, -⟩
        · omega
        · exact ⟨g, cp, e⟩
      subst hv
      go_wp2_with fail
      refine HF1.out.mono ?_
      clear HF1
      rintro e w8 ⟨rfl, h8⟩
      obtain rfl := h8.symm
      clear h8
      go_wp2
      go_ret
      rw [← HN.out]
      exact ⟨pb', cap', ps, rfl, hO.out, hE.out, hB.out⟩
end
end Go.Proofs.YtkkmbgjlmdddoabGreat
/- Make; law05's cached. -/
namespace Go.Proofs.YtkkmbgjlmdddoabGreat
open Go.RowKit
/-- Pages as they are behind these were written. -/
def putL (Pg : Nat → List UInt8) (ks : List (Nat × List UInt8)) : Nat → List UInt8 := ks.foldl (fun f p => updP f p.1 p.2) Pg
def putLD (D : Int → Bool) (ks : List (Nat × List UInt8)) : Int → Bool := ks.foldl (fun f p => updT f (p.1 : Int)) D
theorem putP_keys : ∀ (ps : List WPg) (Pg : Nat → List UInt8), putP Pg ps = putL Pg (ps.map WPg.key)
  | [], _ => rfl
  | p :: ps, Pg => putP_keys ps (updP Pg p.n p.l)
theorem putD_keys : ∀ (ps : List WPg) (D : Int → Bool), putD D ps = putLD D (ps.map WPg.key)
  | [], _ => rfl
  | p :: ps, D => putD_keys ps (updT D (p.n : Int))
theorem empK_lt {N ino k : Nat} {x : Nat × List UInt8} (h : x ∈ empK N ino k) : x.1 < 3 + k := by
  simp only [empK, List.cons_append, List.nil_append, List.mem_cons, List.mem_map, List.mem_range] at h
  rcases h with rfl | rfl | rfl | ⟨j, hj, rfl⟩
  · show 0 < 3 + k; omega
  · show 1 < 3 + k; omega
  · show 2 < 3 + k; omega
  · show 3 + j < 3 + k; omega
section
variable {w : World} {m c ino : Nat} {F : Nat → Prop} {size N : Nat} {Pg Cm : Nat → List UInt8} {D : Int → Bool} {o u : Nat}
theorem EmpIn.wpgs {w0 w : World} {ps : List WPg} {k pb cap : Nat} (h : EmpIn w0 w ps N ino k) (hr : w.ownsRow w0.heap.size 63 2 (.slice (some ⟨pb, 0, none⟩) (3 + k) cap) (3 + k) (psCells ps)) (hF : ∀ i, F i → i < w0.heap.size) (hN : 3 + k ≤ N) : WPgs w pb ps F N := by
  have hl := h.len
  refine ⟨fun i hi => ?_, fun _ hf => ?_, fun p hp => ?_⟩
  · obtain ⟨h1, h2⟩ := psCells_at ps i hi
    rcases hr.2 with ⟨e, -⟩ | ⟨g, cp, cur, e, -, hh, hn, -, hs, ht⟩
    · cases e
    · obtain ⟨rfl, rfl⟩ : pb = g ∧ cap = cp := by simpa using e
      have hc : ∀ j v, (psCells ps)[j]? = some v → w.cell? ⟨pb, j, none⟩ = some v := fun j v hv => by
        rw [← ht, List.getElem?_take] at hv
        split at hv
        · rw [cell_of_block hh, ← Array.getElem?_toList]; exact hv
        · cases hv
      exact ⟨hc _ _ h1, hc _ _ h2⟩
  · have h1 := (hr.lt pb rfl).1
    have h2 := hF _ hf
    omega
  · have hk : p.key ∈ empK N ino k := by rw [← h.keys]; exact List.mem_map.2 ⟨p, hp, rfl⟩
    have h1 := empK_lt hk
    have h2 := h.rows p hp
    exact ⟨by show p.n < N; have h3 : p.n < 3 + k := h1; omega, h2.1, h2.2.1, fun hf => by have := hF _ hf; have := h2.2.2; omega⟩
/-- What Make tells. -/
def MakeTo (w : World) (c : Nat) (F : Nat → Prop) (size N : Nat) (Pg Cm : Nat → List UInt8) (D : Int → Bool) (o u : Nat) (ino : Int) (e : Ending) (w' : World) : Prop :=
  Keeps F w w' ∧ ((¬ mayP N ino ∧ e = .returned (.tuple #[.pointer none, .int .i64 2]) ∧ Pc w' c F size N Pg Cm D o u) ∨
    ∃ n : Nat, ino = (n : Int) ∧ mayP N ino ∧ ((min size 100 < (dkD N D).length + (3 + n / 8) ∧ e = .returned (.tuple #[.pointer none, .int .i64 7]) ∧ Pc w' c F size N Pg Cm D o u) ∨
      ((dkD N D).length + (3 + n / 8) ≤ min size 100 ∧ ∃ m, w.heap.size ≤ m ∧ ¬ F m ∧ mapB w' m c n ∧ e = .returned (.tuple #[.pointer (some ⟨m, 0, none⟩), .int .i64 0]) ∧ Pc w' c F size N (putL Pg (empK N n (n / 8))) Cm (putLD D (empK N n (n / 8))) o u)))
set_option maxRecDepth 100000 in
set_option maxHeartbeats 4000000 in
theorem amake_any (ino : Int) (hp : Pc w c F size N Pg Cm D o u) : Calls Tryz.prog 5 #[.pointer (some ⟨c, 0, none⟩), .int .i64 ino] w (MakeTo w c F size N Pg Cm D o u ino) := by
  obtain ⟨p, hl1, hl2⟩ := hp.logPages
  have hN4 := hp.four
  have HL1 := hid hl1
  have HL2 := hid hl2
  have HMb := hid (fun W => amayBe_any N ino hN4 W)
  have HP := hid hp
  have HFl := hid hp.lt
  have hkl := hp.keysLen
  obtain ⟨K, hK⟩ : ∃ K, K = (dkD N D).length := ⟨_, rfl⟩
  have HK := hid hK
  obtain ⟨Z, hZ⟩ : ∃ Z, Z = min size 100 := ⟨_, rfl⟩
  have hZ1 : Z ≤ 100 := by omega
  have HZ := hid hZ
  rw [← hK, ← hZ] at hkl
  clear hp hl1 hl2 hK hZ hN4
  by_cases hmay : mayP N ino
  · rw [decide_eq_true hmay] at HMb
    have HMay := hid hmay
    obtain ⟨n, rfl⟩ : ∃ n : Nat, ino = (n : Int) := ⟨ino.toNat, by have := hmay.1; omega⟩
    have hn5 : n ≤ 512 := by have := hmay.2.1; omega
    have hfN : 3 + n / 8 ≤ N := by have := hmay.2.2.2.1; omega
    clear hmay
    go_enter Tryz.func5, Tryz.ntmps5
    go_wp2_with fail
    refine HL1.out.mono ?_
    clear HL1
    rintro e w1 ⟨rfl, h1⟩
    obtain rfl := h1.symm
    clear h1
    go_wp2_with fail
    refine HL2.out.mono ?_
    clear HL2
    rintro e w1 ⟨rfl, hb1⟩
    have HB1 := hid hb1
    clear hb1
    go_wp2_with fail
    refine (HMb.out w1).mono ?_
    clear HMb
    rintro e w2 ⟨rfl, h2⟩
    obtain rfl := h2.symm
    clear h2
    obtain ⟨wm, hwm⟩ : ∃ wm, wm = w1.alloc (.cells #[.pointer (some ⟨c, 0, none⟩), .int .i64 n] 53) := ⟨_, rfl⟩
    have hbm : Below w1.heap.size w1 wm := by rw [hwm]; exact (Below.refl _ w1).alloc (Nat.le_refl _) _
    have hmb : mapB wm w1.heap.size c n := by rw [hwm]; exact block_new w1 _
    have HBm := hid (HB1.out.trans (hbm.mono HB1.out.size))
    have HMm := hid hmb
    have hR := (HP.out.below HBm.out).roomC
    rw [← HZ.out, ← HK.out] at hR
    have HR := hid hR
    have HmF : Hid (¬ F w1.heap.size) := fun hf => by have := HFl.out _ hf; have := HB1.out.size; omega
    have HSm := hid HB1.out.size
    obtain ⟨mb, hmbE⟩ : ∃ mb, mb = w1.heap.size := ⟨_, rfl⟩
    rw [← hmbE] at HMm HmF HSm
    clear hbm hmb hR
    go_wp2_with fail
    rw [← hwm, ← hmbE]
    clear hwm hmbE
    refine HR.out.mono ?_
    clear HR
    rintro e w3 ⟨rfl, hb3⟩
    have HB3 := hid (HBm.out.trans (hb3.mono HBm.out.size))
    have HM3 := hid (HMm.out.below hb3)
    have HFi := hid (amFirst_any HM3.out hn5)
    have HEm := hid (aempty_any HM3.out hn5 (HP.out.below HB3.out))
    obtain ⟨f, hf⟩ : ∃ f, f = n / 8 := ⟨_, rfl⟩
    rw [← hf] at HFi HEm hfN
    have HF := hid hf
    clear hb3 hf
    have hff : f ≤ 64 := by have := HF.out; omega
    go_wp2_with fail
    refine HFi.out.mono ?_
    clear HFi
    rintro e w4 ⟨rfl, h4⟩
    obtain rfl := h4.symm
    clear h4
    by_cases hfull : Z < K + (3 + f)
    · have hlt : (Z : Int) - (K : Int) < ((3 + f : Nat) : Int) := by omega
      obtain ⟨ff, hffE⟩ : ∃ ff, ff = 3 + f := ⟨_, rfl⟩
      rw [← hffE] at hlt ⊢
      clear hffE
      go_wp2
      go_returns
      refine ⟨Keeps.of_below HB3.out, .inr ⟨n, rfl, HMay.out, .inl ⟨?_, rfl, HP.out.below HB3.out⟩⟩⟩
      rw [← HK.out, ← HZ.out, ← HF.out]; exact hfull
    · have hlt : ¬ ((Z : Int) - (K : Int) < ((3 + f : Nat) : Int)) := by omega
      obtain ⟨ff, hffE⟩ : ∃ ff, ff = 3 + f := ⟨_, rfl⟩
      rw [← hffE] at hlt HEm ⊢
      have HFF := hid hffE
      clear hffE
      go_wp2_with fail
      refine HEm.out.mono ?_
      clear HEm
      rintro e w5 ⟨pb, cap, ps, rfl, hrow, hE, hb5⟩
      have hB5 := HB3.out.trans (hb5.mono HB3.out.size)
      have HB5 := hid hB5
      have hrow' : w5.ownsRow w3.heap.size 63 2 (.slice (some ⟨pb, 0, none⟩) (3 + f) cap) (3 + f) (psCells ps) := by rw [← HFF.out]; exact hrow
      have hF3 : ∀ i, F i → i < w3.heap.size := fun i hi => Nat.lt_of_lt_of_le (HFl.out i hi) HB3.out.size
      have hws := hE.wpgs (F := F) hrow' hF3 hfN
      have hlen : ps.length = ff := by rw [hE.len, HFF.out]
      have hwr := awrite_any (HM3.out.below hb5) HmF.out pb ps hws cap (by rw [hlen, HFF.out]; omega) (by rw [hlen, HFF.out]; omega) (HP.out.below hB5)
      rw [hlen] at hwr
      have HWr := hid hwr
      have HKe := hid hE.keys
      have HM5 := hid (HM3.out.below hb5)
      have HLn := hid hlen
      clear hb5 hB5 hrow hrow' hF3 hws hwr hE hlen
      go_wp2_with fail
      refine HWr.out.mono ?_
      clear HWr
      rintro e w6 ⟨hk6, hw6⟩
      have HK6 := hid ((Keeps.of_below HB5.out : Keeps F w w5).trans hk6 (fun i e => .inl e))
      have HM6 : Hid (mapB w6 mb c n) := HM5.out.keep hk6 HmF.out
      have hncl : newC D ps ≤ ff := by rw [← HLn.out]; exact List.length_filter_le _ _
      clear hk6
      rcases hw6 with ⟨hf6, rfl, hp6⟩ | ⟨hf6, rfl, hp6⟩
      · exfalso
        have h1 := HK.out
        have h2 := HZ.out
        have h3 := HFF.out
        omega
      · have HP6 := hid hp6
        clear hp6 hf6
        go_wp2
        go_returns
        refine ⟨HK6.out, .inr ⟨n, rfl, HMay.out, .inr ⟨?_, mb, HSm.out, HmF.out, HM6.out, rfl, ?_⟩⟩⟩
        · rw [← HK.out, ← HZ.out, ← HF.out]; omega
        · have h1 := HP6.out
          rw [putP_keys, putD_keys, HKe.out, HF.out] at h1
          exact h1
  · rw [decide_eq_false hmay] at HMb
    have HMay := hid hmay
    clear hmay
    go_enter Tryz.func5, Tryz.ntmps5
    go_wp2_with fail
    refine HL1.out.mono ?_
    clear HL1
    rintro e w1 ⟨rfl, h1⟩
    obtain rfl := h1.symm
    clear h1
    go_wp2_with fail
    refine HL2.out.mono ?_
    clear HL2
    rintro e w1 ⟨rfl, hb1⟩
    have HB1 := hid hb1
    clear hb1
    go_wp2_with fail
    refine (HMb.out w1).mono ?_
    clear HMb
    rintro e w2 ⟨rfl, h2⟩
    obtain rfl := h2.symm
    clear h2
    go_wp2
    go_returns
    exact ⟨Keeps.of_below HB1.out, .inl ⟨HMay.out, rfl, HP.out.below HB1.out⟩⟩
end
set_option maxRecDepth 100000 in
set_option maxHeartbeats 1000000 in
/-- A cache of so many pages. -/
theorem cached_any (pages size : Nat) (h1 : 1 ≤ size) (h2 : 1 ≤ pages) (h3 : pages + size + 1 ≤ 4096) (w : World) :
    Calls Tryz.prog 19 #[.int .i64 pages, .int .i64 size] w fun e w' => ∃ c F, e = .returned (.pointer (some ⟨c, 0, none⟩)) ∧ (∀ i, F i → w.heap.size ≤ i) ∧ Pc w' c F size pages (fun _ => zN 512) (fun _ => zN 512) (fun _ => false) 0 0 ∧ Below w.heap.size w w' := by
  obtain ⟨n, hn⟩ : ∃ n, n = pages + size + 1 := ⟨_, rfl⟩
  have e1 : IntKind.i64.wrap ((pages : Int) + (size : Int)) = ((pages + size : Nat) : Int) := by rw [IntWalk.i64_in _ (by omega)]; omega
  have e2 : IntKind.i64.wrap (((pages + size : Nat) : Int) + 1) = (n : Int) := by rw [IntWalk.i64_in _ (by omega)]; omega
  have e3 : (pages : Int) + (size : Int) + 1 = (n : Int) := by omega
  have hn3 : n ≤ 4096 := by omega
  have hn2 : size + 2 ≤ n := by omega
  have hNp : pagesS (freshN n) size = pages := by unfold pagesS; rw [freshN_len]; omega
  have HNp := hid hNp
  have HN := hid hn
  clear hn h3 hNp
  go_enter Tryz.func19, Tryz.ntmps19
  go_wp2_with fail
  refine (new_disk n (by omega) hn3 _).mono ?_
  rintro e w1 ⟨d, rfl, hD, -, -, hB⟩
  have HD : Hid (DiskIn w1 d (freshN n)) := hD
  have HB1 := hid hB
  have HOp := hid (open_zero d (freshN n) size w1 HD.out (by show 0 ≤ 4096; decide) h1 (by rw [freshN_len]; exact hn2) (by rw [show ((0 : Int)) = ((0 : Nat) : Int) from rfl, freshN_seen n 0 (by omega)]; exact blank_zeros))
  clear hD hB HD
  go_wp2_with fail
  refine HOp.out.mono ?_
  clear HOp
  rintro e w2 ⟨hb2, p, d2, rfl, hp2, hL2⟩
  have hpl := lt_of_heap hL2.heap
  have HB2 := hid (HB1.out.trans (hb2.mono HB1.out.size))
  have HNw := hid (bnew_ok p d2 (freshN n) size (fun i => w1.heap.size ≤ i ∧ i < p) 8 (by omega) (by omega) w2 hL2 (fun i hi => by omega) (by rw [freshN_len]; omega))
  have hs1 := HB1.out.size
  have hs2 := hb2.size
  clear hb2 hL2
  go_wp2_with fail
  refine HNw.out.mono ?_
  clear HNw
  rintro e w3 ⟨hb3, c, L, rfl, hc3, hdv, hLF, hft, hC3⟩
  have HB3 := hid (HB2.out.trans (hb3.mono HB2.out.size))
  have HC3 := hid hC3
  have HFt := hid hft
  have Hlt := hid hC3.log
  clear hb3 hC3 hft hdv hLF
  go_wp2
  go_ret
  have hC := HC3.out
  rw [HNp.out] at hC
  have hz : ∀ k, k < pages → secL (freshN n) (1 + size + k) = zN 512 := fun k hk => by
    unfold secL
    rw [freshN_seen n (1 + size + k) (by have := HN.out; omega)]
    exact blank_zeros
  refine ⟨c, fun i => L.foot c i, rfl, fun i hi => ?_, ⟨L, _, ⟨hC, rfl, rfl, made_fresh _ (by simp; omega) (fun s hs => by rw [List.eq_of_mem_replicate hs]; exact blank_size), Nat.le_refl _, Nat.le_refl _, fun k hk => hz k hk, fun k hk => hz k hk, fun _ => rfl, by rw [CS.dirtyKeys_none rfl]; simp, fun i hi => hi, fun i hi => hC.footLt i hi, lt_of_heap Hlt.out.heap, rfl, headOk_fresh n (by omega)⟩⟩, HB3.out⟩
  rcases HFt.out i hi with h | h
  · omega
  · omega
end Go.Proofs.YtkkmbgjlmdddoabGreat
/- inodesOf, Open. -/
namespace Go.Proofs.YtkkmbgjlmdddoabGreat
open Go.RowKit
/-- How many inodes a superblock tells. -/
def inoS (l : List UInt8) : Nat := numS ((l.drop 8).take 4)
theorem len_four (l : List UInt8) (h : l.length = 512) : ((l.drop 8).take 4).length = 4 := by rw [List.length_take, List.length_drop, h]; rfl
theorem four_bytes {w : World} {g : Nat} {l : List UInt8} (h : bytesAt w ⟨g, 0, none⟩ l) (hl : l.length = 512) : bytesIn w (some ⟨g, 8, none⟩) ((l.drop 8).take 4) := fun _ _ => ⟨g, 8, rfl, fun k hk => by
  have hk2 : k < 4 := by rw [len_four l hl] at hk; exact hk
  have := h (8 + k) (by omega)
  rw [Addr.add_mid, Nat.zero_add] at this
  rw [this]
  simp⟩
set_option maxRecDepth 100000 in
set_option maxHeartbeats 2000000 in
theorem ainodesOf_any (g cap N : Nat) (l : List UInt8) (w : World) (h : bytesAt w ⟨g, 0, none⟩ l) (hl : l.length = 512) (hc : 512 ≤ cap) (hN : N ≤ 4096) :
    Calls Tryz.prog 30 #[.slice (some ⟨g, 0, none⟩) 512 cap, .int .i64 N] w fun e w' => e = .returned (.tuple #[.int .i64 (inoS l : Nat), .bool (decide (mayP N (inoS l : Nat) ∧ l = superL N (inoS l)))]) ∧ Below w.heap.size w w' := by
  have hnu := number_any ((l.drop 8).take 4) (some ⟨g, 8, none⟩) (cap - 8) w (four_bytes h hl) (by rw [len_four l hl]; decide)
  rw [len_four l hl] at hnu
  have HNu : Hid (Calls Tryz.prog 61 #[.slice (some ⟨g, 8, none⟩) 4 (cap - 8)] w fun e w' => e = .returned (.int .i64 (inoS l : Nat)) ∧ w' = w) := hnu
  have HM := hid (amayBe_any N (inoS l : Nat) hN w)
  have HBy := hid h
  have HL := hid hl
  obtain ⟨n, hn⟩ : ∃ n, n = inoS l := ⟨_, rfl⟩
  rw [← hn] at HNu HM ⊢
  have hc5' : (512 : Int) ≤ (cap : Int) := by omega
  clear hnu h hn hl
  by_cases hmay : mayP N (n : Int)
  · rw [decide_eq_true hmay] at HM
    have hn5 : n ≤ 4096 := by have := hmay.2.1; omega
    have HSu := hid (asuper_any N n hN hn5 w)
    have Hmay := hid hmay
    clear hmay hn5
    go_enter Tryz.func30, Tryz.ntmps30
    go_wp2_with fail
    refine HNu.out.mono ?_
    clear HNu
    rintro e w3 ⟨rfl, h3⟩
    obtain rfl := h3.symm
    clear h3
    go_wp2_with fail
    refine HM.out.mono ?_
    clear HM
    rintro e w3 ⟨rfl, h3⟩
    obtain rfl := h3.symm
    clear h3
    go_wp2_with fail
    refine HSu.out.mono ?_
    clear HSu
    rintro e w3 ⟨rfl, hb3, hB3⟩
    have heq := equal_any l (superL N n) ⟨g, 0, none⟩ ⟨w.heap.size, 0, none⟩ cap 512 w3 (fun j hj => (hB3.cell (World.block_lt_of_cell? w _ (HBy.out j hj))).trans (HBy.out j hj)) hb3.at
    rw [HL.out, length_superL] at heq
    have HEq := hid heq
    have HB3 := hid hB3
    clear heq hb3 hB3
    go_wp2_with fail
    refine HEq.out.mono ?_
    clear HEq
    rintro e w4 ⟨rfl, h4⟩
    obtain rfl := h4.symm
    clear h4
    go_wp2
    go_returns
    refine ⟨?_, HB3.out⟩
    have : decide (mayP N (n : Int) ∧ l = superL N n) = decide (l = superL N n) := decide_eq_decide.2 ⟨fun h => h.2, fun h => ⟨Hmay.out, h⟩⟩
    rw [this]
    rfl
  · rw [decide_eq_false hmay] at HM
    rw [decide_eq_false (fun h => hmay h.1)]
    clear hmay
    go_enter Tryz.func30, Tryz.ntmps30
    go_wp2_with fail
    refine HNu.out.mono ?_
    clear HNu
    rintro e w3 ⟨rfl, h3⟩
    obtain rfl := h3.symm
    clear h3
    go_wp2_with fail
    refine HM.out.mono ?_
    clear HM
    rintro e w3 ⟨rfl, h3⟩
    obtain rfl := h3.symm
    clear h3
    go_wp2
    go_returns
    exact ⟨rfl, Below.refl _ _⟩
section
variable {w : World} {c : Nat} {F : Nat → Prop} {size N : Nat} {Pg Cm : Nat → List UInt8} {D : Int → Bool} {o u : Nat}
/-- What Open tells. -/
def AOpenTo (w : World) (c : Nat) (F : Nat → Prop) (size N : Nat) (Pg Cm : Nat → List UInt8) (D : Int → Bool) (o u : Nat) (e : Ending) (w' : World) : Prop :=
  Keeps F w w' ∧ Pc w' c F size N Pg Cm D o (u + 1) ∧ ((¬ (mayP N (inoS (Pg 0) : Nat) ∧ Pg 0 = superL N (inoS (Pg 0))) ∧ e = .returned (.tuple #[.pointer none, .int .i64 9])) ∨
    (mayP N (inoS (Pg 0) : Nat) ∧ Pg 0 = superL N (inoS (Pg 0)) ∧ ∃ m, w.heap.size ≤ m ∧ ¬ F m ∧ mapB w' m c (inoS (Pg 0)) ∧ e = .returned (.tuple #[.pointer (some ⟨m, 0, none⟩), .int .i64 0])))
set_option maxRecDepth 100000 in
set_option maxHeartbeats 2000000 in
theorem aOpen_any (hN : 1 ≤ N) (hu : u < 1000000) (hp : Pc w c F size N Pg Cm D o u) :
    Calls Tryz.prog 6 #[.pointer (some ⟨c, 0, none⟩)] w (AOpenTo w c F size N Pg Cm D o u) := by
  have HRd := hid (hp.read (Below.refl _ w) 0 (by omega) hu)
  have HLen := hid (hp.len 0 (by omega))
  have HN4 := hid hp.four
  have HFl := hid hp.lt
  clear hp
  unfold AOpenTo
  obtain ⟨l, hlE⟩ : ∃ l, l = Pg 0 := ⟨_, rfl⟩
  rw [← hlE] at HLen HRd ⊢
  clear hlE
  obtain ⟨n, hn⟩ : ∃ n, n = inoS l := ⟨_, rfl⟩
  rw [← hn]
  have HNn := hid hn
  clear hn
  go_enter Tryz.func6, Tryz.ntmps6
  go_wp2_with fail
  refine HRd.out.mono ?_
  clear HRd
  rintro e w1 ⟨g, cap, rfl, hcap, hg, hr, hk1, hf1⟩
  have hp1 := hf1 w1 (Keeps.refl _ _)
  obtain ⟨p, hl1, hl2⟩ := hp1.logPages
  have HL1 := hid hl1
  have HL2 := hid hl2
  have HP1 := hid hp1
  have HK1 := hid hk1
  have HIn := hid (fun W (hW : Below w1.heap.size w1 W) => ainodesOf_any g cap N l W ((hr.below hW).1) HLen.out hcap HN4.out)
  clear hl1 hl2 hp1 hk1 hf1 hr
  go_wp2_with fail
  refine HL1.out.mono ?_
  clear HL1
  rintro e w2 ⟨rfl, h2⟩
  obtain rfl := h2.symm
  clear h2
  go_wp2_with fail
  refine HL2.out.mono ?_
  clear HL2
  rintro e w2 ⟨rfl, hb2⟩
  have HB2 := hid hb2
  have HIn2 := hid (HIn.out w2 hb2)
  clear hb2 HIn
  rw [← HNn.out] at HIn2
  clear HNn
  by_cases hok : mayP N (n : Int) ∧ l = superL N n
  · rw [decide_eq_true hok] at HIn2
    have Hok := hid hok
    clear hok
    go_wp2_with fail
    refine HIn2.out.mono ?_
    clear HIn2
    rintro e w3 ⟨rfl, hb3⟩
    have HB3 := hid (HB2.out.trans (hb3.mono HB2.out.size))
    clear hb3
    go_wp2
    go_returns
    have hb4 : Below w3.heap.size w3 (w3.alloc (.cells #[.pointer (some ⟨c, 0, none⟩), .int .i64 n] 53)) := (Below.refl _ w3).alloc (Nat.le_refl _) _
    have hB4 := HB3.out.trans (hb4.mono HB3.out.size)
    have hsz := HK1.out.size
    have hsz3 := HB3.out.size
    refine ⟨HK1.out.trans (Keeps.of_below hB4 : Keeps F w1 _) (fun i e => .inl e), HP1.out.below hB4, .inr ⟨Hok.out.1, Hok.out.2, w3.heap.size, by omega, fun hf => by have := HFl.out _ hf; omega, block_new w3 _, rfl⟩⟩
  · rw [decide_eq_false hok] at HIn2
    have Hok := hid hok
    clear hok
    go_wp2_with fail
    refine HIn2.out.mono ?_
    clear HIn2
    rintro e w3 ⟨rfl, hb3⟩
    have HB3 := hid (HB2.out.trans (hb3.mono HB2.out.size))
    clear hb3
    go_wp2
    go_returns
    exact ⟨HK1.out.trans (Keeps.of_below HB3.out : Keeps F w1 _) (fun i e => .inl e), HP1.out.below HB3.out, .inl ⟨Hok.out, rfl⟩⟩
end
end Go.Proofs.YtkkmbgjlmdddoabGreat
