/- law05's live. -/
import Derived.Test.YtkkmbgjlmdddoabGreatBaseG
import Derived.Test.YtkkmbgjlmdddoabGreatAlPage
namespace Go.Proofs.YtkkmbgjlmdddoabGreat
open Go.RowKit
theorem freeTo_none {L : List UInt8} {a z : Nat} : ∀ k, (∀ j, j < k → isFree L a z j = false) → freeTo L a z k = []
  | 0, _ => rfl
  | k + 1, h => by rw [freeTo_no (h k (by omega)), freeTo_none k (fun j hj => h j (by omega))]
/-- The first free one. -/
theorem freeTo_is {L : List UInt8} {a z k : Nat} (h1 : ∀ j, j < k → isFree L a z j = false) (h2 : isFree L a z k = true) (hk : k < 4096) : ∃ rest, freeTo L a z 4096 = k :: rest := freeTo_head (freeTo_none k h1) h2 hk
theorem freeTo_count {L : List UInt8} {a z lo : Nat} (h : ∀ n, n < 4096 → isFree L a z n = decide (lo ≤ n ∧ n < z)) : ∀ k, k ≤ 4096 → (freeTo L a z k).length = min k z - lo
  | 0, _ => by rw [freeTo_zero]; simp
  | k + 1, hk => by
    have ih := freeTo_count h k (by omega)
    have h1 := h k (by omega)
    by_cases hf : lo ≤ k ∧ k < z
    · rw [decide_eq_true hf] at h1
      rw [freeTo_yes h1, List.length_append, ih]
      simp
      omega
    · rw [decide_eq_false hf] at h1
      rw [freeTo_no h1, ih]
      omega
theorem isFree_bits {k a z n : Nat} (hk : k ≤ 4096) (ha : a ≤ k) : isFree (bitsTo k) a z n = decide (k ≤ n ∧ n < z) := by
  unfold isFree
  rw [bitL_bitsTo k n hk]
  by_cases h : n < k
  · rw [decide_eq_true h, decide_eq_false (p := k ≤ n ∧ n < z) (fun hh => by omega)]; simp
  · rw [decide_eq_false h]
    simp only [Bool.not_false, Bool.and_true]
    apply decide_eq_decide.2
    omega
theorem dkD_putLD (N : Nat) : ∀ (ks : List (Nat × List UInt8)) (D : Int → Bool), (dkD N (putLD D ks)).length ≤ (dkD N D).length + ks.length
  | [], _ => Nat.le_refl _
  | p :: ks, D => by
    have ih := dkD_putLD N ks (updT D p.1)
    have h1 := dkD_updT N D p.1
    have e : putLD D (p :: ks) = putLD (updT D p.1) ks := rfl
    rw [e, List.length_cons]
    have h2 : (if D (p.1 : Int) = true then 0 else 1) ≤ 1 := by split <;> omega
    omega
theorem dkD_upd1 (N : Nat) (D : Int → Bool) (n : Nat) : (dkD N (updT D n)).length ≤ (dkD N D).length + 1 := by
  have h1 := dkD_updT N D n
  have h2 : (if D (n : Int) = true then 0 else 1) ≤ 1 := by split <;> omega
  omega
theorem length_empK (N ino k : Nat) : (empK N ino k).length = 3 + k := by simp [empK]; omega
/-- What page n has, behind Make. -/
theorem putL_other {Pg : Nat → List UInt8} {n : Nat} : ∀ (ks : List (Nat × List UInt8)), (∀ x ∈ ks, x.1 ≠ n) → putL Pg ks n = Pg n := by
  intro ks
  induction ks generalizing Pg with
  | nil => intro _; rfl
  | cons p ks ih =>
    intro h
    have e : putL Pg (p :: ks) = putL (updP Pg p.1 p.2) ks := rfl
    rw [e, ih (fun x hx => h x (List.mem_cons_of_mem _ hx))]
    unfold updP
    rw [if_neg (fun e => h p List.mem_cons_self e.symm)]
theorem made_at (N ino k : Nat) (Pg : Nat → List UInt8) : putL Pg (empK N ino k) 0 = superL N ino ∧ putL Pg (empK N ino k) 1 = bitsTo 1 ∧ putL Pg (empK N ino k) 2 = bitsTo (3 + ino / 8) := by
  have e : putL Pg (empK N ino k) = putL (updP (updP (updP Pg 0 (superL N ino)) 1 (bitsTo 1)) 2 (bitsTo (3 + ino / 8))) ((List.range k).map (fun j => (3 + j, zN 512))) := rfl
  have hr : ∀ n, n < 3 → ∀ x ∈ (List.range k).map (fun j => (3 + j, zN 512)), x.1 ≠ n := fun n hn x hx => by
    obtain ⟨j, -, rfl⟩ := List.mem_map.1 hx
    show 3 + j ≠ n
    omega
  rw [e, putL_other _ (hr 0 (by omega)), putL_other _ (hr 1 (by omega)), putL_other _ (hr 2 (by omega))]
  exact ⟨rfl, rfl, rfl⟩
theorem freeBits {k a z : Nat} (hk : k ≤ 4096) (ha : a ≤ k) (hz : z ≤ 4096) : (freeTo (bitsTo k) a z 4096).length = z - k := by
  rw [freeTo_count (lo := k) (fun n _ => isFree_bits hk ha) 4096 (Nat.le_refl _)]
  omega
theorem freeBitsIs {k a z q : Nat} {rest : List Nat} (hk : k < z) (ha : a ≤ k) (hz : z ≤ 4096) (h : freeTo (bitsTo k) a z 4096 = q :: rest) : q = k := by
  obtain ⟨r, hr⟩ := freeTo_is (L := bitsTo k) (a := a) (z := z) (k := k) (fun j hj => by rw [isFree_bits (by omega) ha]; exact decide_eq_false (fun hh => by omega)) (by rw [isFree_bits (by omega) ha]; exact decide_eq_true ⟨Nat.le_refl _, hk⟩) (by omega)
  rw [hr] at h
  exact (List.cons.inj h).1.symm
section
variable {w : World} {m c ino : Nat} {F : Nat → Prop} {size N : Nat} {Pg Cm : Nat → List UInt8} {D : Int → Bool} {o u : Nat}
/-- Page, where the first k ones alone are taken. -/
theorem aPage_bits (k : Nat) (h : mapB w m c ino) (hmF : ¬ F m) (hi : ino ≤ 512) (hN : 3 ≤ N) (hu : u < 1000000) (hp : Pc w c F size N Pg Cm D o u) (hk : Pg 2 = bitsTo k) (hk1 : 3 + ino / 8 ≤ k) (hk2 : k < N) (hr : (dkD N D).length + 2 ≤ min size 100) :
    Calls Tryz.prog 7 #[.pointer (some ⟨m, 0, none⟩)] w fun e w' => e = .returned (.tuple #[.int .i64 k, .int .i64 0]) ∧ Keeps F w w' ∧ Pc w' c F size N (updP (updP Pg 2 (bitsTo (k + 1))) k (zN 512)) Cm (updT (updT D 2) k) o (u + 1) := by
  have hN4 := hp.four
  refine (aPage_any h hmF hi hN hu hp).mono ?_
  rintro e w' ⟨hk9, hx⟩
  rw [hk] at hx
  rcases hx with ⟨h0, -⟩ | ⟨q, rest, h0, hx⟩
  · exfalso
    have h1 := freeBits (a := 3 + ino / 8) (z := N) (show k ≤ 4096 by omega) hk1 hN4
    rw [h0] at h1
    simp at h1
    omega
  · obtain rfl := freeBitsIs hk2 hk1 hN4 h0
    have h2 : (if D 2 = true then 0 else 1) ≤ 1 := by split <;> omega
    have h3 : (if D (q : Int) = true then 0 else 1) ≤ 1 := by split <;> omega
    rcases hx with ⟨hf, -, -⟩ | ⟨-, rfl, hp'⟩
    · omega
    · exact ⟨rfl, hk9, hp'⟩
end
set_option maxRecDepth 100000 in
set_option maxHeartbeats 2000000 in
theorem l5live_any (w : World) : Calls Tryz.prog 11 #[] w fun e w' => e = .returned (.bool true) ∧ Below w.heap.size w w' := by
  have hma := made_at 40 8 1 (fun _ => zN 512)
  have hdk := dkD_putLD 40 (empK 40 8 1) (fun _ => false)
  rw [dkD_none, length_empK, List.length_nil] at hdk
  have HMa := hid hma
  have HDk := hid hdk
  clear hma hdk
  go_enter Tryz.func11, Tryz.ntmps11
  go_wp2_with fail
  refine (cached_any 40 50 (by omega) (by omega) (by omega) w).mono ?_
  rintro e w1 ⟨c, F, rfl, hF, hp1, hb1⟩
  have HF := hid hF
  have HB1 := hid hb1
  have HMk := hid (amake_any 8 hp1)
  clear hF hp1 hb1
  go_wp2_with fail
  refine HMk.out.mono ?_
  clear HMk
  rintro e w2 ⟨hk2, hx⟩
  have hmay : mayP 40 8 := by decide
  rcases hx with ⟨h, -⟩ | ⟨n, hn, -, hx⟩
  · exact absurd hmay h
  obtain rfl : n = 8 := by omega
  rcases hx with ⟨h, -⟩ | ⟨-, m, hm, hmF, hmb, rfl, hp2⟩
  · rw [dkD_none] at h; exact absurd h (by decide)
  have HK2 := hid hk2
  have HMm := hid hmb
  have hPg := aPage_bits 4 hmb hmF (by omega) (by omega) (by omega) hp2 HMa.out.2.2 (by decide) (by omega) (by have h4 : (dkD 40 (putLD (fun _ => false) (empK 40 8 (8 / 8)))).length ≤ 0 + (3 + 1) := HDk.out; omega)
  have HPg := hid hPg
  have HmF := hid hmF
  clear hk2 hmb hp2 hPg hmay hn hm hmF
  go_wp2_with fail
  refine HPg.out.mono ?_
  clear HPg
  rintro e w3 ⟨rfl, hk3, hp3⟩
  have HM3 : Hid (mapB w3 m c 8) := HMm.out.keep hk3 HmF.out
  have HK3 := hid (HK2.out.trans hk3 (fun i e => .inl e))
  have h5 : updP (updP (putL (fun _ => zN 512) (empK 40 8 (8 / 8))) 2 (bitsTo (4 + 1))) 4 (zN 512) 2 = bitsTo 5 := rfl
  have hd3 : (dkD 40 (updT (updT (putLD (fun _ => false) (empK 40 8 (8 / 8))) (2 : Nat)) (4 : Nat))).length + 2 ≤ 50 := by
    have h1 := dkD_upd1 40 (updT (putLD (fun _ => false) (empK 40 8 (8 / 8))) (2 : Nat)) 4
    have h2 := dkD_upd1 40 (putLD (fun _ => false) (empK 40 8 (8 / 8))) 2
    have h3 := HDk.out
    have h4 : (dkD 40 (putLD (fun _ => false) (empK 40 8 (8 / 8)))).length ≤ 0 + (3 + 1) := h3
    omega
  have HPg := hid (aPage_bits 5 HM3.out HmF.out (by omega) (by omega) (by omega) hp3 h5 (by decide) (by omega) (by exact hd3))
  clear hk3 hp3 h5 hd3
  go_wp2_with fail
  refine HPg.out.mono ?_
  clear HPg
  rintro e w4 ⟨rfl, hk4, hp4⟩
  have HM4 : Hid (mapB w4 m c 8) := HM3.out.keep hk4 HmF.out
  have HK4 := hid (HK3.out.trans hk4 (fun i e => .inl e))
  have hfr := aFree_any HM4.out HmF.out (by omega) (by omega) (by omega) (by omega) hp4
  have e2 : updP (updP (updP (updP (putL (fun _ => zN 512) (empK 40 8 (8 / 8))) 2 (bitsTo (4 + 1))) 4 (zN 512)) 2 (bitsTo (5 + 1))) 5 (zN 512) 2 = bitsTo 6 := rfl
  have e1 : updP (updP (updP (updP (putL (fun _ => zN 512) (empK 40 8 (8 / 8))) 2 (bitsTo (4 + 1))) 4 (zN 512)) 2 (bitsTo (5 + 1))) 5 (zN 512) 1 = bitsTo 1 := HMa.out.2.1
  rw [e1, e2, freeBits (by omega) (by decide) (by omega), freeBits (by omega) (by omega) (by omega)] at hfr
  have HFr := hid hfr
  clear hk4 hp4 hfr e1 e2
  go_wp2_with fail
  refine HFr.out.mono ?_
  clear HFr
  rintro e w5 ⟨rfl, hk5, -⟩
  have HM5 : Hid (mapB w5 m c 8) := HM4.out.keep hk5 HmF.out
  have HK5 := hid (HK4.out.trans hk5 (fun i e => .inl e))
  have HFi := hid (amFirst_any HM5.out (by omega))
  clear hk5
  go_wp2_with fail
  refine HFi.out.mono ?_
  clear HFi
  rintro e w6 ⟨rfl, h6⟩
  obtain rfl := h6.symm
  clear h6
  go_wp2
  go_ret
  refine ⟨?_, HB1.out.trans (HK5.out.below HB1.out.size (fun i hi => HF.out i hi))⟩
  rfl
end Go.Proofs.YtkkmbgjlmdddoabGreat
