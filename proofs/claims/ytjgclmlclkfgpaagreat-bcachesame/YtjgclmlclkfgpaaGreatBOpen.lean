/- law04's Deed.bytes, and its open. -/
import Derived.Test.YtjgclmlclkfgpaaGreatBOne
import Derived.Test.YtjgclmlclkfgpaaGreatWRef
namespace Go.Proofs.YtjgclmlclkfgpaaGreat
open Go.RowKit
/-- How many bytes a deed has. -/
def dlen (s : Bool) : Nat := if s then 511 else 512
/-- The bytes of a deed. -/
def dbytes (s : Bool) (x : UInt8) : List UInt8 := List.replicate (dlen s) x
theorem length_dbytes (s : Bool) (x : UInt8) : (dbytes s x).length = dlen s := List.length_replicate
def dTo (n : Nat) (x : UInt8) (k : Nat) : List UInt8 := List.replicate k x ++ zN (n - k)
theorem dTo_zero (n : Nat) (x : UInt8) : dTo n x 0 = zN n := by simp [dTo]
theorem dTo_full (n : Nat) (x : UInt8) : dTo n x n = List.replicate n x := by
  rw [dTo, Nat.sub_self]; exact List.append_nil _
theorem length_dTo (n : Nat) (x : UInt8) (k : Nat) (h : k ≤ n) : (dTo n x k).length = n := by
  rw [dTo, List.length_append, List.length_replicate, length_zN]; omega
theorem dTo_succ (n : Nat) (x : UInt8) (k : Nat) (h : k < n) : (dTo n x k).set k x = dTo n x (k + 1) := by
  have e : n - k = (n - (k + 1)) + 1 := by omega
  rw [dTo, dTo, List.set_append_right _ _ (by rw [List.length_replicate]; exact Nat.le_refl _), List.length_replicate, Nat.sub_self, e, zN, List.replicate_succ, List.set_cons_zero, List.replicate_succ', List.append_assoc]
  rfl
set_option maxRecDepth 100000 in
set_option maxHeartbeats 1000000 in
theorem b4bytes_n (n : Nat) (s : Bool) (hn : dlen s = n) (k pg : Int) (x : UInt8) (w : World) :
    Calls Tryz.prog 28 #[.agg #[.int .i64 k, .int .i64 pg, .int .u8 (x.toNat : Int), .bool s]] w fun e w' => Below w.heap.size w w' ∧ e = .returned (.slice (some ⟨w.heap.size + 1, 0, none⟩) n n) ∧ ownB w' (w.heap.size + 1) (List.replicate n x) := by
  have HB0 := hid ((Below.refl w.heap.size w).alloc (Nat.le_refl _) (.cells #[.int .i64 k, .int .i64 pg, .int .u8 (x.toNat : Int), .bool s] 30))
  have Hb0 := hid (block_new w (.cells #[.int .i64 k, .int .i64 pg, .int .u8 (x.toNat : Int), .bool s] 30))
  obtain ⟨wA, hA⟩ : ∃ wA, wA = w.alloc (.cells #[.int .i64 k, .int .i64 pg, .int .u8 (x.toNat : Int), .bool s] 30) := ⟨_, rfl⟩
  have hsA : wA.heap.size = w.heap.size + 1 := by rw [hA]; simp
  rw [← hA] at HB0 Hb0
  have c3 : wA.cell? ⟨w.heap.size, 3, none⟩ = some (.bool s) := cell_of_block Hb0.out 3
  have hn4 : n ≤ 512 := by rw [← hn]; unfold dlen; split <;> omega
  have HSA := hid hsA
  clear hsA
  go_enter Tryz.func28, Tryz.ntmps28
  go_upto_region 1 with (fail)
  rw [← hA]
  clear hA
  cases s with
  | false =>
    obtain rfl : n = 512 := hn.symm
    clear hn
    go_wp2_with (refine wpList_make_u8 rfl (.tmp 8) (.tmp 8) rfl 512 512 rfl rfl rfl (by omega) ?_; intro w1 hb1 hr1 hz1; have HB1 := hid hb1; have HR1 : Hid (ownB w1 wA.heap.size (zN 512)) := (by unfold Hid ownB; rw [hr1, rep_U8]); clear hb1 hr1 hz1)
    rw [HSA.out] at *
    have HM1 := hid (below_block HB1.out Hb0.out (by rw [HSA.out]; omega))
    clear c3
    go_loopw [5] (fun i wr => ∃ q : Nat, q ≤ 512 ∧ i = .int .i64 q ∧ Hid (ownB wr (w.heap.size + 1) (dTo 512 x q)) ∧ Hid (Keeps (fun i => i = w.heap.size + 1) w1 wr)) (fun i _ => 512 - (intOf i).toNat)
    case atStart => exact ⟨0, by omega, rfl, by rw [dTo_zero]; exact HR1, Keeps.refl _ _⟩
    case round =>
      obtain ⟨q, hq, rfl, hOw, hKi⟩ := hrel
      have hMi := hKi.out.heap HM1.out (fun e => by omega)
      have d2 : wr.cell? ⟨w.heap.size, 2, none⟩ = some (.int .u8 (x.toNat : Int)) := cell_of_block hMi 2
      clear hMi
      by_cases hq5 : q < 512
      · have hq0 : (0 : Int) ≤ (q : Int) := by omega
        have hq1 : (q : Int) < 512 := by omega
        obtain ⟨old, cl⟩ : ∃ v, wr.cell? ⟨w.heap.size + 1, q, none⟩ = some v := ⟨_, hOw.out.cell q (by rw [length_dTo _ _ _ hq]; exact hq5)⟩
        have fl := hOw.out.frozen q
        have hs := hOw.out.set q x
        rw [dTo_succ 512 x q hq5] at hs
        have HSt := hid hs
        clear hs
        go_wp2
        exact ⟨⟨q + 1, by omega, by go_num, HSt, hKi.out.grown (grown_setCell (grown_refl _ _) _ _) (fun i e => .inl (Option.some.inj e).symm)⟩, by simp [intOf]; omega⟩
      · obtain rfl : q = 512 := by omega
        have hge : ¬ (((512 : Nat) : Int) < 512) := by omega
        have hOf := hOw.out
        rw [dTo_full] at hOf
        have HOf := hid hOf
        have HBf : Hid (Below w.heap.size w wr) := by
          have hbb := HB0.out.trans (HB1.out.mono (Nat.le_succ _))
          exact hbb.trans (hKi.out.below hbb.size (fun i e => by omega))
        clear hOf hOw
        go_wp2
        go_ret
        exact ⟨HBf.out, rfl, HOf.out⟩
  | true =>
    obtain rfl : n = 511 := hn.symm
    clear hn
    go_wp2_with (refine wpList_make_u8 rfl (.tmp 8) (.tmp 8) rfl 511 511 rfl rfl rfl (by omega) ?_; intro w1 hb1 hr1 hz1; have HB1 := hid hb1; have HR1 : Hid (ownB w1 wA.heap.size (zN 511)) := (by unfold Hid ownB; rw [hr1, rep_U8]); clear hb1 hr1 hz1)
    rw [HSA.out] at *
    have HM1 := hid (below_block HB1.out Hb0.out (by rw [HSA.out]; omega))
    clear c3
    go_loopw [5] (fun i wr => ∃ q : Nat, q ≤ 511 ∧ i = .int .i64 q ∧ Hid (ownB wr (w.heap.size + 1) (dTo 511 x q)) ∧ Hid (Keeps (fun i => i = w.heap.size + 1) w1 wr)) (fun i _ => 511 - (intOf i).toNat)
    case atStart => exact ⟨0, by omega, rfl, by rw [dTo_zero]; exact HR1, Keeps.refl _ _⟩
    case round =>
      obtain ⟨q, hq, rfl, hOw, hKi⟩ := hrel
      have hMi := hKi.out.heap HM1.out (fun e => by omega)
      have d2 : wr.cell? ⟨w.heap.size, 2, none⟩ = some (.int .u8 (x.toNat : Int)) := cell_of_block hMi 2
      clear hMi
      by_cases hq5 : q < 511
      · have hq0 : (0 : Int) ≤ (q : Int) := by omega
        have hq1 : (q : Int) < 511 := by omega
        obtain ⟨old, cl⟩ : ∃ v, wr.cell? ⟨w.heap.size + 1, q, none⟩ = some v := ⟨_, hOw.out.cell q (by rw [length_dTo _ _ _ hq]; exact hq5)⟩
        have fl := hOw.out.frozen q
        have hs := hOw.out.set q x
        rw [dTo_succ 511 x q hq5] at hs
        have HSt := hid hs
        clear hs
        go_wp2
        exact ⟨⟨q + 1, by omega, by go_num, HSt, hKi.out.grown (grown_setCell (grown_refl _ _) _ _) (fun i e => .inl (Option.some.inj e).symm)⟩, by simp [intOf]; omega⟩
      · obtain rfl : q = 511 := by omega
        have hge : ¬ (((511 : Nat) : Int) < 511) := by omega
        have hOf := hOw.out
        rw [dTo_full] at hOf
        have HOf := hid hOf
        have HBf : Hid (Below w.heap.size w wr) := by
          have hbb := HB0.out.trans (HB1.out.mono (Nat.le_succ _))
          exact hbb.trans (hKi.out.below hbb.size (fun i e => by omega))
        clear hOf hOw
        go_wp2
        go_ret
        exact ⟨HBf.out, rfl, HOf.out⟩
theorem b4bytes_any (s : Bool) (k pg : Int) (x : UInt8) (w : World) :
    Calls Tryz.prog 28 #[.agg #[.int .i64 k, .int .i64 pg, .int .u8 (x.toNat : Int), .bool s]] w fun e w' => Below w.heap.size w w' ∧ e = .returned (.slice (some ⟨w.heap.size + 1, 0, none⟩) (dlen s) (dlen s)) ∧ ownB w' (w.heap.size + 1) (dbytes s x) :=
  b4bytes_n (dlen s) s rfl k pg x w
theorem RLogIn.belowK {w w' : World} {q r : Nat} {fv lv : Value} {vs : List Value} {Rd : Nat → Prop} {R : RefS} {size rec : Nat} (h : RLogIn w q r fv lv vs Rd R size rec) (k : Below w.heap.size w w') : RLogIn w' q r fv lv vs Rd R size rec :=
  ⟨below_block k h.heap (lt_of_heap h.heap), h.disk.below k, fun i hi => Nat.lt_of_lt_of_le (h.rd i hi) k.size, h.off, h.ne⟩
set_option maxRecDepth 100000 in
theorem r4new_ok (m most : Nat) (hm1 : 1 ≤ most) (hm2 : most ≤ 64) (w : World) :
    Calls Tryz.prog 42 #[.pointer (some ⟨m, 0, none⟩), .int .i64 most] w fun e w' => e = .returned (.tuple #[.pointer (some ⟨w.heap.size, 0, none⟩), .int .i64 0]) ∧ Below w.heap.size w w' ∧ w'.heap[w.heap.size]? = some (.cells #[.pointer (some ⟨m, 0, none⟩), .int .i64 most, .slice none 0 0, .slice none 0 0] 46 (0, 0)) := by
  have k1 : ¬ ((most : Int) < 1) := by omega
  have k2 : ¬ ((most : Int) > 64) := by omega
  go_enter Tryz.func42, Tryz.ntmps42
  go_wp2
  go_returns
  exact ⟨rfl, (Below.refl _ w).alloc (Nat.le_refl _) _, block_new w _⟩
set_option maxRecDepth 100000 in
set_option maxHeartbeats 1000000 in
/-- Caches over new disks. -/
theorem b4open_ok (size most : Nat) (h1 : 1 ≤ size) (h2 : size ≤ 12) (hm1 : 1 ≤ most) (hm2 : most ≤ 64) (w : World) :
    Calls Tryz.prog 7 #[.int .i64 size, .int .i64 most] w fun e w' => Below w.heap.size w w' ∧ ∃ c L q m r fv Rd, e = .returned (.tuple #[.pointer (some ⟨c, 0, none⟩), .pointer (some ⟨q, 0, none⟩), .bool true]) ∧ w.heap.size ≤ c ∧ L.dv = (fun _ => none) ∧ (∀ i, L.foot c i → w.heap.size ≤ i) ∧
      CacheAt w' c L ⟨freshN (size + 12), size, pagesS (freshN (size + 12)) size, fun _ => none, most, 0, fun _ => none⟩ ∧ w'.heap[q]? = some (.cells #[.pointer (some ⟨m, 0, none⟩), .int .i64 most, .slice none 0 0, .slice none 0 0] 46 (0, 0)) ∧ w.heap.size ≤ q ∧ RLogIn w' m r fv (.slice none 0 0) [] Rd (rfresh (size + 12)) size 0 ∧ (∀ i, Rd i → w.heap.size ≤ i) := by
  obtain ⟨n, hn⟩ : ∃ n, n = size + 12 := ⟨_, rfl⟩
  rw [← hn]
  have hn1 : IntKind.i64.wrap ((size : Int) + 12) = (n : Int) := by rw [IntWalk.i64_in _ (by omega)]; omega
  have hn2 : size + 2 ≤ n := by omega
  have hn3 : n ≤ 4096 := by omega
  have HN := hid hn
  clear hn
  go_enter Tryz.func7, Tryz.ntmps7
  go_wp2_with fail
  refine (new_disk n (by omega) hn3 _).mono ?_
  rintro e w1 ⟨d, rfl, hD, -, -, hB⟩
  have HD : Hid (DiskIn w1 d (freshN n)) := hD
  have HB1 := hid hB
  have HRn := hid (rnew_ok n (by omega) hn3 w1)
  clear hD hB
  go_wp2_with fail
  refine HRn.out.mono ?_
  clear HRn
  rintro e w2 ⟨rfl, hb2, fv, hR2⟩
  have HR2 := hid hR2
  have HB2 := hid (HB1.out.trans (hb2.mono HB1.out.size))
  have hs12 := hb2.size
  have hs01 := HB1.out.size
  have hOp := open_zero d (freshN n) size w2 (HD.out.below hb2) (by show 0 ≤ 4096; decide) h1 (by rw [freshN_len]; exact hn2) (by rw [show ((0 : Int)) = ((0 : Nat) : Int) from rfl, freshN_seen n 0 (by omega)]; exact blank_zeros)
  have HOp := hid hOp
  clear hb2 hR2 HD hOp
  go_wp2_with fail
  refine HOp.out.mono ?_
  clear HOp
  rintro e w3 ⟨hb3, p, d3, rfl, hp3, hL3⟩
  have HL3 := hid hL3
  have HB3 := hid (HB2.out.trans (hb3.mono HB2.out.size))
  have hs23 := hb3.size
  have hpl := lt_of_heap hL3.heap
  have hR3 := HR2.out.keep (Keeps.of_below (F := fun _ => False) hb3) (fun _ _ h => h) (fun h => h)
  have hRo := ropen_zero w1.heap.size fv (.slice none 0 0) [] _ (rfresh n) size w3 hR3 (fun i hi => by omega) (okR_fresh n hn3) (by show 0 ≤ 1000000; decide) h1 (by rw [rfresh_length]; exact hn2) (by
    show (rfresh n).first[0]? = some zeros
    rw [List.getElem?_eq_getElem (by rw [rfresh_length]; omega), rfresh_at])
  have HRo := hid hRo
  clear hb3 hL3 hR3 hRo HR2
  go_wp2_with fail
  refine HRo.out.mono ?_
  clear HRo
  rintro e w4 ⟨hb4, q, r, rfl, hq, hr, hRl⟩
  have HRl := hid hRl
  have HL4 : Hid (LogIn w4 p d3 (freshN n) size 0 (fun i => w2.heap.size ≤ i ∧ i < p)) := ⟨below_block hb4 HL3.out.heap (lt_of_heap HL3.out.heap), HL3.out.disk.below hb4, HL3.out.off⟩
  have HB4 := hid (HB3.out.trans (hb4.mono HB3.out.size))
  have hs34 := hb4.size
  have HNw := hid (bnew_ok p d3 (freshN n) size (fun i => w2.heap.size ≤ i ∧ i < p) most hm1 hm2 w4 HL4.out (fun i hi => by omega) (by rw [freshN_len]; omega))
  clear hb4 hRl HL3 HL4
  go_wp2_with fail
  refine HNw.out.mono ?_
  clear HNw
  rintro e w5 ⟨hb5, c, L, rfl, hc5, hdv, hLF, hft, hC5⟩
  have HC5 := hid hC5
  have HB5 := hid (HB4.out.trans (hb5.mono HB4.out.size))
  have HR5 := hid (HRl.out.belowK hb5)
  have HRk := hid (r4new_ok q most hm1 hm2 w5)
  have HFt := hid hft
  have HDv := hid hdv
  have hs45 := hb5.size
  clear hb5 hC5 hft hLF HRl hdv
  go_wp2_with fail
  refine HRk.out.mono ?_
  clear HRk
  rintro e w6 ⟨rfl, hb6, hq6⟩
  have HQ6 := hid hq6
  have HC6 := hid (HC5.out.below hb6)
  have HR6 := hid (HR5.out.belowK hb6)
  have HB6 := hid (HB5.out.trans (hb6.mono HB5.out.size))
  clear hb6 hq6 HC5 HR5
  go_wp2
  go_returns
  exact ⟨HB6.out, c, L, _, q, r, fv, _, rfl, by omega, HDv.out, fun i hi => (HFt.out i hi).elim (fun h => by omega) (fun h => by omega), HC6.out, HQ6.out, by omega, HR6.out, fun i hi => by omega⟩
end Go.Proofs.YtjgclmlclkfgpaaGreat
