/- The reference's setHead. -/
import Derived.Test.YtjgclmlclkfgpaaGreatWRef
import Derived.Test.YtjgclmlclkfgpaaGreatBaseD
namespace Go.Proofs.YtjgclmlclkfgpaaGreat
open Go.RowKit
theorem u8_mod (x : Nat) : ((UInt8.ofNat (x % 256)).toNat : Int) = (x : Int) % 256 := by
  rw [UInt8.toNat_ofNat', Nat.mod_eq_of_lt (show x % 256 < 2 ^ 8 from Nat.mod_lt _ (by decide))]; omega
theorem beS_two (x : Nat) : beS 2 x = [UInt8.ofNat (x / 256 % 256), UInt8.ofNat (x % 256)] := by rw [beS, beS, beS]; rfl
theorem zN_succ (n : Nat) : zN (n + 1) = 0 :: zN n := rfl
theorem set_head (ns : List Nat) : ((((zN 512).set 0 68).set 1 78).set 2 (UInt8.ofNat (ns.length / 256 % 256))).set 3 (UInt8.ofNat (ns.length % 256)) = headTo ns 0 := by
  rw [headTo, headP, beS_two, show (512 : Nat) = 508 + 1 + 1 + 1 + 1 from rfl, zN_succ, zN_succ, zN_succ, zN_succ]
  rfl
theorem set_two (ns : List Nat) (j : Nat) (h : j < ns.length) (h2 : j < 254) : ((headTo ns j).set (4 + 2 * j) (UInt8.ofNat (ns[j] / 256 % 256))).set (5 + 2 * j) (UInt8.ofNat (ns[j] % 256)) = headTo ns (j + 1) := by
  have hl := length_headP ns j (by omega)
  rw [headTo, headTo, headP_succ ns j h, beS_two, show 508 - 2 * j = 508 - 2 * (j + 1) + 1 + 1 by omega, zN_succ, zN_succ, List.set_append_right _ _ (by omega), hl, Nat.sub_self, List.set_append_right _ _ (by omega), hl, show 5 + 2 * j - (4 + 2 * j) = 1 by omega]
  simp
set_option maxRecDepth 100000 in
set_option maxHeartbeats 2000000 in
theorem rset_any (q r : Nat) (fv lv : Value) (vs : List Value) (Rd : Nat → Prop) (R : RefS) (size rec : Nat) (ns : List Nat) (a : Option Addr) (c : Nat) (w : World) (h : RLogIn w q r fv lv vs Rd R size rec) (hm : R.l.length ≤ 900000) (hns : intsAt w a (natsZ ns)) (hl : ns.length ≤ 100) (hx : ∀ n ∈ ns, n < 65536) :
    Calls Tryz.prog 119 #[.pointer (some ⟨q, 0, none⟩), .slice a ns.length c] w fun e w' => e = .returned (.tuple #[]) ∧ ∃ lv' vs', RLogIn w' q r fv lv' vs' (moreOf Rd w w') ((R.put 0 (headS ns)).did ⟨true, 0, []⟩) size rec ∧ Keeps (fun i => i = r) w w' := by
  have H := hid h
  have HN := hid hns
  have HX := hid hx
  have hqw := lt_of_heap h.heap
  clear h hns hx
  go_enter Tryz.func119, Tryz.ntmps119
  go_wp2_with (refine wpList_make_u8 rfl (.const (.int .i64 512)) (.const (.int .i64 512)) rfl 512 512 rfl rfl rfl (by omega) ?_; intro w1 hb1 hr1 hz1; have HB1 := hid hb1; have HR1 : Hid (ownB w1 w.heap.size (zN 512)) := (by unfold Hid ownB; rw [hr1, rep_U8]); have c0 : w1.cell? ⟨w.heap.size, 0, none⟩ = some _ := HR1.out.cell 0 (by rw [length_zN]; decide); have c1 : w1.cell? ⟨w.heap.size, 1, none⟩ = some _ := HR1.out.cell 1 (by rw [length_zN]; decide); have c2 : w1.cell? ⟨w.heap.size, 2, none⟩ = some _ := HR1.out.cell 2 (by rw [length_zN]; decide); have c3 : w1.cell? ⟨w.heap.size, 3, none⟩ = some _ := HR1.out.cell 3 (by rw [length_zN]; decide); have f0 := HR1.out.frozen 0; have f1 := HR1.out.frozen 1; have f2 := HR1.out.frozen 2; have f3 := HR1.out.frozen 3; clear hb1 hr1 hz1)
  have HR2 : Hid (ownB ((((w1.setCell ⟨w.heap.size, 0, none⟩ (.int .u8 68)).setCell ⟨w.heap.size, 1, none⟩ (.int .u8 78)).setCell ⟨w.heap.size, 2, none⟩ (.int .u8 ((ns.length : Int) / 256))).setCell ⟨w.heap.size, 3, none⟩ (.int .u8 (ns.length : Int))) w.heap.size (headTo ns 0)) := by
    have e := (((HR1.out.set 0 68).set 1 78).set 2 (UInt8.ofNat (ns.length / 256 % 256))).set 3 (UInt8.ofNat (ns.length % 256))
    have e3 : ((UInt8.ofNat (ns.length % 256)).toNat : Int) = (ns.length : Int) := by rw [u8_mod]; omega
    have e2 : ((UInt8.ofNat (ns.length / 256 % 256)).toNat : Int) = (ns.length : Int) / 256 := by rw [u8_mod]; omega
    rw [e2, e3, set_head] at e
    exact e
  have HB2 : Hid (Below w.heap.size w ((((w1.setCell ⟨w.heap.size, 0, none⟩ (.int .u8 68)).setCell ⟨w.heap.size, 1, none⟩ (.int .u8 78)).setCell ⟨w.heap.size, 2, none⟩ (.int .u8 ((ns.length : Int) / 256))).setCell ⟨w.heap.size, 3, none⟩ (.int .u8 (ns.length : Int)))) :=
    HB1.out.trans (below_of_grown (grown_setCell (grown_setCell (grown_setCell (grown_setCell (grown_refl _ _) 0 _) 1 _) 2 _) 3 _) (Nat.le_refl _) HB1.out.size)
  clear c0 c1 c2 c3 f0 f1 f2 f3 HR1 HB1
  generalize ((((w1.setCell ⟨w.heap.size, 0, none⟩ (.int .u8 68)).setCell ⟨w.heap.size, 1, none⟩ (.int .u8 78)).setCell ⟨w.heap.size, 2, none⟩ (.int .u8 ((ns.length : Int) / 256))).setCell ⟨w.heap.size, 3, none⟩ (.int .u8 (ns.length : Int))) = w2 at *
  go_loopw [5] (fun i wr => ∃ j : Nat, j ≤ ns.length ∧ i = .int .i64 j ∧ Hid (ownB wr w.heap.size (headTo ns j)) ∧ Hid (Below w.heap.size w wr)) (fun i _ => ns.length - (intOf i).toNat)
  case atStart => exact ⟨0, by omega, rfl, HR2, HB2⟩
  case round =>
    obtain ⟨j, hj, rfl, hR, hB⟩ := hrel
    by_cases hlt : j < ns.length
    · have hj0 : (0 : Int) ≤ (j : Int) := by omega
      have hj1 : (j : Int) < (ns.length : Int) := by omega
      have hj2 : (j : Int) < 100 := by omega
      have hjl : j < (natsZ ns).length := by simpa using hlt
      obtain ⟨b, o, rfl, hc⟩ := HN.out j hjl
      have hcj := hc j hjl
      have hbw : b < w.heap.size := World.block_lt_of_cell? w ⟨b, o + j, none⟩ hcj
      have hcell : wr.cell? ⟨b, o + j, none⟩ = some (.int .i64 (ns[j] : Nat)) := by
        rw [hB.out.cell (p := ⟨b, o + j, none⟩) hbw, hcj]; simp
      have hnm := HX.out ns[j] (List.getElem_mem hlt)
      have hll := length_headTo ns j hj (by omega)
      have HSt := hid (set_two ns j hlt (by omega))
      obtain ⟨v0, g0⟩ : ∃ v, wr.cell? ⟨w.heap.size, 4 + 2 * j, none⟩ = some v := ⟨_, hR.out.cell (4 + 2 * j) (by rw [hll]; omega)⟩
      obtain ⟨v1, g1⟩ : ∃ v, wr.cell? ⟨w.heap.size, 5 + 2 * j, none⟩ = some v := ⟨_, hR.out.cell (5 + 2 * j) (by rw [hll]; omega)⟩
      have k0 := hR.out.frozen (4 + 2 * j)
      have k1 := hR.out.frozen (5 + 2 * j)
      have hne : b ≠ w.heap.size := by omega
      have e1 : IntKind.i64.wrap (2 * (j : Int)) = 2 * (j : Int) := by simp [IntKind.wrap, IntKind.bits, IntKind.signed]; omega
      have e2 : IntKind.i64.wrap (4 + 2 * (j : Int)) = 4 + 2 * (j : Int) := by simp [IntKind.wrap, IntKind.bits, IntKind.signed]; omega
      have e3 : IntKind.i64.wrap (5 + 2 * (j : Int)) = 5 + 2 * (j : Int) := by simp [IntKind.wrap, IntKind.bits, IntKind.signed]; omega
      have e5 : 0 ≤ 4 + 2 * (j : Int) ∧ 4 + 2 * (j : Int) < 512 := by omega
      have e6 : 0 ≤ 5 + 2 * (j : Int) ∧ 5 + 2 * (j : Int) < 512 := by omega
      have e7 : (4 + 2 * (j : Int)).toNat = 4 + 2 * j := by omega
      have e8 : (5 + 2 * (j : Int)).toNat = 5 + 2 * j := by omega
      have HCw : Hid (w.cell? ⟨b, o + j, none⟩ = some (.int .i64 (ns[j] : Nat))) := by unfold Hid; rw [hcj]; simp
      clear hc hcj hjl hll
      generalize ns[j] = x at *
      have e4 : IntKind.u8.wrap ((x : Int) / 256) = (x : Int) / 256 := by simp [IntKind.wrap, IntKind.bits, IntKind.signed]; omega
      go_wp2
      refine wp_region_noPanic ?_
      refine wp_region_held_drew (S := fun W => W.cell? ⟨b, o + j, none⟩ = some (.int .i64 (x : Int))) (by kernel_rfl) hcell (fun hHeld => ?_)
      refine wpAnyH_take (i := 0) (v := ?_) rfl (by kernel_rfl) (by kernel_rfl) (by kernel_rfl) (fun _ _ _ h => h) (Or.inl ⟨by rfl, ?_⟩) (by assumption) ?_
      rotate_left
      · (intro W hSw; (try dsimp only at hSw); obtain s1 := hSw; go_simp; try with_reducible rfl)
      try simp only [List.getElem_toArray, List.getElem_cons_zero, Act.put, List.setIfInBounds_toArray, List.set_cons_zero, List.set_cons_succ]
      refine wpAnyH_take (i := 1) (v := ?_) rfl (by kernel_rfl) (by kernel_rfl) (by kernel_rfl) (fun _ _ _ h => h) (Or.inl ⟨by rfl, ?_⟩) (by assumption) ?_
      rotate_left
      · (intro W hSw; (try dsimp only at hSw); obtain s1 := hSw; go_simp; try with_reducible rfl)
      try simp only [List.getElem_toArray, List.getElem_cons_succ, List.getElem_cons_zero, Act.put, List.setIfInBounds_toArray, List.set_cons_zero, List.set_cons_succ]
      refine wpAnyH_take (i := 2) (v := .int .i64 (2 * (j : Int))) rfl (by kernel_rfl) (by kernel_rfl) (by kernel_rfl) (fun _ _ _ h => h) (Or.inl ⟨by rfl, ?_⟩) (by assumption) ?_
      · (intro W hSw; (try dsimp only at hSw); obtain s1 := hSw; go_simp; try first | with_reducible rfl | go_num | (rw [if_pos (by assumption)]; simp only [*]) | simp only [*])
      try simp only [List.getElem_toArray, List.getElem_cons_succ, List.getElem_cons_zero, Act.put, List.setIfInBounds_toArray, List.set_cons_zero, List.set_cons_succ]
      refine wpAnyH_take (i := 3) (v := .int .i64 (4 + 2 * (j : Int))) rfl (by kernel_rfl) (by kernel_rfl) (by kernel_rfl) (fun _ _ _ h => h) (Or.inl ⟨by rfl, ?_⟩) (by assumption) ?_
      · (intro W hSw; (try dsimp only at hSw); obtain s1 := hSw; go_simp; try first | with_reducible rfl | go_num | (rw [if_pos (by assumption)]; simp only [*]) | simp only [*])
      try simp only [List.getElem_toArray, List.getElem_cons_succ, List.getElem_cons_zero, Act.put, List.setIfInBounds_toArray, List.set_cons_zero, List.set_cons_succ]
      refine wpAnyH_take (i := 4) (v := ?_) rfl (by kernel_rfl) (by kernel_rfl) (by kernel_rfl) (fun _ _ _ h => h) (Or.inl ⟨by rfl, ?_⟩) (by assumption) ?_
      rotate_left
      · (intro W hSw; (try dsimp only at hSw); obtain s1 := hSw; go_simp; try with_reducible rfl)
      try simp only [List.getElem_toArray, List.getElem_cons_succ, List.getElem_cons_zero, Act.put, List.setIfInBounds_toArray, List.set_cons_zero, List.set_cons_succ]
      refine wpAnyH_take (i := 5) (v := ?_) rfl (by kernel_rfl) (by kernel_rfl) (by kernel_rfl) (fun _ _ _ h => h) (Or.inl ⟨by rfl, ?_⟩) (by assumption) ?_
      rotate_left
      · (intro W hSw; (try dsimp only at hSw); obtain s1 := hSw; go_simp; try with_reducible rfl)
      try simp only [List.getElem_toArray, List.getElem_cons_succ, List.getElem_cons_zero, Act.put, List.setIfInBounds_toArray, List.set_cons_zero, List.set_cons_succ]
      refine wpAnyH_take (i := 6) (v := .int .i64 (2 * (j : Int))) rfl (by kernel_rfl) (by kernel_rfl) (by kernel_rfl) (fun _ _ _ h => h) (Or.inl ⟨by rfl, ?_⟩) (by assumption) ?_
      · (intro W hSw; (try dsimp only at hSw); obtain s1 := hSw; go_simp; try first | with_reducible rfl | go_num | (rw [if_pos (by assumption)]; simp only [*]) | simp only [*])
      try simp only [List.getElem_toArray, List.getElem_cons_succ, List.getElem_cons_zero, Act.put, List.setIfInBounds_toArray, List.set_cons_zero, List.set_cons_succ]
      refine wpAnyH_take (i := 7) (v := .int .i64 (5 + 2 * (j : Int))) rfl (by kernel_rfl) (by kernel_rfl) (by kernel_rfl) (fun _ _ _ h => h) (Or.inl ⟨by rfl, ?_⟩) (by assumption) ?_
      · (intro W hSw; (try dsimp only at hSw); obtain s1 := hSw; go_simp; try first | with_reducible rfl | go_num | (rw [if_pos (by assumption)]; simp only [*]) | simp only [*])
      try simp only [List.getElem_toArray, List.getElem_cons_succ, List.getElem_cons_zero, Act.put, List.setIfInBounds_toArray, List.set_cons_zero, List.set_cons_succ]
      refine wpAnyH_take (i := 8) (v := ?_) rfl (by kernel_rfl) (by kernel_rfl) (by kernel_rfl) (fun _ _ _ h => h) (Or.inl ⟨by rfl, ?_⟩) (by assumption) ?_
      rotate_left
      · (intro W hSw; (try dsimp only at hSw); obtain s1 := hSw; go_simp; try with_reducible rfl)
      try simp only [List.getElem_toArray, List.getElem_cons_succ, List.getElem_cons_zero, Act.put, List.setIfInBounds_toArray, List.set_cons_zero, List.set_cons_succ]
      refine wpAnyH_take (i := 9) (v := ?_) rfl (by kernel_rfl) (by kernel_rfl) (by kernel_rfl) (fun _ _ _ h => h) (Or.inl ⟨by rfl, ?_⟩) (by assumption) ?_
      rotate_left
      · (intro W hSw; (try dsimp only at hSw); obtain s1 := hSw; go_simp; try with_reducible rfl)
      try simp only [List.getElem_toArray, List.getElem_cons_succ, List.getElem_cons_zero, Act.put, List.setIfInBounds_toArray, List.set_cons_zero, List.set_cons_succ]
      refine wpAnyH_take (i := 10) (v := ?_) rfl (by kernel_rfl) (by kernel_rfl) (by kernel_rfl) (fun _ _ _ h => h) (Or.inl ⟨by rfl, ?_⟩) (by assumption) ?_
      rotate_left
      · (intro W hSw; (try dsimp only at hSw); obtain s1 := hSw; go_simp; try with_reducible rfl)
      try simp only [List.getElem_toArray, List.getElem_cons_succ, List.getElem_cons_zero, Act.put, List.setIfInBounds_toArray, List.set_cons_zero, List.set_cons_succ]
      refine wpAnyH_take (i := 11) (v := ?_) rfl (by kernel_rfl) (by kernel_rfl) (by kernel_rfl) (fun _ _ _ h => h) (Or.inl ⟨by rfl, ?_⟩) (by assumption) ?_
      rotate_left
      · (intro W hSw; (try dsimp only at hSw); obtain s1 := hSw; go_simp; try with_reducible rfl)
      try simp only [List.getElem_toArray, List.getElem_cons_succ, List.getElem_cons_zero, Act.put, List.setIfInBounds_toArray, List.set_cons_zero, List.set_cons_succ]
      refine wpAnyH_take (i := 12) (v := ?_) rfl (by kernel_rfl) (by kernel_rfl) (by kernel_rfl) (fun _ _ _ h => h) (Or.inl ⟨by rfl, ?_⟩) (by assumption) ?_
      rotate_left
      · (intro W hSw; (try dsimp only at hSw); obtain s1 := hSw; go_simp; try with_reducible rfl)
      try simp only [List.getElem_toArray, List.getElem_cons_succ, List.getElem_cons_zero, Act.put, List.setIfInBounds_toArray, List.set_cons_zero, List.set_cons_succ]
      refine wpAnyH_take (i := 13) (v := .int .u8 ((x : Int) / 256)) rfl (by kernel_rfl) (by kernel_rfl) (by kernel_rfl) (fun _ _ _ h => h) (Or.inl ⟨by rfl, ?_⟩) (by assumption) ?_
      · (intro W hSw; (try dsimp only at hSw); obtain s1 := hSw; go_simp; try first | with_reducible rfl | go_num | (rw [if_pos (by assumption)]; simp only [*]) | simp only [*])
      try simp only [List.getElem_toArray, List.getElem_cons_succ, List.getElem_cons_zero, Act.put, List.setIfInBounds_toArray, List.set_cons_zero, List.set_cons_succ]
      refine wpAnyH_take (i := 14) (v := ?_) rfl (by kernel_rfl) (by kernel_rfl) (by kernel_rfl) (fun _ _ _ h => h) (Or.inl ⟨by rfl, ?_⟩) (by assumption) ?_
      rotate_left
      · (intro W hSw; (try dsimp only at hSw); obtain s1 := hSw; go_simp; try with_reducible rfl)
      try simp only [List.getElem_toArray, List.getElem_cons_succ, List.getElem_cons_zero, Act.put, List.setIfInBounds_toArray, List.set_cons_zero, List.set_cons_succ]
      refine wpAnyH_take (i := 15) (v := ?_) rfl (by kernel_rfl) (by kernel_rfl) (by kernel_rfl) (fun _ _ _ h => h) (Or.inl ⟨by rfl, ?_⟩) (by assumption) ?_
      rotate_left
      · (intro W hSw; (try dsimp only at hSw); obtain s1 := hSw; go_simp; try with_reducible rfl)
      try simp only [List.getElem_toArray, List.getElem_cons_succ, List.getElem_cons_zero, Act.put, List.setIfInBounds_toArray, List.set_cons_zero, List.set_cons_succ]
      refine wpAnyH_take (i := 16) (v := ?_) rfl (by kernel_rfl) (by kernel_rfl) (by kernel_rfl) (fun _ _ _ h => h) (Or.inl ⟨by rfl, ?_⟩) (by assumption) ?_
      rotate_left
      · (intro W hSw; (try dsimp only at hSw); obtain s1 := hSw; go_simp; try with_reducible rfl)
      try simp only [List.getElem_toArray, List.getElem_cons_succ, List.getElem_cons_zero, Act.put, List.setIfInBounds_toArray, List.set_cons_zero, List.set_cons_succ]
      refine wpAnyH_take (i := 17) (v := ?_) rfl (by kernel_rfl) (by kernel_rfl) (by kernel_rfl) (fun _ _ _ h => h) (Or.inl ⟨by rfl, ?_⟩) (by assumption) ?_
      rotate_left
      · (intro W hSw; (try dsimp only at hSw); obtain s1 := hSw; go_simp; try with_reducible rfl)
      try simp only [List.getElem_toArray, List.getElem_cons_succ, List.getElem_cons_zero, Act.put, List.setIfInBounds_toArray, List.set_cons_zero, List.set_cons_succ]
      refine wpAnyH_take (i := 18) (v := .int .u8 ((x : Int) % 256)) rfl (by kernel_rfl) (by kernel_rfl) (by kernel_rfl) (fun _ _ _ h => h) (Or.inl ⟨by rfl, ?_⟩) (by assumption) ?_
      · (intro W hSw; (try dsimp only at hSw); obtain s1 := hSw; go_simp; try first | with_reducible rfl | go_num | (rw [if_pos (by assumption)]; simp only [*]) | simp only [*])
      try simp only [List.getElem_toArray, List.getElem_cons_succ, List.getElem_cons_zero, Act.put, List.setIfInBounds_toArray, List.set_cons_zero, List.set_cons_succ]
      refine wpAnyH_take (i := 19) (v := .pointer (some ⟨w.heap.size, 4 + 2 * j, none⟩)) rfl (by kernel_rfl) (by kernel_rfl) (by kernel_rfl) (fun _ _ _ h => h) (Or.inl ⟨by rfl, ?_⟩) (by assumption) ?_
      · (intro W hSw; (try dsimp only at hSw); obtain s1 := hSw; go_simp; try first | with_reducible rfl | go_num | (rw [if_pos (by assumption)]; simp only [*]) | simp only [*])
      try simp only [List.getElem_toArray, List.getElem_cons_succ, List.getElem_cons_zero, Act.put, List.setIfInBounds_toArray, List.set_cons_zero, List.set_cons_succ]
      refine wpAnyH_ready (rs := [20]) (by kernel_rfl) (by simp) (AllReadyH.cons rfl (fun K hK => ?_) AllReadyH.nil)
      rw [if_pos (by rfl)]
      unfold Oper.wp
      go_simp
      have hne2 : (⟨b, o + j, none⟩ : Addr).block ≠ (⟨w.heap.size, 4 + 2 * j, none⟩ : Addr).block := hne
      have hB5 : Below w.heap.size w (wr.setCell ⟨w.heap.size, 4 + 2 * j, none⟩ (.int .u8 ((x : Int) / 256))) := hB.out.trans (below_of_grown (grown_setCell (grown_refl _ _) _ _) (Nat.le_refl _) hB.out.size)
      refine hK.out _ _ ((hB5.drew.cell (p := ⟨b, o + j, none⟩) hbw).trans HCw.out) (fun hHeld => ?_)
      clear hK K
      try simp only [List.getElem_toArray, List.getElem_cons_succ, List.getElem_cons_zero, Act.put, List.setIfInBounds_toArray, List.set_cons_zero, List.set_cons_succ]
      refine wpAnyH_take (i := 21) (v := .pointer (some ⟨w.heap.size, 5 + 2 * j, none⟩)) rfl (by kernel_rfl) (by kernel_rfl) (by kernel_rfl) (fun _ _ _ h => h) (Or.inl ⟨by rfl, ?_⟩) (by assumption) ?_
      · (intro W hSw; (try dsimp only at hSw); obtain s1 := hSw; go_simp; try first | with_reducible rfl | go_num | (rw [if_pos (by assumption)]; simp only [*]) | simp only [*])
      try simp only [List.getElem_toArray, List.getElem_cons_succ, List.getElem_cons_zero, Act.put, List.setIfInBounds_toArray, List.set_cons_zero, List.set_cons_succ]
      refine wpAnyH_ready (rs := [22]) (by kernel_rfl) (by simp) (AllReadyH.cons rfl (fun K hK => ?_) AllReadyH.nil)
      rw [if_pos (by rfl)]
      unfold Oper.wp
      go_simp
      have hB6 : Below w.heap.size w ((wr.setCell ⟨w.heap.size, 4 + 2 * j, none⟩ (.int .u8 ((x : Int) / 256))).setCell ⟨w.heap.size, 5 + 2 * j, none⟩ (.int .u8 ((x : Int) % 256))) := hB5.trans (below_of_grown (grown_setCell (grown_refl _ _) _ _) (Nat.le_refl _) hB5.size)
      refine hK.out _ _ ((hB6.drew.cell (p := ⟨b, o + j, none⟩) hbw).trans HCw.out) (fun hHeld => ?_)
      clear hK K
      refine wpAnyH_done (by kernel_rfl) ?_ _
      refine NoPanic.normal ?_
      have hs := (hR.out.set (4 + 2 * j) (UInt8.ofNat (x / 256 % 256))).set (5 + 2 * j) (UInt8.ofNat (x % 256))
      rw [HSt.out, u8_mod, u8_mod, show ((x / 256 : Nat) : Int) % 256 = (x : Int) / 256 by omega] at hs
      have HS6 : Hid (ownB _ w.heap.size (headTo ns (j + 1))) := hs.below (Below.refl _ _).drew
      have HB6 := hid hB6.drew
      clear hs hB5 hB6 g0 g1 k0 k1 hcell e1 e2 e3 e4 e5 e6 e7 e8 hne2 hHeld
      go_wp2
      exact ⟨⟨j + 1, by omega, by go_num, HS6, HB6⟩, by simp [intOf]; omega⟩
    · obtain rfl : j = ns.length := by omega
      have hge : ¬ ((ns.length : Int) < (ns.length : Int)) := by omega
      have d0 : wr.cell? ⟨q, 0, none⟩ = some (.pointer (some ⟨r, 0, none⟩)) := cell_of_block (below_block hB.out H.out.heap hqw) 0
      have hRe := H.out.disk.below hB.out
      have hwr := rwrite_any r fv lv vs Rd R 0 (headS ns) (some ⟨w.heap.size, 0, none⟩) 512 512 wr hRe (by omega) (length_headTo ns ns.length (Nat.le_refl _) (by omega)) (fun k hk => ⟨w.heap.size, 0, rfl, fun i hi => by rw [Nat.zero_add]; exact hR.out.cell i hi⟩)
      have HWr := hid hwr
      have hs0 := hB.out.size
      have HLn : Hid ((R.put 0 (headS ns)).l.length ≤ 1000000) := by
        unfold Hid RefS.put
        split
        · simp only [RefS.did, List.length_append, List.length_singleton]; omega
        · omega
      clear hwr hRe
      go_wp2_with fail
      refine HWr.out.mono ?_
      clear HWr
      rintro e w3 ⟨rfl, lv3, vs3, hR3, hK3⟩
      have hq3 := hK3.heap (below_block hB.out H.out.heap hqw) (fun e => H.out.ne e)
      have d3 : w3.cell? ⟨q, 0, none⟩ = some (.pointer (some ⟨r, 0, none⟩)) := cell_of_block hq3 0
      have HFl := hid (rflush_any r fv lv3 vs3 _ _ w3 hR3 HLn.out)
      have HK3 := hid ((Keeps.of_below hB.out).trans hK3 (fun i e => .inl e))
      have hs3 := hK3.size
      clear hR3 hK3 d0
      go_wp2_with fail
      refine HFl.out.mono ?_
      clear HFl
      rintro e w4 ⟨rfl, lv4, vs4, hR4, hK4⟩
      have HR4 := hid hR4
      have HK4 := hid (HK3.out.trans hK4 (fun i e => .inl e))
      have hs4 := hK4.size
      have Hq4 := hid (hK4.heap hq3 (fun e => H.out.ne e))
      clear hR4 hK4 hq3 d3
      go_wp2
      go_returns
      refine ⟨rfl, lv4, vs4, ⟨Hq4.out, HR4.out.moreRd (fun i hi => ?_) (fun hi => ?_), fun i hi => ?_, fun hi => ?_, H.out.ne⟩, HK4.out⟩
      · rcases hi with (hi | hi) | hi
        · exact .inl hi
        · exact .inr (by omega)
        · exact .inr (by omega)
      · rcases hi with hi | hi
        · exact H.out.disk.rd hi
        · have := lt_of_heap H.out.disk.heap; omega
      · rcases hi with hi | hi
        · have := H.out.rd i hi; omega
        · exact hi.2
      · rcases hi with hi | hi
        · exact H.out.off hi
        · omega
end Go.Proofs.YtjgclmlclkfgpaaGreat
