/- The reference's UnHex reads a digest: 64 digits, or ErrForm and noughts. -/
import Derived.Test.YtohfgppdeiddmaaDoorUnHex
namespace Go.Proofs.YtohfgppdeiddmaaDoor
open Go.RowKit
attribute [local go_sem ↓] Go.wp_at_zero Go.wp_at_succ
def dig (c : UInt8) : UInt8 := UInt8.ofNat (idx c).toNat
theorem idx_dec (c : UInt8) (h0 : 48 ≤ V c) (h1 : V c ≤ 57) : dig c = c - 48 ∧ 0 ≤ idx c := by
  have : ∀ n < 256, 48 ≤ V (UInt8.ofNat n) → V (UInt8.ofNat n) ≤ 57 → dig (UInt8.ofNat n) = UInt8.ofNat n - 48 ∧ 0 ≤ idx (UInt8.ofNat n) := by decide +kernel
  have h := this c.toNat c.toNat_lt
  rw [UInt8.ofNat_toNat] at h
  exact h h0 h1
theorem idx_hex (c : UInt8) (h0 : 97 ≤ V c) (h1 : V c ≤ 102) : dig c = c - 97 + 10 ∧ 0 ≤ idx c := by
  have : ∀ n < 256, 97 ≤ V (UInt8.ofNat n) → V (UInt8.ofNat n) ≤ 102 → dig (UInt8.ofNat n) = UInt8.ofNat n - 97 + 10 ∧ 0 ≤ idx (UInt8.ofNat n) := by decide +kernel
  have h := this c.toNat c.toNat_lt
  rw [UInt8.ofNat_toNat] at h
  exact h h0 h1
theorem idx_none (c : UInt8) (h0 : V c < 48 ∨ 57 < V c) (h1 : V c < 97 ∨ 102 < V c) : idx c < 0 := by
  have : ∀ n < 256, (V (UInt8.ofNat n) < 48 ∨ 57 < V (UInt8.ofNat n)) → (V (UInt8.ofNat n) < 97 ∨ 102 < V (UInt8.ofNat n)) → idx (UInt8.ofNat n) < 0 := by decide +kernel
  have h := this c.toNat c.toNat_lt
  rw [UInt8.ofNat_toNat] at h
  exact h h0 h1
def ruTo (s : List UInt8) (i : Nat) : List UInt8 := (List.range (i / 2)).map (pairByte s) ++ ((if i % 2 = 1 then [dig (s.getD (i - 1) 0)] else []) ++ List.replicate (32 - (i + 1) / 2) 0)
def Digs (s : List UInt8) (i : Nat) : Prop := ∀ j < i, 0 ≤ idx (s.getD j 0)
theorem Digs.next {s : List UInt8} {k : Nat} (h : Digs s k) (h0 : 0 ≤ idx (s.getD k 0)) : Digs s (k + 1) := fun i hi => by
  by_cases e : i = k
  · subst e; exact h0
  · exact h i (by omega)
theorem good_digs (s : List UInt8) : Good s 32 ↔ Digs s 64 := by
  constructor
  · intro h j hj
    have := h (j / 2) (by omega)
    by_cases e : j % 2 = 0
    · have e2 : 2 * (j / 2) = j := by omega
      rw [e2] at this; exact this.1
    · have e2 : 2 * (j / 2) + 1 = j := by omega
      rw [e2] at this; exact this.2
  · intro h i hi
    exact ⟨h _ (by omega), h _ (by omega)⟩
theorem length_ruTo (s : List UInt8) (i : Nat) (hi : i ≤ 64) : (ruTo s i).length = 32 := by
  unfold ruTo
  by_cases e : i % 2 = 1
  · simp [e]; omega
  · simp [e]; omega
theorem ruTo_zero (s : List UInt8) : ruTo s 0 = List.replicate 32 0 := by simp [ruTo]
theorem ruTo_all (s : List UInt8) : ruTo s 64 = unTo s 32 := by simp [ruTo, unTo]
theorem nib16 : ∀ a < 16, ∀ b < 16, (UInt8.ofNat a <<< 4 ||| UInt8.ofNat b) = UInt8.ofNat (16 * a + b) := by decide +kernel
theorem nib0 : ∀ a < 16, ((0 : UInt8) <<< 4 ||| UInt8.ofNat a) = UInt8.ofNat a := by decide +kernel
theorem pair_nib (x y : UInt8) (hx : 0 ≤ idx x) (hy : 0 ≤ idx y) : dig x <<< 4 ||| dig y = UInt8.ofNat (16 * idx x + idx y).toNat := by
  have h1 := (idx_in x).2
  have h2 := (idx_in y).2
  unfold dig
  rw [nib16 _ (by omega) _ (by omega)]
  congr 1
  omega
theorem ruTo_next (s : List UInt8) (i : Nat) (hi : i < 64) (h : Digs s (i + 1)) : (ruTo s i).set (i / 2) ((ruTo s i).getD (i / 2) 0 <<< 4 ||| dig (s.getD i 0)) = ruTo s (i + 1) := by
  have hlr : ((List.range (i / 2)).map (pairByte s)).length = i / 2 := by simp
  by_cases e : i % 2 = 1
  · have e1 : (i + 1) / 2 = i / 2 + 1 := by omega
    have e2 : (i + 1) % 2 = 0 := by omega
    have e3 : (i + 1 + 1) / 2 = i / 2 + 1 := by omega
    have g : (ruTo s i).getD (i / 2) 0 = dig (s.getD (i - 1) 0) := by
      unfold ruTo
      rw [List.getD_eq_getElem?_getD, List.getElem?_append_right (by omega), hlr, Nat.sub_self, if_pos e]; rfl
    rw [g, pair_nib _ _ (h _ (by omega)) (h _ (by omega))]
    have hp : UInt8.ofNat (16 * idx (s.getD (i - 1) 0) + idx (s.getD i 0)).toNat = pairByte s (i / 2) := by
      unfold pairByte
      rw [show 2 * (i / 2) = i - 1 by omega, show i - 1 + 1 = i by omega]
    rw [hp]
    unfold ruTo
    rw [List.set_append_right _ _ (by omega), hlr, Nat.sub_self, if_pos e, e1, if_neg (by omega), e3, List.range_succ]
    simp
  · have e1 : (i + 1) / 2 = i / 2 := by omega
    have e2 : (i + 1) % 2 = 1 := by omega
    have e3 : 32 - (i + 1) / 2 = (32 - (i + 1 + 1) / 2) + 1 := by omega
    have g : (ruTo s i).getD (i / 2) 0 = 0 := by
      unfold ruTo
      rw [List.getD_eq_getElem?_getD, List.getElem?_append_right (by omega), hlr, Nat.sub_self, if_neg e, e3, List.replicate_succ]; rfl
    have h2 := (idx_in (s.getD i 0)).2
    have h3 := h i (by omega)
    have hd : (0 : UInt8) <<< 4 ||| dig (s.getD i 0) = dig (s.getD i 0) := nib0 _ (by omega)
    rw [g, hd]
    unfold ruTo
    rw [List.set_append_right _ _ (by omega), hlr, Nat.sub_self, if_neg e, if_pos e2, e3, List.replicate_succ, show i + 1 - 1 = i by omega, e1]
    simp
theorem op_shl8 (x : UInt8) : Op.shift .shl .u8 (V x) .u64 4 = pure (.int .u8 (V (x <<< 4))) := by
  have : ∀ n < 256, IntKind.u8.wrap (V (UInt8.ofNat n) * 2 ^ 4) = V (UInt8.ofNat n <<< 4) := by decide +kernel
  have h := this x.toNat x.toNat_lt
  rw [UInt8.ofNat_toNat] at h
  rw [← h]; rfl
theorem V_or (a b : UInt8) : bits .or .u8 (V a) (V b) = V (a ||| b) := by
  unfold V; rw [u8_or_nat _ _ a.toNat_lt b.toNat_lt, UInt8.toNat_or]
theorem op_or8 (a b : UInt8) : Op.intBits .or .u8 (V a) (V b) = pure (.int .u8 (V (a ||| b))) := by rw [← V_or]; rfl
theorem op_sub48 (a : UInt8) : Op.intArith .sub .u8 (V a) 48 = pure (.int .u8 (V (a - 48))) := by
  have : ∀ n < 256, IntKind.u8.wrap (V (UInt8.ofNat n) - 48) = V (UInt8.ofNat n - 48) := by decide +kernel
  have h := this a.toNat a.toNat_lt
  rw [UInt8.ofNat_toNat] at h
  rw [← h]; rfl
theorem op_sub97 (a : UInt8) : Op.intArith .sub .u8 (V a) 97 = pure (.int .u8 (V (a - 97))) := by
  have : ∀ n < 256, IntKind.u8.wrap (V (UInt8.ofNat n) - 97) = V (UInt8.ofNat n - 97) := by decide +kernel
  have h := this a.toNat a.toNat_lt
  rw [UInt8.ofNat_toNat] at h
  rw [← h]; rfl
theorem op_add10 (a : UInt8) : Op.intArith .add .u8 (V a) 10 = pure (.int .u8 (V (a + 10))) := by
  have : ∀ n < 256, IntKind.u8.wrap (V (UInt8.ofNat n) + 10) = V (UInt8.ofNat n + 10) := by decide +kernel
  have h := this a.toNat a.toNat_lt
  rw [UInt8.ofNat_toNat] at h
  rw [← h]; rfl
theorem Digs.next' {s : List UInt8} {k : Nat} {c : UInt8} (h : Digs s k) (e : s.getD k 0 = c) (h0 : 0 ≤ idx c) : Digs s (k + 1) := h.next (by rw [e]; exact h0)
attribute [local go_sem ↓] op_shl8 op_or8 op_sub48 op_sub97 op_add10
set_option maxHeartbeats 1000000 in
theorem runhex_other (s : ByteArray) (hs : s.size ≠ 64) (w : World) :
    Calls Tryd.prog 22 #[.string s] w fun e w' => e = .returned (.tuple #[.agg ((List.replicate 32 (0 : UInt8)).map B).toArray, .int .i64 3]) ∧ Below w.heap.size w w' := by
  have hx : ((s.size : Int) != 64) = true := by rw [bne_iff_ne]; omega
  clear hs
  have HR := hid (block_new w (.cells ((List.replicate 32 (0 : UInt8)).map B).toArray 26))
  have HB := hid ((Below.refl w.heap.size w).alloc (Nat.le_refl _) (.cells ((List.replicate 32 (0 : UInt8)).map B).toArray 26))
  have H1 := hid (all_oneCell_toArray (B_one (List.replicate 32 (0 : UInt8))))
  go_enter Tryd.func22, Tryd.ntmps22
  go_wp2_with (refine wpList_store_block rfl 26 (.tmp 2) (.tmp 10) rfl (w.heap.size) ((List.replicate 32 (0 : UInt8)).map B).toArray rfl rfl _ 26 HR.out rfl (info26.trans (congrArg some zeros26.symm)) H1.out ?_; intro w6 hg6 hb6 hz6)
  refine bodyPost_ret (results_cell_slot Tryd.results22 _ _ rfl hb6 _ Tryd.underlying26 rfl (info26.trans (congrArg some zeros26.symm))) rfl ⟨rfl, ?_⟩
  exact HB.out.trans (below_of_grown hg6 (by omega) HB.out.size)
set_option maxRecDepth 20000 in
set_option maxHeartbeats 4000000 in
theorem runhex_same (s : ByteArray) (hs : s.size = 64) (w : World) :
    Calls Tryd.prog 22 #[.string s] w fun e w' => (∃ h c, UnOf s.data.toList h c ∧ e = .returned (.tuple #[.agg (h.map B).toArray, .int .i64 c])) ∧ Below w.heap.size w w' := by
  have hx : ((s.size : Int) != 64) = false := by rw [bne_eq_false_iff_eq]; omega
  have HS := hid hs
  clear hs
  have h2 := new2 w (.cells ((List.replicate 32 (0 : UInt8)).map B).toArray 26) (.cells ((List.replicate 32 (0 : UInt8)).map B).toArray 26)
  have H1 := hid (all_oneCell_toArray (B_one (List.replicate 32 (0 : UInt8))))
  go_enter Tryd.func22, Tryd.ntmps22
  go_wp2
  go_loopw [5] (fun i wr => ∃ k : Nat, k ≤ 64 ∧ i = .int .i64 k ∧ Digs s.data.toList k ∧ wr.heap[w.heap.size + 1]? = some (.cells ((ruTo s.data.toList k).map B).toArray 26 (0, 0)) ∧
      wr.heap[w.heap.size]? = some (.cells ((List.replicate 32 (0 : UInt8)).map B).toArray 26 (0, 0)) ∧ Below w.heap.size w wr)
    (fun i _ => 64 - (intOf i).toNat)
  case atStart => exact ⟨0, by omega, rfl, fun i hi => by omega, by rw [ruTo_zero]; exact h2.2.1, h2.1, h2.2.2.1⟩
  case round =>
    clear h2
    obtain ⟨k, hk, rfl, hG, hO, hR, hB⟩ := hrel
    by_cases hlt : k < 64
    · have hsz := HS.out
      have q1 : (k : Int) < (s.size : Int) := by omega
      clear hsz
      have i1 : ∀ W, (Instr.index 9 (.string s) (.int .i64 (k : Int))).run Tryd.prog W = .ok (B (s.data.toList.getD k 0)) W := fun W => run_index_str s _ W (by omega) q1
      have HF := hid (show Digs s.data.toList 64 → 0 ≤ idx (s.data.toList.getD k 0) from fun h => h k hlt)
      have hlo := length_ruTo s.data.toList k hk
      have HS2 := hid (ruTo_next s.data.toList k hlt)
      have c2 : wr.cell? ⟨w.heap.size + 1, k / 2, none⟩ = some (B ((ruTo s.data.toList k).getD (k / 2) 0)) := by rw [cell_of_block hO, List.getElem?_toArray, List.getElem?_map, get_some (d := 0) (by omega)]; rfl
      have f2 : wr.frozen? ⟨w.heap.size + 1, k / 2, none⟩ = false := frozen_of_block hO _
      generalize (ruTo s.data.toList k).getD (k / 2) 0 = z at *
      generalize hc : s.data.toList.getD k 0 = c at *
      have HC := hid hc
      have HO := hid hO
      have HR := hid hR
      have HG := hid hG
      have v0 := V_nonneg c
      have v1 := V_lt c
      clear hO hR hG hc hlo
      by_cases p1 : V c < 48
      · have p1' : ¬ 48 ≤ V c := by omega
        have p2' : ¬ 97 ≤ V c := by omega
        go_wp2_with (refine wpList_store_block rfl 26 (.tmp 2) (.tmp 15) rfl (w.heap.size) ((List.replicate 32 (0 : UInt8)).map B).toArray rfl rfl _ 26 (by exact HR.out) rfl (info26.trans (congrArg some zeros26.symm)) H1.out ?_; intro w6 hg6 hb6 hz6)
        refine bodyPost_ret (results_cell_slot Tryd.results22 _ _ rfl hb6 _ Tryd.underlying26 rfl (info26.trans (congrArg some zeros26.symm))) rfl ⟨⟨List.replicate 32 0, 3, .inr ⟨fun h => ?_, rfl, rfl⟩, rfl⟩, ?_⟩
        · have := HF.out ((good_digs _).1 h.2); have := idx_none c (by omega) (by omega); omega
        · exact hB.trans (below_of_grown hg6 (Nat.le_refl _) hB.size)
      by_cases p2 : V c ≤ 57
      · have p1' : 48 ≤ V c := by omega
        have ⟨hd, hn⟩ := idx_dec c (by omega) (by omega)
        have HT := hid (HS2.out (HG.out.next' HC.out hn))
        have HD := hid hd
        have HGN := hid (HG.out.next' HC.out hn)
        clear hd hn
        go_wp2
        rw [← HD.out]
        go_roundw
        case rel =>
          refine ⟨k + 1, by omega, by go_num, HGN.out, ?_, ?_, ?_⟩
          · rw [← HT.out, ← set_mapB]; exact block_setCell HO.out _ _
          · exact (block_setCell_other (w := wr) _ _ (by omega)).trans HR.out
          · exact hB.setCell (by simp) _
        case measure => simp [intOf]; omega
      by_cases p3 : V c < 97
      · have p1' : 48 ≤ V c := by omega
        have p3' : ¬ 97 ≤ V c := by omega
        go_wp2_with (refine wpList_store_block rfl 26 (.tmp 2) (.tmp 15) rfl (w.heap.size) ((List.replicate 32 (0 : UInt8)).map B).toArray rfl rfl _ 26 (by exact HR.out) rfl (info26.trans (congrArg some zeros26.symm)) H1.out ?_; intro w6 hg6 hb6 hz6)
        refine bodyPost_ret (results_cell_slot Tryd.results22 _ _ rfl hb6 _ Tryd.underlying26 rfl (info26.trans (congrArg some zeros26.symm))) rfl ⟨⟨List.replicate 32 0, 3, .inr ⟨fun h => ?_, rfl, rfl⟩, rfl⟩, ?_⟩
        · have := HF.out ((good_digs _).1 h.2); have := idx_none c (by omega) (by omega); omega
        · exact hB.trans (below_of_grown hg6 (Nat.le_refl _) hB.size)
      by_cases p4 : V c ≤ 102
      · have p1' : 48 ≤ V c := by omega
        have p3' : 97 ≤ V c := by omega
        have ⟨hd, hn⟩ := idx_hex c (by omega) (by omega)
        have HT := hid (HS2.out (HG.out.next' HC.out hn))
        have HD := hid hd
        have HGN := hid (HG.out.next' HC.out hn)
        clear hd hn
        go_wp2
        rw [← HD.out]
        go_roundw
        case rel =>
          refine ⟨k + 1, by omega, by go_num, HGN.out, ?_, ?_, ?_⟩
          · rw [← HT.out, ← set_mapB]; exact block_setCell HO.out _ _
          · exact (block_setCell_other (w := wr) _ _ (by omega)).trans HR.out
          · exact hB.setCell (by simp) _
        case measure => simp [intOf]; omega
      · have p1' : 48 ≤ V c := by omega
        have p3' : 97 ≤ V c := by omega
        go_wp2_with (refine wpList_store_block rfl 26 (.tmp 2) (.tmp 15) rfl (w.heap.size) ((List.replicate 32 (0 : UInt8)).map B).toArray rfl rfl _ 26 (by exact HR.out) rfl (info26.trans (congrArg some zeros26.symm)) H1.out ?_; intro w6 hg6 hb6 hz6)
        refine bodyPost_ret (results_cell_slot Tryd.results22 _ _ rfl hb6 _ Tryd.underlying26 rfl (info26.trans (congrArg some zeros26.symm))) rfl ⟨⟨List.replicate 32 0, 3, .inr ⟨fun h => ?_, rfl, rfl⟩, rfl⟩, ?_⟩
        · have := HF.out ((good_digs _).1 h.2); have := idx_none c (by omega) (by omega); omega
        · exact hB.trans (below_of_grown hg6 (Nat.le_refl _) hB.size)
    · have hk64 : k = 64 := by omega
      subst hk64
      rw [ruTo_all] at hO
      have HO := hid hO
      have HR := hid hR
      have Hs : Hid (((unTo s.data.toList 32).map B).toArray.size = 32) := by simp [Hid, length_unTo]
      have H2 := hid (all_oneCell_toArray (B_one (unTo s.data.toList 32)))
      clear hO hR hlt hk
      go_wp2_with (first
        | (refine wpList_load_block rfl 26 (.tmp 4) rfl (w.heap.size + 1) rfl ((unTo s.data.toList 32).map B).toArray 26 (0, 0) HO.out _ Tryd.underlying26 rfl (info26.trans (congrArg some Hs.out.symm)) ?_)
        | (refine wpList_store_block rfl 26 (.tmp 2) (.tmp 57) rfl (w.heap.size) ((unTo s.data.toList 32).map B).toArray rfl rfl _ 26 HR.out (Hs.out.trans (by simp)) (info26.trans (congrArg some Hs.out.symm)) H2.out ?_; intro w6 hg6 hb6 hz6))
      refine bodyPost_ret (results_cell_slot Tryd.results22 _ _ rfl hb6 _ Tryd.underlying26 rfl (info26.trans (congrArg some Hs.out.symm))) rfl ⟨⟨_, 0, .inl ⟨?_, (good_digs _).2 hG, rfl, rfl⟩, rfl⟩, ?_⟩
      · have := HS.out; simpa using this
      · exact hB.trans (below_of_grown hg6 (by omega) hB.size)
theorem runhex_any (s : ByteArray) (w : World) :
    Calls Tryd.prog 22 #[.string s] w fun e w' => (∃ h c, UnOf s.data.toList h c ∧ e = .returned (.tuple #[.agg (h.map B).toArray, .int .i64 c])) ∧ Below w.heap.size w w' := by
  by_cases hs : s.size = 64
  · exact runhex_same s hs w
  · refine (runhex_other s hs w).mono fun e w' ⟨he, hB⟩ => ⟨⟨_, 3, .inr ⟨fun h => hs ?_, rfl, rfl⟩, he⟩, hB⟩
    simpa using h.1
end Go.Proofs.YtohfgppdeiddmaaDoor
