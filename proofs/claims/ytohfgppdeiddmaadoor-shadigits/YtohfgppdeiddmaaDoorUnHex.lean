/- sha.UnHex reads a digest: 64 digits, or ErrForm and noughts. -/
import Derived.Test.YtohfgppdeiddmaaDoorIndex
import Derived.Deep.QuietTactic
import Derived.BigQuiet
namespace Go.Proofs.YtohfgppdeiddmaaDoor
open Go.RowKit
attribute [local go_sem ↓] Go.wp_at_zero Go.wp_at_succ
/-- A digit's value, or -1. -/
def idx (c : UInt8) : Int := Lib.indexByte [48, 49, 50, 51, 52, 53, 54, 55, 56, 57, 97, 98, 99, 100, 101, 102] c
theorem idx_all : ∀ n < 256, -1 ≤ idx (UInt8.ofNat n) ∧ idx (UInt8.ofNat n) < 16 := by decide +kernel
theorem idx_in (c : UInt8) : -1 ≤ idx c ∧ idx c < 16 := by
  have := idx_all c.toNat c.toNat_lt
  rwa [UInt8.ofNat_toNat] at this
def pairByte (s : List UInt8) (i : Nat) : UInt8 := UInt8.ofNat (16 * idx (s.getD (2 * i) 0) + idx (s.getD (2 * i + 1) 0)).toNat
def Good (s : List UInt8) (k : Nat) : Prop := ∀ i < k, 0 ≤ idx (s.getD (2 * i) 0) ∧ 0 ≤ idx (s.getD (2 * i + 1) 0)
def unTo (s : List UInt8) (k : Nat) : List UInt8 := (List.range k).map (pairByte s) ++ List.replicate (32 - k) 0
theorem length_unTo (s : List UInt8) (k : Nat) (hk : k ≤ 32) : (unTo s k).length = 32 := by simp [unTo]; omega
theorem unTo_set (s : List UInt8) (k : Nat) (h : k < 32) : (unTo s k).set k (pairByte s k) = unTo s (k + 1) := by
  unfold unTo
  have e : 32 - k = (32 - (k + 1)) + 1 := by omega
  rw [List.set_append_right _ _ (by simp), e, List.replicate_succ, List.range_succ]
  simp
theorem Good.next {s : List UInt8} {k : Nat} (h : Good s k) (h0 : 0 ≤ idx (s.getD (2 * k) 0)) (h1 : 0 ≤ idx (s.getD (2 * k + 1) 0)) : Good s (k + 1) := fun i hi => by
  by_cases e : i = k
  · subst e; exact ⟨h0, h1⟩
  · exact h i (by omega)
/-- What reading a text answers. -/
def UnOf (s h : List UInt8) (c : Int) : Prop := (s.length = 64 ∧ Good s 32 ∧ h = unTo s 32 ∧ c = 0) ∨ (¬ (s.length = 64 ∧ Good s 32) ∧ h = List.replicate 32 0 ∧ c = 3)
theorem results_cell_slot {P : Program} {fn : Func} {p q : Tmp} {ty : TypeId} (h : fn.results = #[.cell p ty, .tmp q]) (tmps : Array Value) (w : World) {b : Nat} {C : Array Value} {t : TypeId} {fr : Nat × Nat}
    (hp : tmps.getD p undef = .pointer (some ⟨b, 0, none⟩)) (hb : w.heap[b]? = some (.cells C t fr)) (d : TypeDesc) (hu : P.underlying ty = some d) (hd : d.isRow = true) (hi : (P.info? ty).map (·.size) = some C.size) :
    (results fn tmps).run P w = .ok (.tuple #[.agg C, tmps.getD q undef]) w := by
  have hp' : tmps[p]?.getD undef = .pointer (some ⟨b, 0, none⟩) := by simpa using hp
  simp only [results, h]
  simp [hp', asAddr, run_load_block hb d hu hd hi]
theorem index_digit (a : UInt8) (w : World) : Calls Tryd.prog 30 #[.string ⟨#[48, 49, 50, 51, 52, 53, 54, 55, 56, 57, 97, 98, 99, 100, 101, 102]⟩, B a] w fun e w' => e = .returned (.int .i64 (idx a)) ∧ w' = w := by
  refine (index_any _ (V a) w).mono fun e w' ⟨he, hw⟩ => ⟨?_, hw⟩
  rw [he]
  have : (V a).toNat.toUInt8 = a := by unfold V; simp
  rw [this]; rfl
theorem run_index_str (s : ByteArray) (i : Int) (w : World) (h0 : 0 ≤ i) (h1 : i < s.size) : (Instr.index 9 (.string s) (.int .i64 i)).run Tryd.prog w = .ok (B (s.data.toList.getD i.toNat 0)) w := by
  rw [run_index_string w _ s .i64 i Tryd.underlying9, dif_pos ⟨h0, h1⟩]
  have hl : i.toNat < s.data.toList.length := by have : s.data.toList.length = s.size := by simp
                                                 omega
  rw [List.getD_eq_getElem?_getD, List.getElem?_eq_getElem hl]
  rfl
theorem zeros26 : ((List.replicate 32 (0 : UInt8)).map B).toArray.size = 32 := by simp
set_option maxHeartbeats 1000000 in
theorem unhex_other (s : ByteArray) (hs : s.size ≠ 64) (w : World) :
    Calls Tryd.prog 21 #[.string s] w fun e w' => e = .returned (.tuple #[.agg ((List.replicate 32 (0 : UInt8)).map B).toArray, .int .i64 3]) ∧ Below w.heap.size w w' := by
  have hx : ((s.size : Int) != 64) = true := by rw [bne_iff_ne]; omega
  clear hs
  have h2 := new2 w (.cells ((List.replicate 32 (0 : UInt8)).map B).toArray 26) (.cells ((List.replicate 32 (0 : UInt8)).map B).toArray 26)
  have HR := hid h2.1
  have HB := hid h2.2.2.1
  have H1 := hid (all_oneCell_toArray (B_one (List.replicate 32 (0 : UInt8))))
  clear h2
  go_enter Tryd.func21, Tryd.ntmps21
  go_wp2_with (refine wpList_store_block rfl 26 (.tmp 2) (.tmp 11) rfl (w.heap.size) ((List.replicate 32 (0 : UInt8)).map B).toArray rfl rfl _ 26 HR.out rfl (info26.trans (congrArg some zeros26.symm)) H1.out ?_; intro w6 hg6 hb6 hz6)
  refine bodyPost_ret (results_cell_slot Tryd.results21 _ _ rfl hb6 _ Tryd.underlying26 rfl (info26.trans (congrArg some zeros26.symm))) rfl ⟨rfl, ?_⟩
  exact HB.out.trans (below_of_grown hg6 (by omega) HB.out.size)
set_option maxRecDepth 20000 in
set_option maxHeartbeats 2000000 in
theorem unhex_same (s : ByteArray) (hs : s.size = 64) (w : World) :
    Calls Tryd.prog 21 #[.string s] w fun e w' => (∃ h c, UnOf s.data.toList h c ∧ e = .returned (.tuple #[.agg (h.map B).toArray, .int .i64 c])) ∧ Below w.heap.size w w' := by
  have hx : ((s.size : Int) != 64) = false := by rw [bne_eq_false_iff_eq]; omega
  have HS := hid hs
  clear hs
  have h2 := new2 w (.cells ((List.replicate 32 (0 : UInt8)).map B).toArray 26) (.cells ((List.replicate 32 (0 : UInt8)).map B).toArray 26)
  have H1 := hid (all_oneCell_toArray (B_one (List.replicate 32 (0 : UInt8))))
  go_enter Tryd.func21, Tryd.ntmps21
  go_wp2
  go_loopw [12] (fun i wr => ∃ k : Nat, k ≤ 32 ∧ i = .int .i64 k ∧ Good s.data.toList k ∧ wr.heap[w.heap.size + 1]? = some (.cells ((unTo s.data.toList k).map B).toArray 26 (0, 0)) ∧
      wr.heap[w.heap.size]? = some (.cells ((List.replicate 32 (0 : UInt8)).map B).toArray 26 (0, 0)) ∧ Below w.heap.size w wr)
    (fun i _ => 32 - (intOf i).toNat)
  case atStart => exact ⟨0, by omega, rfl, fun i hi => by omega, h2.2.1, h2.1, h2.2.2.1⟩
  case round =>
    clear h2
    obtain ⟨k, hk, rfl, hG, hO, hR, hB⟩ := hrel
    by_cases hlt : k < 32
    · have hsz := HS.out
      have q0 : (0 : Int) ≤ 2 * (k : Int) := by omega
      have q1 : 2 * (k : Int) < (s.size : Int) := by omega
      have q2 : 2 * (k : Int) + 1 < (s.size : Int) := by omega
      clear hsz
      have i1 : ∀ W, (Instr.index 9 (.string s) (.int .i64 (2 * (k : Int)))).run Tryd.prog W = .ok (B (s.data.toList.getD (2 * k) 0)) W := fun W => run_index_str s _ W q0 q1
      have i2 : ∀ W, (Instr.index 9 (.string s) (.int .i64 (2 * (k : Int) + 1))).run Tryd.prog W = .ok (B (s.data.toList.getD (2 * k + 1) 0)) W := fun W => run_index_str s _ W (by omega) q2
      have HE := hid (show pairByte s.data.toList k = UInt8.ofNat (16 * idx (s.data.toList.getD (2 * k) 0) + idx (s.data.toList.getD (2 * k + 1) 0)).toNat from rfl)
      have HN := hid (show 0 ≤ idx (s.data.toList.getD (2 * k) 0) → 0 ≤ idx (s.data.toList.getD (2 * k + 1) 0) → Good s.data.toList (k + 1) from hG.next)
      have HF := hid (show Good s.data.toList 32 → 0 ≤ idx (s.data.toList.getD (2 * k) 0) ∧ 0 ≤ idx (s.data.toList.getD (2 * k + 1) 0) from fun h => h k hlt)
      have hlo := length_unTo s.data.toList k hk
      have HS2 := hid (unTo_set s.data.toList k hlt)
      generalize s.data.toList.getD (2 * k) 0 = x at *
      generalize s.data.toList.getD (2 * k + 1) 0 = y at *
      have HO := hid hO
      have HR := hid hR
      have HG := hid hG
      clear hO hR hG
      go_wp2
      go_quiet (first | (go_at_call_of 30 (B x); refine Calls.quiet_of_same (index_digit x _)) | (go_at_call_of 30 (B y); refine Calls.quiet_of_same (index_digit y _)))
      have nx := (idx_in x).1
      have nx' := (idx_in x).2
      have ny := (idx_in y).1
      have ny' := (idx_in y).2
      by_cases hpx : idx x < 0
      · go_wp2_with (refine wpList_store_block rfl 26 (.tmp 2) (.tmp 32) rfl (w.heap.size) ((List.replicate 32 (0 : UInt8)).map B).toArray rfl rfl _ 26 (by exact HR.out) rfl (info26.trans (congrArg some zeros26.symm)) H1.out ?_; intro w6 hg6 hb6 hz6)
        refine bodyPost_ret (results_cell_slot Tryd.results21 _ _ rfl hb6 _ Tryd.underlying26 rfl (info26.trans (congrArg some zeros26.symm))) rfl ⟨⟨List.replicate 32 0, 3, .inr ⟨fun h => ?_, rfl, rfl⟩, rfl⟩, ?_⟩
        · have := HF.out h.2; omega
        · exact (below_drewN hB nq).trans (below_of_grown hg6 (Nat.le_refl _) hB.size)
      · by_cases hpy : idx y < 0
        · go_wp2_with (refine wpList_store_block rfl 26 (.tmp 2) (.tmp 32) rfl (w.heap.size) ((List.replicate 32 (0 : UInt8)).map B).toArray rfl rfl _ 26 (by exact HR.out) rfl (info26.trans (congrArg some zeros26.symm)) H1.out ?_; intro w6 hg6 hb6 hz6)
          refine bodyPost_ret (results_cell_slot Tryd.results21 _ _ rfl hb6 _ Tryd.underlying26 rfl (info26.trans (congrArg some zeros26.symm))) rfl ⟨⟨List.replicate 32 0, 3, .inr ⟨fun h => ?_, rfl, rfl⟩, rfl⟩, ?_⟩
          · have := HF.out h.2; omega
          · exact (below_drewN hB nq).trans (below_of_grown hg6 (Nat.le_refl _) hB.size)
        · have c2 : wr.cell? ⟨w.heap.size + 1, k, none⟩ = some (B ((unTo s.data.toList k).getD k 0)) := by rw [cell_of_block HO.out, List.getElem?_toArray, List.getElem?_map, get_some (d := 0) (by omega)]; rfl
          have f2 : wr.frozen? ⟨w.heap.size + 1, k, none⟩ = false := frozen_of_block HO.out _
          generalize (unTo s.data.toList k).getD k 0 = z at *
          have hm : 16 * idx x + idx y = V (UInt8.ofNat (16 * idx x + idx y).toNat) := by unfold V; rw [UInt8.toNat_ofNat']; omega
          have HM := hid hm
          clear hm hlo
          go_wp2
          rw [HM.out, ← HE.out]
          go_roundw
          case rel =>
            refine ⟨k + 1, by omega, by go_num, HN.out (by omega) (by omega), ?_, ?_, ?_⟩
            · rw [← HS2.out, ← set_mapB]; exact block_setCell (w := wr.drewN nq) HO.out _ _
            · exact (block_setCell_other (w := wr.drewN nq) _ _ (by omega)).trans HR.out
            · exact (below_drewN hB nq).setCell (by simp) _
          case measure => simp [intOf]; omega
    · have hk32 : k = 32 := by omega
      subst hk32
      have HO := hid hO
      have HR := hid hR
      have Hs : Hid (((unTo s.data.toList 32).map B).toArray.size = 32) := by simp [Hid, length_unTo]
      have H2 := hid (all_oneCell_toArray (B_one (unTo s.data.toList 32)))
      clear hO hR hlt hk
      go_wp2_with (first
        | (refine wpList_load_block rfl 26 (.tmp 4) rfl (w.heap.size + 1) rfl ((unTo s.data.toList 32).map B).toArray 26 (0, 0) HO.out _ Tryd.underlying26 rfl (info26.trans (congrArg some Hs.out.symm)) ?_)
        | (refine wpList_store_block rfl 26 (.tmp 2) (.tmp 41) rfl (w.heap.size) ((unTo s.data.toList 32).map B).toArray rfl rfl _ 26 HR.out (Hs.out.trans (by simp)) (info26.trans (congrArg some Hs.out.symm)) H2.out ?_; intro w6 hg6 hb6 hz6))
      refine bodyPost_ret (results_cell_slot Tryd.results21 _ _ rfl hb6 _ Tryd.underlying26 rfl (info26.trans (congrArg some Hs.out.symm))) rfl ⟨⟨_, 0, .inl ⟨?_, hG, rfl, rfl⟩, rfl⟩, ?_⟩
      · have := HS.out; simpa using this
      · exact hB.trans (below_of_grown hg6 (by omega) hB.size)
theorem unhex_any (s : ByteArray) (w : World) :
    Calls Tryd.prog 21 #[.string s] w fun e w' => (∃ h c, UnOf s.data.toList h c ∧ e = .returned (.tuple #[.agg (h.map B).toArray, .int .i64 c])) ∧ Below w.heap.size w w' := by
  by_cases hs : s.size = 64
  · exact unhex_same s hs w
  · refine (unhex_other s hs w).mono fun e w' ⟨he, hB⟩ => ⟨⟨_, 3, .inr ⟨fun h => hs ?_, rfl, rfl⟩, he⟩, hB⟩
    simpa using h.1
end Go.Proofs.YtohfgppdeiddmaaDoor
