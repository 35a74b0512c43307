/- TarfmtSums' walk. -/
import Derived.Test.YtdfnhgkabaikaaaTLive
namespace Go.Proofs.Ytdfnhgkabaikaaa
open Go.RowKit
theorem total_set {bs : List UInt8} {k : Nat} (x : UInt8) (hk : k < bs.length) : total (bs.set k x) + (bs.getD k 0).toNat = total bs + x.toNat := by
  have h1 : bs = bs.take k ++ bs[k] :: bs.drop (k + 1) := by rw [← List.drop_eq_getElem_cons hk, List.take_append_drop]
  have h2 : total (bs.set k x) = total (bs.take k) + (x.toNat + total (bs.drop (k + 1))) := by
    rw [List.set_eq_take_append_cons_drop, if_pos hk, total_append, show x :: bs.drop (k + 1) = [x] ++ bs.drop (k + 1) from rfl, total_append]
    simp [total]
  have h3 : total bs = total (bs.take k) + (bs[k].toNat + total (bs.drop (k + 1))) := by
    conv => lhs; rw [h1]
    rw [total_append, show bs[k] :: bs.drop (k + 1) = [bs[k]] ++ bs.drop (k + 1) from rfl, total_append]
    simp [total]
  have h4 : bs.getD k 0 = bs[k] := by rw [List.getD_eq_getElem?_getD, List.getElem?_eq_getElem hk]; rfl
  rw [h2, h3, h4]
  omega
theorem fld_set_out {bs : List UInt8} {k : Nat} (x : UInt8) (h : k < 148 ∨ 156 ≤ k) : fld (bs.set k x) 148 8 = fld bs 148 8 := by
  unfold fld
  rw [List.drop_set]
  split
  · rfl
  · rw [List.take_set, List.set_eq_of_length_le]
    rw [List.length_take]; omega
theorem fld_set_in {bs : List UInt8} {k : Nat} (x : UInt8) (h : 148 ≤ k) : fld (bs.set k x) 148 8 = (fld bs 148 8).set (k - 148) x := by
  unfold fld
  rw [List.drop_set, if_neg (by omega), List.take_set]
theorem sumH_out {bs : List UInt8} {k : Nat} (x : UInt8) (hk : k < bs.length) (h : k < 148 ∨ 156 ≤ k) : sumH (bs.set k x) - sumH bs = V x - V (bs.getD k 0) := by
  have h1 := total_set x hk
  unfold sumH V
  rw [fld_set_out x h]
  omega
theorem sumH_in {bs : List UInt8} {k : Nat} (x : UInt8) (hl : bs.length = 512) (h1 : 148 ≤ k) (h2 : k < 156) : sumH (bs.set k x) = sumH bs := by
  have h3 := total_set x (show k < bs.length by omega)
  have hf : (fld bs 148 8).length = 8 := length_fld bs 148 8 (by omega)
  have h4 := total_set (bs := fld bs 148 8) (k := k - 148) x (by omega)
  have h5 : (fld bs 148 8).getD (k - 148) 0 = bs.getD k 0 := by
    unfold fld
    rw [List.getD_eq_getElem?_getD, List.getD_eq_getElem?_getD, List.getElem?_take_of_lt (by omega), List.getElem?_drop, show 148 + (k - 148) = k by omega]
  rw [h5] at h4
  unfold sumH
  rw [fld_set_in x h1]
  omega
set_option maxRecDepth 100000 in
theorem sum_other (ao : Option Addr) (n cap : Nat) (w : World) (hn : n ≠ 512) : Calls Try.prog 15 #[.slice ao n cap] w fun e w' => e = .returned (.int .i64 0) ∧ w' = w := by
  have h1 : ((n : Int) != 512) = true := bne_iff_ne.2 (by omega)
  go_enter Try.func15, Try.ntmps15
  go_wp2
  go_ret
  exact ⟨rfl, rfl⟩
theorem sum_rd {ao : Option Addr} {cap : Nat} {bs : List UInt8} (w : World) (hr : Rd w (.slice ao 512 cap) bs) : Calls Try.prog 15 #[.slice ao 512 cap] w fun e w' => e = .returned (.int .i64 (sumH bs)) ∧ Below w.heap.size w w' := by
  obtain ⟨ao', cap', e, r1, r2, r3, r4⟩ := hr
  simp only [Value.slice.injEq] at e
  obtain ⟨rfl, hl, rfl⟩ := e
  cases ao with
  | none => have := r3 rfl; omega
  | some ad =>
    obtain ⟨b, o, rfl, -⟩ := r4 ad rfl 0 (bs.getD 0 0) (by rw [List.getD_eq_getElem?_getD, List.getElem?_eq_getElem (by omega)]; rfl)
    obtain ⟨c, rfl⟩ : ∃ c, cap = c + 512 := ⟨cap - 512, by omega⟩
    refine sum_512 bs b o c w hl.symm (fun j hj => ?_)
    obtain ⟨b', o', he, -, hc⟩ := r4 _ rfl j (bs.getD j 0) (by rw [List.getD_eq_getElem?_getD, List.getElem?_eq_getElem hj]; rfl)
    simp only [Addr.mk.injEq, and_true] at he
    obtain ⟨rfl, rfl⟩ := he
    exact hc
/-- Bytes are copied into a block of one's own. -/
theorem copy_blk (bs : List UInt8) (v : Value) (w : World) (hr : Rd w v bs) (hlen : bs.length ≤ 140737488351232) (h0 : 0 < bs.length) :
    Calls Try.prog 19 #[v] w fun e w' => ∃ g cap C, e = .returned (.slice (some ⟨g, 0, none⟩) bs.length cap) ∧ bs.length ≤ cap ∧ cap ≤ 9223372036854775807 ∧ w.heap.size ≤ g ∧ w'.heap[g]? = some (.cells C 5 (0, 0)) ∧ C.toList.take bs.length = bs.map B ∧ Below w.heap.size w w' := by
  obtain ⟨a, cap, rfl, hcap, _, hnone, hx⟩ := hr
  cases a with
  | none => have := hnone rfl; omega
  | some ad =>
    obtain ⟨b, off, rfl, _⟩ := hx ad rfl 0 bs[0] (List.getElem?_eq_getElem h0)
    have hcell : ∀ (j : Nat) (u : Value), (bs.map B)[j]? = some u → w.cell? ((⟨b, off, none⟩ : Addr).add j) = some u := by
      intro j u hu
      rw [List.getElem?_map] at hu
      obtain ⟨x, hxj, rfl⟩ := Option.map_eq_some_iff.1 hu
      obtain ⟨b', off', he, _, hc⟩ := hx _ rfl j x hxj
      simp only [Addr.mk.injEq, and_true] at he
      obtain ⟨rfl, rfl⟩ := he
      rw [Addr.add_mid]; exact hc
    have HC := hid hcell
    obtain ⟨i0, hi, hz0, hz1, hz2⟩ := info_parts infoU
    have HI := hid hi
    clear hx hcell hi
    go_enter Try.func19, Try.ntmps19
    go_wp2_with (refine wpList_append_lies _ rfl (.tmp 4) (.tmp 5) 23 rfl w.heap.size 5 i0 (.int .u8 0) 1 1 Try.underlying23 HI.out hz0 hz1 hz2 rfl (by omega) (.slice none 0 0) 0 [] rfl (World.ownsRow_nil _ _ _ _) ⟨b, off, none⟩ bs.length cap (bs.map B) rfl (by simp) HC.out (B_one _) h0 (by unfold maxLen; omega) (by omega) (Nat.le_refl _) w.heap.size rfl ?_; intro g cap' w1 hown hgr hat hlt)
    go_ret
    rw [List.nil_append, Nat.zero_add] at hown
    have hB : Below w.heap.size w w1 := ⟨hgr.os, hgr.tape, hgr.output, hgr.size, fun k hk => hgr.block k hk (by simp [Value.ownBlock])⟩
    rcases hown.2 with ⟨e, -⟩ | ⟨g', cap2, cur, e, h1, h2, h3, h4, h5, h6⟩
    · cases e
    · simp only [Value.slice.injEq, Option.some.injEq, Addr.mk.injEq, and_true, true_and] at e
      obtain ⟨rfl, rfl⟩ := e
      exact ⟨g, cap', cur, rfl, h3, by unfold maxLen at h4; omega, h1, h2, by simpa using h6, hB⟩
end Go.Proofs.Ytdfnhgkabaikaaa
