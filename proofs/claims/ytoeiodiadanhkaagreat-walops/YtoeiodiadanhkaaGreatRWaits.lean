/- The reference's waits. -/
import Derived.Test.YtoeiodiadanhkaaGreatRef4
namespace Go.Proofs.YtoeiodiadanhkaaGreat
open Go.RowKit
/-- How many of the ops from f to k are of sector n. -/
def waitsIn (l : List ROp) (n : Int) (f : Nat) : Nat → Nat
  | 0 => 0
  | k + 1 => if h : k < l.length then (if f ≤ k ∧ l[k].n = n then waitsIn l n f k + 1 else waitsIn l n f k) else waitsIn l n f k
theorem waitsIn_le (l : List ROp) (n : Int) (f : Nat) : ∀ k, waitsIn l n f k ≤ k
  | 0 => Nat.le_refl _
  | k + 1 => by
    have := waitsIn_le l n f k
    unfold waitsIn
    split
    · split <;> omega
    · omega
theorem waitsIn_low (l : List ROp) (n : Int) (f : Nat) : ∀ k, k ≤ f → waitsIn l n f k = 0
  | 0, _ => rfl
  | k + 1, h => by
    have := waitsIn_low l n f k (by omega)
    unfold waitsIn
    split
    · rw [if_neg (by omega)]; exact this
    · exact this
set_option maxRecDepth 100000 in
set_option maxHeartbeats 2000000 in
theorem rwaits_any (r : Nat) (fv lv : Value) (vs : List Value) (Rd : Nat → Prop) (R : RefS) (n : Int) (w : World) (h : RefIn w r fv lv vs Rd R) (hm : R.l.length ≤ 1000000) :
    Calls Tryz.prog 84 #[.pointer (some ⟨r, 0, none⟩), .int .i64 n] w fun e w' => ∃ a c, e = .returned (.slice a (waitsIn R.l n (flushedTo R.l R.l.length) R.l.length) c) ∧ Below w.heap.size w w' := by
  obtain ⟨i0, hi, hz0, hz1, hz2⟩ := info_parts infoRow
  have HI := hid hi
  have HF := hid (rflushed_any r fv lv vs Rd R w h hm)
  have HFl := hid (flushedTo_le R.l R.l.length)
  have H := hid h
  clear h hi
  generalize hff : flushedTo R.l R.l.length = ff at *
  clear hff
  go_enter Tryz.func84, Tryz.ntmps84
  go_wp2_with fail
  refine HF.out.mono ?_
  clear HF
  rintro e w9 ⟨rfl, h9⟩
  obtain rfl := h9.symm
  go_wp2
  go_loopw [5, 6] (fun v i wr => ∃ (k : Nat) (us : List Value), ff ≤ k ∧ k ≤ R.l.length ∧ i = .int .i64 k ∧ Hid (wr.ownsRow w.heap.size 37 1 v (waitsIn R.l n ff k) us) ∧ Hid (Below w.heap.size w wr)) (fun _ i _ => R.l.length - (intOf i).toNat)
  case atStart => exact ⟨ff, [], Nat.le_refl _, HFl.out, rfl, by rw [waitsIn_low _ _ _ _ (Nat.le_refl _)]; exact World.ownsRow_nil _ _ _ _, Below.refl _ _⟩
  case round =>
    obtain ⟨k, us, hfk, hk, rfl, hM, hB⟩ := hrel
    have hH := H.out.below hB.out
    obtain ⟨sa, cap, hlv, hs⟩ := hH.slice
    have t1 : wr.cell? ⟨r, 1, none⟩ = some (.slice sa R.l.length cap) := by rw [cell_of_block hH.heap, ← hlv]; rfl
    by_cases hlt : k < R.l.length
    · have hk0 : (0 : Int) ≤ (k : Int) := by omega
      have hk1 : (k : Int) < (R.l.length : Int) := by omega
      have hkv : k < vs.length := by rw [← hH.len]; exact hlt
      obtain ⟨g, rfl, -, q1, q2⟩ := hs k hlt hkv
      obtain ⟨ab, cb, ev, -, -⟩ := hH.bytes k hlt hkv
      rw [ev] at q2
      have HW : Hid (waitsIn R.l n ff (k + 1) = if R.l[k].n = n then waitsIn R.l n ff k + 1 else waitsIn R.l n ff k) := by simp [Hid, waitsIn, hlt, hfk]
      have hle := waitsIn_le R.l n ff k
      generalize R.l[k].n = nn at *
      generalize (R.l[k].b).length = bl at *
      clear hs hlv ev hH
      by_cases he : nn = n
      · subst he
        simp only [if_true] at HW
        generalize waitsIn R.l nn ff k = m at *
        go_wp2_with (refine wpList_append_lies _ rfl (.tmp 28) (.tmp 37) 51 rfl w.heap.size 37 i0 (.slice none 0 0) 1 24 Tryz.underlying51 HI.out hz0 hz1 hz2 rfl (by omega) u5 m us rfl (hM.out.alloc _) ⟨wr.heap.size, 0, none⟩ 1 1 [.slice ab bl cb] rfl rfl (World.news_of_block (cs := #[.slice ab bl cb]) (block_new wr _)) (by intro u hu; rw [List.mem_singleton.1 hu]; rfl) (by omega) (by unfold maxLen; omega) (by omega) (by have := hB.out.size; simp; omega) (wr.heap.size + 1) (by simp) ?_; intro g3 cap3 w3 hown hgr hat hlt2; have HO := hid hown; have HG := hid hgr; clear hown hgr hat hlt2)
        have hba := hB.out.alloc hB.out.size (.cells #[.slice ab bl cb] 37)
        exact ⟨⟨k + 1, _, by omega, by omega, by go_num, by rw [HW.out]; exact HO.out, hba.trans (below_of_row HG.out hba.size (fun i e => (hM.out.lt i e).1))⟩, by simp [intOf]; omega⟩
      · have he' : (nn == n) = false := by rw [beq_eq_false_iff_ne]; exact he
        simp only [he, if_false] at HW
        go_wp2
        exact ⟨⟨k + 1, us, by omega, by omega, by go_num, by rw [HW.out]; exact hM.out, hB.out⟩, by simp [intOf]; omega⟩
    · obtain rfl : k = R.l.length := by omega
      have hge : ¬ ((R.l.length : Int) < (R.l.length : Int)) := by omega
      obtain ⟨oa, oc, rfl, -⟩ := row_slice hM.out
      clear hs hlv hH
      go_wp2
      go_ret
      first | exact ⟨_, _, rfl, hB.out⟩ | exact ⟨⟨_, _, rfl⟩, hB.out⟩ | exact ⟨_, ⟨_, rfl⟩, hB.out⟩
end Go.Proofs.YtoeiodiadanhkaaGreat
