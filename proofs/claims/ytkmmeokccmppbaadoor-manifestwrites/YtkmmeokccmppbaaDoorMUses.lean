/- Uses of the manifest's package: how often a layer stands there. -/
import Derived.Test.YtkmmeokccmppbaaDoorMSame
namespace Go.Proofs.YtkmmeokccmppbaaDoor
open Go.RowKit
theorem count_take_next {ls : List (List UInt8)} {h : List UInt8} {k : Nat} (hk : k < ls.length) : (ls.take (k + 1)).count h = (ls.take k).count h + if ls[k] = h then 1 else 0 := by
  rw [List.take_succ_eq_append_getElem hk, List.count_append, List.count_singleton]
  by_cases e : ls[k] = h <;> simp [e]
set_option maxHeartbeats 1000000 in
set_option maxRecDepth 100000 in
theorem uses_any (os ar : List UInt8) (ls : List (List UInt8)) (la : Option Addr) (lc : Nat) (h : List UInt8) (h32 : h.length = 32) (w : World) (hl : layersAt w la ls) (hn : ls.length ≤ 9223372036854775807) :
    Calls Tryd.prog 12 #[.agg #[str os, str ar, .slice la ls.length lc], .agg (h.map B).toArray] w fun e w' => e = .returned (.int .i64 (ls.count h : Nat)) ∧ Below w.heap.size w w' := by
  obtain ⟨n1, n2, n3, n4⟩ := new2 w (.cells #[str os, str ar, .slice la ls.length lc] 24) (.cells (h.map B).toArray 26)
  have HA := hid n1
  have HH := hid n2
  have HB := hid n3
  have HL := hid (hl.below n3)
  have Hs : Hid ((h.map B).toArray.size = 32) := by simp [Hid, h32]
  have H32 := hid h32
  clear n1 n2 n3 n4 hl h32
  go_enter Tryd.func12, Tryd.ntmps12
  go_wp2
  generalize (w.alloc (.cells #[str os, str ar, .slice la ls.length lc] 24)).alloc (.cells (h.map B).toArray 26) = w1 at *
  go_loopw [5, 11] (fun c i wr => ∃ k : Nat, k ≤ ls.length ∧ i = .int .i64 k ∧ c = .int .i64 ((ls.take k).count h : Nat) ∧ Hid (Below w1.heap.size w1 wr)) (fun _ i _ => ls.length - (intOf i).toNat)
  case atStart => exact ⟨0, by omega, rfl, by simp, Below.refl _ _⟩
  case round =>
    obtain ⟨k, hk, rfl, rfl, hB⟩ := hrel
    by_cases hlt : k < ls.length
    · have hk0 : (0 : Int) ≤ (k : Int) := by omega
      have hk1 : (k : Int) < (ls.length : Int) := by omega
      obtain ⟨b, o, rfl, _, hr⟩ := (HL.out.below hB.out).2 k hlt
      have e32 := HL.out.1 ls[k] (List.getElem_mem hlt)
      have HC := hid (count_take_next (h := h) hlt)
      have hcl : (ls.take k).count h ≤ k := Nat.le_trans List.count_le_length (by rw [List.length_take]; omega)
      generalize (ls.take k).count h = cn at *
      generalize ls[k] = x at *
      have HR := hid hr
      have E32 := hid e32
      have Hx : Hid ((x.map B).toArray.size = 32) := by simp [Hid, e32]
      have H1 := hid (all_oneCell_toArray (B_one x))
      have heq := fun W => run_eq32 x h e32 H32.out W
      have HHr := hid ((hB.out.block _ (lt_of_heap HH.out)).trans HH.out)
      have hgl := lt_of_heap HHr.out
      clear hr e32
      by_cases hxy : x = h
      · rw [decide_eq_true hxy] at heq
        rw [if_pos hxy] at HC
        clear hxy
        go_wp2_with (first
          | (refine wpList_load_mid rfl 26 (.tmp 13) rfl b (o + k * 32) rfl (x.map B) _ HR.out Tryd.underlying26 rfl (infoH.trans (by rw [List.length_map, E32.out])) ?_)
          | (refine wpList_store_block rfl 26 (.tmp 7) (.tmp 14) rfl (wr.heap.size) (x.map B).toArray rfl rfl _ 26 (block_new wr _) (Hx.out.trans (by rfl)) (infoH.trans (congrArg some Hx.out.symm)) H1.out ?_; intro w6 hg6 hb6 hz6; have HB6 := hid hb6; have HG6 := hid ((hg6.block _ (by simp; omega) (fun e => by simp at e; omega)).trans ((Below.heap_alloc _ _ _ hgl).trans HHr.out)); have HZ6 := hid ((hB.out.alloc hB.out.size _).grown hg6 (by have := hB.out.size; simp; omega) (fun k hk => by cases hk; exact hB.out.size)); clear hg6 hb6)
          | (refine wpList_load_block rfl 26 (.tmp 7) rfl wr.heap.size rfl (x.map B).toArray 26 (0, 0) HB6.out _ Tryd.underlying26 rfl (infoH.trans (congrArg some Hx.out.symm)) ?_)
          | (refine wpList_load_block rfl 26 (.tmp 3) rfl (w.heap.size + 1) rfl (h.map B).toArray 26 (0, 0) HG6.out _ Tryd.underlying26 rfl (infoH.trans (congrArg some Hs.out.symm)) ?_))
        exact ⟨⟨k + 1, by omega, by go_num, by rw [HC.out]; push_cast; rfl, HZ6⟩, by simp [intOf]; omega⟩
      · rw [decide_eq_false hxy] at heq
        rw [if_neg hxy] at HC
        clear hxy
        go_wp2_with (first
          | (refine wpList_load_mid rfl 26 (.tmp 13) rfl b (o + k * 32) rfl (x.map B) _ HR.out Tryd.underlying26 rfl (infoH.trans (by rw [List.length_map, E32.out])) ?_)
          | (refine wpList_store_block rfl 26 (.tmp 7) (.tmp 14) rfl (wr.heap.size) (x.map B).toArray rfl rfl _ 26 (block_new wr _) (Hx.out.trans (by rfl)) (infoH.trans (congrArg some Hx.out.symm)) H1.out ?_; intro w6 hg6 hb6 hz6; have HB6 := hid hb6; have HG6 := hid ((hg6.block _ (by simp; omega) (fun e => by simp at e; omega)).trans ((Below.heap_alloc _ _ _ hgl).trans HHr.out)); have HZ6 := hid ((hB.out.alloc hB.out.size _).grown hg6 (by have := hB.out.size; simp; omega) (fun k hk => by cases hk; exact hB.out.size)); clear hg6 hb6)
          | (refine wpList_load_block rfl 26 (.tmp 7) rfl wr.heap.size rfl (x.map B).toArray 26 (0, 0) HB6.out _ Tryd.underlying26 rfl (infoH.trans (congrArg some Hx.out.symm)) ?_)
          | (refine wpList_load_block rfl 26 (.tmp 3) rfl (w.heap.size + 1) rfl (h.map B).toArray 26 (0, 0) HG6.out _ Tryd.underlying26 rfl (infoH.trans (congrArg some Hs.out.symm)) ?_))
        exact ⟨⟨k + 1, by omega, by go_num, by rw [HC.out]; rfl, HZ6⟩, by simp [intOf]; omega⟩
    · have hge : ¬ ((k : Int) < (ls.length : Int)) := by omega
      have HE : Hid ((ls.take k).count h = ls.count h) := by unfold Hid; rw [List.take_of_length_le (by omega)]
      have HB2 := hid (HB.out.trans (hB.out.mono HB.out.size))
      generalize (ls.take k).count h = cn at *
      go_wp2
      go_ret
      exact ⟨by rw [← HE.out]; rfl, HB2.out⟩
end Go.Proofs.YtkmmeokccmppbaaDoor
