/- The reference's Bytes, Encode and Uses. -/
import Derived.Test.YtkmmeokccmppbaaDoorWRef
namespace Go.Proofs.YtkmmeokccmppbaaDoor
open Go.RowKit
set_option maxHeartbeats 1000000 in
set_option maxRecDepth 100000 in
theorem fbytesOf_any (h : List UInt8) (h32 : h.length = 32) (w : World) : Calls Tryd.prog 21 #[.agg (h.map B).toArray] w fun e w' => ∃ v', e = .returned v' ∧ Buf w.heap.size w w' v' h := by
  have HB := hid ((Below.refl w.heap.size w).alloc (Nat.le_refl _) (.cells (h.map B).toArray 26))
  have HH : Hid ((w.alloc (.cells (h.map B).toArray 26)).heap[w.heap.size]? = some (.cells (h.map B).toArray 26 (0, 0))) := block_new w _
  have hsz : (w.alloc (.cells (h.map B).toArray 26)).heap.size = w.heap.size + 1 := by simp
  obtain ⟨i0, hi, hz0, hz1, hz2⟩ := info_parts infoU
  have HI := hid hi
  have HS := hid hsz
  have H32 := hid h32
  clear hi hsz h32
  go_enter Tryd.func21, Tryd.ntmps21
  go_wp2
  generalize w.alloc (.cells (h.map B).toArray 26) = w1 at *
  go_loopw [3, 4] (fun v i wr => ∃ k : Nat, k ≤ 32 ∧ i = .int .i64 k ∧ Hid (Buf w1.heap.size w1 wr v (h.take k))) (fun _ i _ => 32 - (intOf i).toNat)
  case atStart => exact ⟨0, by omega, rfl, World.ownsRowF_nil _ _ _ _, Below.refl _ _, Nat.le_refl _⟩
  case round =>
    obtain ⟨k, hk, rfl, hO⟩ := hrel
    by_cases hlt : k < 32
    · have hk0 : (0 : Int) ≤ (k : Int) := by omega
      have hk1 : (k : Int) < 32 := by omega
      have hkh : k < h.length := by rw [H32.out]; exact hlt
      have c0 : wr.cell? ⟨w.heap.size, k, none⟩ = some (B (h.getD k 0)) := by
        rw [cell_of_block ((hO.out.2.1.block _ (lt_of_heap HH.out)).trans HH.out), List.getElem?_toArray, List.getElem?_map, get_some (d := 0) hkh]; rfl
      have HT : Hid (h.take (k + 1) = h.take k ++ [h.getD k 0]) := by unfold Hid; rw [List.take_succ_eq_append_getElem hkh, List.getD_eq_getElem?_getD, List.getElem?_eq_getElem hkh]; rfl
      have hlk : (h.take k).length ≤ 32 := by rw [List.length_take]; omega
      generalize h.getD k 0 = x at *
      generalize h.take k = X at *
      go_wp2_with (refine Lib.wpList_append_byte rfl (.tmp 9) (.tmp 13) 27 rfl w1.heap.size 5 i0 Tryd.underlying27 HI.out hz0 hz1 hz2 u3 X.length (X.map B) rfl w1 wr (V x) hO.out rfl (by omega) ?_; intro v4 w4 hb4; have H4 := hid hb4; clear hb4)
      refine ⟨⟨k + 1, by omega, by go_num, ?_⟩, by simp [intOf]; omega⟩
      have h4 := H4.out
      rw [HT.out]
      unfold Hid Buf
      simpa using h4
    · have hge : ¬ ((k : Int) < 32) := by omega
      have hE : h.take k = h := List.take_of_length_le (by rw [H32.out]; omega)
      rw [hE] at hO
      have HO2 := hid (hO.out.outer (by have := HS.out; omega) HB.out)
      go_wp2
      go_ret
      exact ⟨_, rfl, HO2.out⟩
set_option maxHeartbeats 1000000 in
set_option maxRecDepth 100000 in
theorem fBytes_any (h : List UInt8) (h32 : h.length = 32) (w : World) : Calls Tryd.prog 17 #[.agg (h.map B).toArray] w fun e w' => ∃ v', e = .returned v' ∧ Buf w.heap.size w w' v' h := by
  have HB := hid ((Below.refl w.heap.size w).alloc (Nat.le_refl _) (.cells (h.map B).toArray 26))
  have HH : Hid ((w.alloc (.cells (h.map B).toArray 26)).heap[w.heap.size]? = some (.cells (h.map B).toArray 26 (0, 0))) := block_new w _
  have Hs : Hid ((h.map B).toArray.size = 32) := by simp [Hid, h32]
  have HF := hid (fbytesOf_any h h32 (w.alloc (.cells (h.map B).toArray 26)))
  clear h32
  go_enter Tryd.func17, Tryd.ntmps17
  go_wp2_with (refine wpList_load_block rfl 26 (.tmp 1) rfl w.heap.size rfl (h.map B).toArray 26 (0, 0) HH.out _ Tryd.underlying26 rfl (infoH.trans (congrArg some Hs.out.symm)) ?_)
  refine HF.out.mono ?_
  rintro e w2 ⟨v2, rfl, hb2⟩
  have H2 := hid (hb2.outer HB.out.size HB.out)
  clear hb2
  go_wp2
  go_ret
  exact ⟨_, rfl, H2.out⟩
theorem Buf.below {K : Nat} {w0 w w' : World} {v : Value} {bs : List UInt8} (h : Buf K w0 w v bs) (hB : Below w.heap.size w w') : Buf K w0 w' v bs := by
  refine ⟨⟨h.1.1, ?_⟩, h.2.1.trans (hB.mono h.2.2), Nat.le_trans h.2.2 hB.size⟩
  rcases h.1.2 with h | ⟨g, cap, cur, fz, e, hg, hh, r⟩
  · exact .inl h
  · exact .inr ⟨g, cap, cur, fz, e, hg, (hB.block g (lt_of_heap hh)).trans hh, r⟩
theorem Buf.form {K : Nat} {w0 w : World} {v : Value} {bs : List UInt8} (h : Buf K w0 w v bs) (h0 : 0 < bs.length) : ∃ g cap, v = .slice (some ⟨g, 0, none⟩) bs.length cap ∧ ∀ j u, (bs.map B)[j]? = some u → w.cell? ((⟨g, 0, none⟩ : Addr).add j) = some u := by
  rcases h.1.2 with ⟨_, h⟩ | ⟨g, cap, cur, fz, e, hg, hh, r⟩
  · omega
  · refine ⟨g, cap, e, h.1.cells (by rw [e]; rfl)⟩
theorem buf_new (w : World) (bs : List UInt8) (C : Array Value) (hC : C = (bs.map B).toArray) (hn : bs.length ≤ 1000) : Buf w.heap.size w (w.alloc (.cells C 5)) (.slice (some ⟨w.heap.size, 0, none⟩) bs.length bs.length) bs := by
  subst hC
  refine ⟨⟨by simp, .inr ⟨w.heap.size, bs.length, _, (0, 0), rfl, Nat.le_refl _, block_new w _, by simp, Nat.le_refl _, by unfold maxLen; omega, by simp, by simp [List.take_of_length_le]⟩⟩, (Below.refl _ _).alloc (Nat.le_refl _) _, by simp⟩
set_option maxHeartbeats 2000000 in
set_option maxRecDepth 100000 in
theorem fencode_any (m : MS) (la : Option Addr) (lc : Nat) (w : World) (hl : layersAt w la m.ls) (hn : m.ls.length ≤ 9223372036854775807) (ho : (m.os.length : Int) ≤ 9223372036854775807) (ha : (m.arch.length : Int) ≤ 9223372036854775807) :
    Calls Tryd.prog 5 #[.agg #[str m.os, str m.arch, .slice la m.ls.length lc]] w fun e w' => (∃ v', e = .returned (.tuple #[v', .int .i64 m.err]) ∧ ((m.err = 0 ∧ Buf w.heap.size w w' v' (enc m)) ∨ (m.err ≠ 0 ∧ v' = .slice none 0 0))) ∧ Below w.heap.size w w' := by
  have HB := hid ((Below.refl w.heap.size w).alloc (Nat.le_refl _) (.cells #[str m.os, str m.arch, .slice la m.ls.length lc] 24))
  have HL := hid hl
  have HRt := hid (fRight_any m.os m.arch la m.ls.length lc ho ha hn (w.alloc (.cells #[str m.os, str m.arch, .slice la m.ls.length lc] 24)))
  clear hl hn ho ha
  by_cases h0 : m.err = 0
  · obtain ⟨h1, h2, h3⟩ := err_zero h0
    have l1 := word_len h1
    have l2 := word_len h2
    have ho : m.os.length ≤ 24 := l1.2
    have ha : m.arch.length ≤ 24 := l2.2
    have HE := hid h0
    have hszo := size_str m.os
    have hsza := size_str m.arch
    clear h0 h1 h2 l1 l2
    go_enter Tryd.func5, Tryd.ntmps5
    go_wp2_with fail
    refine HRt.out.mono ?_
    rintro e w1 ⟨rfl, hB⟩
    rw [← err_right, HE.out]
    have c0 : w1.cell? ⟨w.heap.size, 0, none⟩ = some (str m.os) := box_cell hB 0
    have c1 : w1.cell? ⟨w.heap.size, 1, none⟩ = some (str m.arch) := box_cell hB 1
    have c2 : w1.cell? ⟨w.heap.size, 2, none⟩ = some (.slice la m.ls.length lc) := box_cell hB 2
    have hlt := lt_of_cell c2
    have HB1 := hid (HB.out.trans (hB.mono HB.out.size))
    have HLw := hid (HL.out.below HB1.out)
    clear hB HL HRt
    have hU1 : ((m.os.length : Nat) : Int) = V (UInt8.ofNat m.os.length) := by unfold V; rw [UInt8.toNat_ofNat']; omega
    have hU2 : ((m.arch.length : Nat) : Int) = V (UInt8.ofNat m.arch.length) := by unfold V; rw [UInt8.toNat_ofNat']; omega
    have hU3 : ((m.ls.length : Nat) : Int) = V (UInt8.ofNat m.ls.length) := by unfold V; rw [UInt8.toNat_ofNat']; omega
    have HU1 := hid hU1
    have HU2 := hid hU2
    have HU3 := hid hU3
    clear hU1 hU2 hU3
    have HN := hid (buf_new w1 [68, 77, 1, UInt8.ofNat m.os.length] #[.int .u8 68, .int .u8 77, .int .u8 1, .int .u8 (m.os.length : Nat)] (by rw [HU1.out]; rfl) (by simp))
    have d0 : (w1.alloc (.cells #[.int .u8 68, .int .u8 77, .int .u8 1, .int .u8 (m.os.length : Nat)] 5)).cell? ⟨w.heap.size, 0, none⟩ = some (str m.os) := (World.cell?_of_block (w := w1) (Below.heap_alloc _ _ _ hlt)).trans c0
    obtain ⟨i0, hi, hz0, hz1, hz2⟩ := info_parts infoU
    have HI := hid hi
    clear hi
    go_wp2_with (first
      | (refine Lib.wpList_append_text rfl (.tmp 17) (.tmp 19) 27 9 rfl w1.heap.size 5 i0 Tryd.underlying27 Tryd.underlying9 HI.out hz0 hz1 hz2 (.slice (some ⟨w1.heap.size, 0, none⟩) 4 4) 4 _ rfl w1 HN.out ⟨m.os.toArray⟩ rfl (by rw [hszo]; omega) ?_; intro v2 w2 hb2; have H2 := hid hb2; clear hb2; have e1 : w2.cell? ⟨w.heap.size, 1, none⟩ = some (str m.arch) := (World.cell?_of_block (w := w1) (H2.out.2.1.block _ hlt)).trans c1)
      | (refine Lib.wpList_append_byte rfl (.tmp 21) (.tmp 26) 27 rfl w1.heap.size 5 i0 Tryd.underlying27 HI.out hz0 hz1 hz2 v2 _ _ rfl w1 w2 (m.arch.length : Int) H2.out rfl (by rw [hszo]; omega) ?_; intro v3 w3 hb3; have H3 := hid hb3; clear hb3; have e2 : w3.cell? ⟨w.heap.size, 1, none⟩ = some (str m.arch) := (World.cell?_of_block (w := w1) (H3.out.2.1.block _ hlt)).trans c1)
      | (refine Lib.wpList_append_text rfl (.tmp 28) (.tmp 30) 27 9 rfl w1.heap.size 5 i0 Tryd.underlying27 Tryd.underlying9 HI.out hz0 hz1 hz2 v3 _ _ rfl w1 H3.out ⟨m.arch.toArray⟩ rfl (by rw [hszo, hsza]; omega) ?_; intro v4 w4 hb4; have H4 := hid hb4; clear hb4; have e4 : w4.cell? ⟨w.heap.size, 2, none⟩ = some (.slice la m.ls.length lc) := (World.cell?_of_block (w := w1) (H4.out.2.1.block _ hlt)).trans c2)
      | (refine Lib.wpList_append_byte rfl (.tmp 32) (.tmp 37) 27 rfl w1.heap.size 5 i0 Tryd.underlying27 HI.out hz0 hz1 hz2 v4 _ _ rfl w1 w4 (m.ls.length : Int) H4.out rfl (by rw [hszo, hsza]; omega) ?_; intro v5 w5 hb5; have H5 := hid hb5; clear hb5))
    obtain ⟨hd, hhd⟩ : ∃ hd, hd = [68, 77, 1] ++ wordB m.os ++ wordB m.arch := ⟨_, rfl⟩
    have hdl : hd.length ≤ 100 := by rw [hhd]; simp [wordB]; omega
    have H6 : Hid (Buf w1.heap.size w1 w5 v5 (hd ++ UInt8.ofNat m.ls.length :: (m.ls.take 0).flatten)) := by
      have := H5.out
      rw [HU2.out, HU3.out, hszo, hsza, strCells_str, strCells_str] at this
      unfold Hid Buf
      rw [hhd]
      have eN : ([68, 77, 1] ++ wordB m.os ++ wordB m.arch ++ UInt8.ofNat m.ls.length :: (m.ls.take 0).flatten).length = 4 + m.os.length + 1 + m.arch.length + 1 := by simp [wordB]; omega
      have eX : ([68, 77, 1] ++ wordB m.os ++ wordB m.arch ++ UInt8.ofNat m.ls.length :: (m.ls.take 0).flatten).map B = List.map B [68, 77, 1, UInt8.ofNat m.os.length] ++ m.os.map B ++ [.int .u8 (V (UInt8.ofNat m.arch.length))] ++ m.arch.map B ++ [.int .u8 (V (UInt8.ofNat m.ls.length))] := by simp [wordB]
      rw [eN, eX]
      exact this
    have HHd := hid hhd
    clear hhd H2 H3 H4 H5 e1 e2 e4 d0 HN
    go_loopw [5, 6] (fun v i wr => ∃ k : Nat, k ≤ m.ls.length ∧ i = .int .i64 k ∧ Hid (Buf w1.heap.size w1 wr v (hd ++ UInt8.ofNat m.ls.length :: (m.ls.take k).flatten))) (fun _ i _ => m.ls.length - (intOf i).toNat)
    case atStart => exact ⟨0, by omega, rfl, H6⟩
    case round =>
      clear H6
      obtain ⟨k, hk, rfl, hO⟩ := hrel
      have g2 : wr.cell? ⟨w.heap.size, 2, none⟩ = some (.slice la m.ls.length lc) := (World.cell?_of_block (w := w1) (hO.out.2.1.block _ hlt)).trans c2
      by_cases hkl : k < m.ls.length
      · have hk0 : (0 : Int) ≤ (k : Int) := by omega
        have hk1 : (k : Int) < (m.ls.length : Int) := by omega
        have hk2 : (k : Int) < 24 := by omega
        obtain ⟨b, o, rfl, hb, hr⟩ := HLw.out.2 k hkl
        have hr2 : wr.rangeAt b (o + k * 32) (m.ls[k].map B) := fun j v hj => (World.cell?_of_block (w := w1) (hO.out.2.1.block b hb)).trans (hr j v hj)
        have h32 := HLw.out.1 m.ls[k] (List.getElem_mem hkl)
        have HR := hid hr2
        have HT : Hid ((m.ls.take (k + 1)).flatten = (m.ls.take k).flatten ++ m.ls[k]) := by unfold Hid; rw [List.take_succ_eq_append_getElem hkl, List.flatten_append]; simp only [List.flatten_cons, List.flatten_nil, List.append_nil]
        have HNl : Hid (((m.ls.take k).flatten).length ≤ 1000) := by
          have h1 := (chunks_flatten (m.ls.take k) (fun l hl => HLw.out.1 l (List.mem_of_mem_take hl))).1
          unfold Hid
          rw [h1, List.length_take]
          omega
        generalize m.ls[k] = l at *
        have H32 := hid h32
        have HBy := hid (fBytes_any l h32 wr)
        clear hr hr2 h32
        obtain ⟨X, hX⟩ : ∃ X, X = hd ++ UInt8.ofNat m.ls.length :: (m.ls.take k).flatten := ⟨_, rfl⟩
        have hXl : X.length ≤ 2000 := by have := HNl.out; rw [hX]; simp only [List.length_append, List.length_cons]; omega
        rw [← hX] at hO
        have HX := hid hX
        clear hX
        go_wp2_with (refine wpList_load_mid rfl 26 (.tmp 50) rfl b (o + k * 32) rfl (l.map B) _ HR.out Tryd.underlying26 rfl (infoH.trans (by rw [List.length_map, H32.out])) ?_)
        refine HBy.out.mono ?_
        clear HBy
        rintro e w6 ⟨v6, rfl, hb6⟩
        have HO6 := hid (hO.out.below hb6.2.1)
        obtain ⟨g6, cp6, rfl, hc6⟩ := hb6.form (by rw [H32.out]; omega)
        have HC6 := hid hc6
        clear hb6 hc6 hO
        go_wp2_with (refine wpList_append_ownF _ rfl (.tmp 46) (.tmp 52) 27 rfl w1.heap.size 5 i0 (.int .u8 0) 1 1 Tryd.underlying27 HI.out hz0 hz1 hz2 rfl (by decide) u5 X.length (X.map B) rfl HO6.out.1 ⟨g6, 0, none⟩ l.length cp6 (l.map B) rfl (by simp) HC6.out (B_one l) (by have := H32.out; unfold maxLen; omega) (by have := H32.out; omega) HO6.out.2.2 ?_; intro v7 w7 hown hgr _; have H7 := hid (Lib.OwnBuf.grown HO6.out hown hgr); clear hown hgr)
        refine ⟨⟨k + 1, by omega, by go_num, ?_⟩, by simp [intOf]; omega⟩
        have h7 := H7.out
        rw [HX.out] at h7
        unfold Hid Buf
        rw [HT.out]
        simpa [Nat.add_assoc, Nat.add_comm, Nat.add_left_comm] using h7
      · have hge : ¬ ((k : Int) < (m.ls.length : Int)) := by omega
        have hO2 : Buf w1.heap.size w1 wr u5 (enc m) := by
          have := hO.out
          rw [List.take_of_length_le (by omega), HHd.out] at this
          unfold enc
          simpa using this
        have HO2 := hid (hO2.outer HB1.out.size HB1.out)
        clear hO hO2
        go_wp2
        go_ret2
        exact ⟨⟨_, by rw [HE.out]; rfl, .inl ⟨HE.out, HO2.out⟩⟩, HO2.out.2.1⟩
  · generalize hE : m.err = er at *
    have HE := hid h0
    have HEr := hid hE
    clear hE
    go_enter Tryd.func5, Tryd.ntmps5
    go_wp2_with fail
    refine HRt.out.mono ?_
    rintro e w1 ⟨rfl, hB⟩
    rw [← err_right, HEr.out]
    have HB1 := hid (HB.out.trans (hB.mono HB.out.size))
    have hne : (er != 0) = true := bne_iff_ne.2 h0
    clear hB h0
    go_wp2
    go_ret2
    exact ⟨⟨_, rfl, .inr ⟨HE.out, rfl⟩⟩, HB1.out⟩
set_option maxHeartbeats 1000000 in
set_option maxRecDepth 100000 in
theorem fuses_any (os ar : List UInt8) (ls : List (List UInt8)) (la : Option Addr) (lc : Nat) (h : List UInt8) (h32 : h.length = 32) (w : World) (hl : layersAt w la ls) (hn : ls.length ≤ 9223372036854775807) :
    Calls Tryd.prog 13 #[.agg #[str os, str ar, .slice la ls.length lc], .agg (h.map B).toArray] w fun e w' => e = .returned (.int .i64 (ls.count h : Nat)) ∧ Below w.heap.size w w' := by
  obtain ⟨n1, n2, n3, n4⟩ := new2 w (.cells #[str os, str ar, .slice la ls.length lc] 24) (.cells (h.map B).toArray 26)
  have HA := hid n1
  have HH := hid n2
  have HB := hid n3
  have HL := hid (hl.below n3)
  have H32 := hid h32
  have HN := hid hn
  clear n1 n2 n3 n4 hl h32 hn
  go_enter Tryd.func13, Tryd.ntmps13
  go_wp2
  generalize (w.alloc (.cells #[str os, str ar, .slice la ls.length lc] 24)).alloc (.cells (h.map B).toArray 26) = w1 at *
  go_loopw [5, 6] (fun c i wr => ∃ k : Nat, k ≤ ls.length ∧ i = .int .i64 k ∧ c = .int .i64 ((ls.take k).count h : Nat) ∧ Hid (Below w1.heap.size w1 wr)) (fun _ i _ => ls.length - (intOf i).toNat)
  case atStart => exact ⟨0, by omega, rfl, by simp, Below.refl _ _⟩
  case round =>
    obtain ⟨k, hk, rfl, rfl, hB⟩ := hrel
    have c2 : wr.cell? ⟨w.heap.size, 2, none⟩ = some (.slice la ls.length lc) := cell_of_block ((hB.out.block _ (lt_of_heap HA.out)).trans HA.out) 2
    by_cases hlt : k < ls.length
    · have hk0 : (0 : Int) ≤ (k : Int) := by omega
      have hk1 : (k : Int) < (ls.length : Int) := by omega
      obtain ⟨b, o, rfl, _, hr⟩ := (HL.out.below hB.out).2 k hlt
      have e32 := HL.out.1 ls[k] (List.getElem_mem hlt)
      have HC := hid (count_take_next (h := h) hlt)
      have hcl : (ls.take k).count h ≤ k := Nat.le_trans List.count_le_length (by rw [List.length_take]; omega)
      have hinc : IntKind.i64.wrap ((k : Int) + 1) = (k : Int) + 1 := IntWalk.i64_in _ (by have := HN.out; omega)
      generalize (ls.take k).count h = cn at *
      have hinc2 : IntKind.i64.wrap ((cn : Int) + 1) = (cn : Int) + 1 := IntWalk.i64_in _ (by have := HN.out; omega)
      generalize ls[k] = x at *
      have HR := hid hr
      have E32 := hid e32
      have heq := fun W => run_eq32 x h e32 H32.out W
      have hHr : wr.rangeAt (w.heap.size + 1) 0 (h.map B) := by
        have := range_of_block ((hB.out.block _ (lt_of_heap HH.out)).trans HH.out)
        simpa using this
      clear hr e32
      by_cases hxy : x = h
      · rw [decide_eq_true hxy] at heq
        rw [if_pos hxy] at HC
        clear hxy
        go_wp2
        refine wp_region_noPanic ?_
        refine wp_region_held_drew (S := fun W => W.cell? ⟨w.heap.size, 2, none⟩ = some (.slice (some ⟨b, o, none⟩) ls.length lc) ∧ W.rangeAt b (o + k * 32) (x.map B) ∧ W.rangeAt (w.heap.size + 1) 0 (h.map B)) (by kernel_rfl) ⟨c2, HR.out, hHr⟩ (fun hHeld => ?_)
        refine wpAnyH_take (i := 0) (v := ?_) rfl (by kernel_rfl) (by kernel_rfl) (by kernel_rfl) (fun _ _ _ h => h) (Or.inl ⟨by rfl, ?_⟩) (by assumption) ?_
        rotate_left
        · (intro W hSw; (try dsimp only at hSw); obtain ⟨s1, s2, s3⟩ := hSw; go_simp; try with_reducible rfl)
        try simp only [List.getElem_toArray, List.getElem_cons_zero, Act.put, List.setIfInBounds_toArray, List.set_cons_zero, List.set_cons_succ]
        refine wpAnyH_take (i := 1) (v := ?_) rfl (by kernel_rfl) (by kernel_rfl) (by kernel_rfl) (fun _ _ _ h => h) (Or.inl ⟨by rfl, ?_⟩) (by assumption) ?_
        rotate_left
        · (intro W hSw; (try dsimp only at hSw); obtain ⟨s1, s2, s3⟩ := hSw; go_simp; try with_reducible rfl)
        try simp only [List.getElem_toArray, List.getElem_cons_succ, List.getElem_cons_zero, Act.put, List.setIfInBounds_toArray, List.set_cons_zero, List.set_cons_succ]
        refine wpAnyH_take (i := 2) (v := ?_) rfl (by kernel_rfl) (by kernel_rfl) (by kernel_rfl) (fun _ _ _ h => h) (Or.inl ⟨by rfl, ?_⟩) (by assumption) ?_
        rotate_left
        · (intro W hSw; (try dsimp only at hSw); obtain ⟨s1, s2, s3⟩ := hSw; go_simp; try with_reducible rfl)
        try simp only [List.getElem_toArray, List.getElem_cons_succ, List.getElem_cons_zero, Act.put, List.setIfInBounds_toArray, List.set_cons_zero, List.set_cons_succ]
        refine wpAnyH_take (i := 3) (v := ?_) rfl (by kernel_rfl) (by kernel_rfl) (by kernel_rfl) (fun _ _ _ h => h) (Or.inl ⟨by rfl, ?_⟩) (by assumption) ?_
        rotate_left
        · (intro W hSw; (try dsimp only at hSw); obtain ⟨s1, s2, s3⟩ := hSw; go_simp; try with_reducible rfl)
        try simp only [List.getElem_toArray, List.getElem_cons_succ, List.getElem_cons_zero, Act.put, List.setIfInBounds_toArray, List.set_cons_zero, List.set_cons_succ]
        refine wpAnyH_take (i := 4) (v := .agg (x.map B).toArray) rfl (by kernel_rfl) (by kernel_rfl) (by kernel_rfl) (fun _ _ _ h => h) (yieldsIf_load_mid (by rfl) 26 (.tmp 17) rfl b (o + k * 32) rfl (x.map B) _ (fun _ h => h.2.1) Tryd.underlying26 rfl (infoH.trans (by rw [List.length_map, E32.out]))) (by assumption) ?_
        try simp only [List.getElem_toArray, List.getElem_cons_succ, List.getElem_cons_zero, Act.put, List.setIfInBounds_toArray, List.set_cons_zero, List.set_cons_succ]
        refine wpAnyH_take (i := 5) (v := .agg (h.map B).toArray) rfl (by kernel_rfl) (by kernel_rfl) (by kernel_rfl) (fun _ _ _ h => h) (yieldsIf_load_mid (by rfl) 26 (.tmp 3) rfl (w.heap.size + 1) 0 rfl (h.map B) _ (fun _ h => h.2.2) Tryd.underlying26 rfl (infoH.trans (by rw [List.length_map, H32.out]))) (by assumption) ?_
        try simp only [List.getElem_toArray, List.getElem_cons_succ, List.getElem_cons_zero, Act.put, List.setIfInBounds_toArray, List.set_cons_zero, List.set_cons_succ]
        refine wpAnyH_take (i := 6) (v := .bool true) rfl (by kernel_rfl) (by kernel_rfl) (by kernel_rfl) (fun _ _ _ h => h) (Or.inl ⟨by rfl, ?_⟩) (by assumption) ?_
        · (intro W hSw; (try dsimp only at hSw); obtain ⟨s1, s2, s3⟩ := hSw; go_simp; try first | with_reducible rfl | go_num | (rw [if_pos (by assumption)]; simp only [*]) | simp only [*])
        try simp only [List.getElem_toArray, List.getElem_cons_succ, List.getElem_cons_zero, Act.put, List.setIfInBounds_toArray, List.set_cons_zero, List.set_cons_succ]
        refine wpAnyH_done (by kernel_rfl) ?_ _
        refine NoPanic.normal ?_
        clear hHeld
        go_wp2
        exact ⟨⟨k + 1, by omega, by go_num, by rw [HC.out]; push_cast; rfl, hB.out.drew⟩, by simp [intOf]; omega⟩
      · rw [decide_eq_false hxy] at heq
        rw [if_neg hxy] at HC
        clear hxy
        go_wp2
        refine wp_region_noPanic ?_
        refine wp_region_held_drew (S := fun W => W.cell? ⟨w.heap.size, 2, none⟩ = some (.slice (some ⟨b, o, none⟩) ls.length lc) ∧ W.rangeAt b (o + k * 32) (x.map B) ∧ W.rangeAt (w.heap.size + 1) 0 (h.map B)) (by kernel_rfl) ⟨c2, HR.out, hHr⟩ (fun hHeld => ?_)
        refine wpAnyH_take (i := 0) (v := ?_) rfl (by kernel_rfl) (by kernel_rfl) (by kernel_rfl) (fun _ _ _ h => h) (Or.inl ⟨by rfl, ?_⟩) (by assumption) ?_
        rotate_left
        · (intro W hSw; (try dsimp only at hSw); obtain ⟨s1, s2, s3⟩ := hSw; go_simp; try with_reducible rfl)
        try simp only [List.getElem_toArray, List.getElem_cons_zero, Act.put, List.setIfInBounds_toArray, List.set_cons_zero, List.set_cons_succ]
        refine wpAnyH_take (i := 1) (v := ?_) rfl (by kernel_rfl) (by kernel_rfl) (by kernel_rfl) (fun _ _ _ h => h) (Or.inl ⟨by rfl, ?_⟩) (by assumption) ?_
        rotate_left
        · (intro W hSw; (try dsimp only at hSw); obtain ⟨s1, s2, s3⟩ := hSw; go_simp; try with_reducible rfl)
        try simp only [List.getElem_toArray, List.getElem_cons_succ, List.getElem_cons_zero, Act.put, List.setIfInBounds_toArray, List.set_cons_zero, List.set_cons_succ]
        refine wpAnyH_take (i := 2) (v := ?_) rfl (by kernel_rfl) (by kernel_rfl) (by kernel_rfl) (fun _ _ _ h => h) (Or.inl ⟨by rfl, ?_⟩) (by assumption) ?_
        rotate_left
        · (intro W hSw; (try dsimp only at hSw); obtain ⟨s1, s2, s3⟩ := hSw; go_simp; try with_reducible rfl)
        try simp only [List.getElem_toArray, List.getElem_cons_succ, List.getElem_cons_zero, Act.put, List.setIfInBounds_toArray, List.set_cons_zero, List.set_cons_succ]
        refine wpAnyH_take (i := 3) (v := ?_) rfl (by kernel_rfl) (by kernel_rfl) (by kernel_rfl) (fun _ _ _ h => h) (Or.inl ⟨by rfl, ?_⟩) (by assumption) ?_
        rotate_left
        · (intro W hSw; (try dsimp only at hSw); obtain ⟨s1, s2, s3⟩ := hSw; go_simp; try with_reducible rfl)
        try simp only [List.getElem_toArray, List.getElem_cons_succ, List.getElem_cons_zero, Act.put, List.setIfInBounds_toArray, List.set_cons_zero, List.set_cons_succ]
        refine wpAnyH_take (i := 4) (v := .agg (x.map B).toArray) rfl (by kernel_rfl) (by kernel_rfl) (by kernel_rfl) (fun _ _ _ h => h) (yieldsIf_load_mid (by rfl) 26 (.tmp 17) rfl b (o + k * 32) rfl (x.map B) _ (fun _ h => h.2.1) Tryd.underlying26 rfl (infoH.trans (by rw [List.length_map, E32.out]))) (by assumption) ?_
        try simp only [List.getElem_toArray, List.getElem_cons_succ, List.getElem_cons_zero, Act.put, List.setIfInBounds_toArray, List.set_cons_zero, List.set_cons_succ]
        refine wpAnyH_take (i := 5) (v := .agg (h.map B).toArray) rfl (by kernel_rfl) (by kernel_rfl) (by kernel_rfl) (fun _ _ _ h => h) (yieldsIf_load_mid (by rfl) 26 (.tmp 3) rfl (w.heap.size + 1) 0 rfl (h.map B) _ (fun _ h => h.2.2) Tryd.underlying26 rfl (infoH.trans (by rw [List.length_map, H32.out]))) (by assumption) ?_
        try simp only [List.getElem_toArray, List.getElem_cons_succ, List.getElem_cons_zero, Act.put, List.setIfInBounds_toArray, List.set_cons_zero, List.set_cons_succ]
        refine wpAnyH_take (i := 6) (v := .bool false) rfl (by kernel_rfl) (by kernel_rfl) (by kernel_rfl) (fun _ _ _ h => h) (Or.inl ⟨by rfl, ?_⟩) (by assumption) ?_
        · (intro W hSw; (try dsimp only at hSw); obtain ⟨s1, s2, s3⟩ := hSw; go_simp; try first | with_reducible rfl | go_num | (rw [if_pos (by assumption)]; simp only [*]) | simp only [*])
        try simp only [List.getElem_toArray, List.getElem_cons_succ, List.getElem_cons_zero, Act.put, List.setIfInBounds_toArray, List.set_cons_zero, List.set_cons_succ]
        refine wpAnyH_done (by kernel_rfl) ?_ _
        refine NoPanic.normal ?_
        clear hHeld
        go_wp2
        exact ⟨⟨k + 1, by omega, by go_num, by rw [HC.out]; rfl, hB.out.drew⟩, by simp [intOf]; omega⟩
    · have hge : ¬ ((k : Int) < (ls.length : Int)) := by omega
      have HE : Hid ((ls.take k).count h = ls.count h) := by unfold Hid; rw [List.take_of_length_le (by omega)]
      have HB2 := hid (HB.out.trans (hB.out.mono HB.out.size))
      generalize (ls.take k).count h = cn at *
      go_wp2
      go_ret
      exact ⟨by rw [← HE.out]; rfl, HB2.out⟩
end Go.Proofs.YtkmmeokccmppbaaDoor
