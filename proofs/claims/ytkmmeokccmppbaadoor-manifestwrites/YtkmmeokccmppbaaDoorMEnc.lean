/- Encode of the manifest's package: the manifest's bytes, or the error. -/
import Derived.Test.YtkmmeokccmppbaaDoorMApp
import Derived.Lib.SlBytesConst
namespace Go.Proofs.YtkmmeokccmppbaaDoor
open Go.RowKit
/-- Layers in memory, 32 bytes each. -/
def layersAt (w : World) (la : Option Addr) (ls : List (List UInt8)) : Prop := (∀ l ∈ ls, l.length = 32) ∧ ∀ i (hi : i < ls.length), ∃ b o, la = some ⟨b, o, none⟩ ∧ b < w.heap.size ∧ w.rangeAt b (o + i * 32) (ls[i].map B)
theorem layersAt.below {w w' : World} {la : Option Addr} {ls : List (List UInt8)} (h : layersAt w la ls) (hB : Below w.heap.size w w') : layersAt w' la ls :=
  ⟨h.1, fun i hi => by
    obtain ⟨b, o, e, hb, hr⟩ := h.2 i hi
    exact ⟨b, o, e, Nat.lt_of_lt_of_le hb hB.size, fun j v hj => (World.cell?_of_block (w := w) (hB.block b hb)).trans (hr j v hj)⟩⟩
theorem Buf.boxed {K : Nat} {w1 wr w6 : World} {v : Value} {bs : List UInt8} {o : Obj} (h : Buf K w1 wr v bs) (hg : (wr.alloc o).grownBy w6 (some wr.heap.size)) : Buf K w1 w6 v bs := by
  have h2 := Lib.OwnBuf.alloc h o
  refine ⟨h2.1.kept hg ?_, h2.2.1.grown hg h2.2.2 (fun k hk => by cases hk; exact h.2.2), Nat.le_trans h2.2.2 hg.size⟩
  cases hv : v.ownBlock with
  | none => exact .inl rfl
  | some g =>
    refine .inr fun e => ?_
    have := (h.1.lt g hv).2
    simp at e
    omega
theorem infoH : (Tryd.prog.info? 26).map (·.size) = some 32 := by kernel_rfl
set_option maxHeartbeats 1000000 in
set_option maxRecDepth 100000 in
theorem encode_any (m : MS) (la : Option Addr) (lc : Nat) (w : World) (hl : layersAt w la m.ls) (hn : m.ls.length ≤ 9223372036854775807) :
    Calls Tryd.prog 4 #[.agg #[str m.os, str m.arch, .slice la m.ls.length lc]] w fun e w' => (∃ v', e = .returned (.tuple #[v', .int .i64 m.err]) ∧ ((m.err = 0 ∧ Buf w.heap.size w w' v' (enc m)) ∨ (m.err ≠ 0 ∧ v' = .slice none 0 0))) ∧ Below w.heap.size w w' := by
  have HB := hid ((Below.refl w.heap.size w).alloc (Nat.le_refl _) (.cells #[str m.os, str m.arch, .slice la m.ls.length lc] 24))
  have HL := hid hl
  have kc := fun (w : World) (C : Array Value) (n c : Nat) => Lib.run_convert_bytes_const (P := Tryd.prog) w 27 5 C n c Tryd.underlying27 Tryd.underlying5
  clear hl
  by_cases h0 : m.err = 0
  · obtain ⟨h1, h2, h3⟩ := err_zero h0
    have l1 := word_len h1
    have l2 := word_len h2
    clear h1 h2
    have HE := hid h0
    clear h0
    go_enter Tryd.func4, Tryd.ntmps4
    go_wp2_with fail
    refine (right_any m.os m.arch la m.ls.length lc hn _).mono ?_
    rintro e w1 ⟨rfl, hB⟩
    rw [← err_right, HE.out]
    have c0 : w1.cell? ⟨w.heap.size, 0, none⟩ = some (str m.os) := box_cell hB 0
    have c1 : w1.cell? ⟨w.heap.size, 1, none⟩ = some (str m.arch) := box_cell hB 1
    have c2 : w1.cell? ⟨w.heap.size, 2, none⟩ = some (.slice la m.ls.length lc) := box_cell hB 2
    have hlt := lt_of_cell c2
    have HB1 := hid (HB.out.trans (hB.mono HB.out.size))
    clear hB
    have hB1 : Below w1.heap.size w1 (w1.alloc (.cells #[B 68, B 77, B 1] 5 (3, 4))) := (Below.refl _ _).alloc (Nat.le_refl _) _
    have HA1 := hid hB1
    have HC1 : Hid (∀ j u, (([68, 77, 1] : List UInt8).map B)[j]? = some u → (w1.alloc (.cells #[B 68, B 77, B 1] 5 (3, 4))).cell? ((⟨w1.heap.size, 0, none⟩ : Addr).add j) = some u) := World.news_of_block (cs := #[B 68, B 77, B 1]) (block_new w1 _)
    have HS1 : Hid (w1.heap.size < (w1.alloc (.cells #[B 68, B 77, B 1] 5 (3, 4))).heap.size) := by simp [Hid]
    clear hB1
    go_wp2_with fail
    refine (appendWord_full w1.heap.size _ [68, 77, 1] m.os HC1.out HS1.out (by simp) (by omega)).mono ?_
    rintro e w2 ⟨v2, rfl, hb⟩
    have H2 := hid (hb.outer HA1.out.size HA1.out)
    clear hb HA1 HC1 HS1
    have d1 : w2.cell? ⟨w.heap.size, 1, none⟩ = some (str m.arch) := (World.cell?_of_block (w := w1) (H2.out.2.1.block _ hlt)).trans c1
    have d2 : w2.cell? ⟨w.heap.size, 2, none⟩ = some (.slice la m.ls.length lc) := (World.cell?_of_block (w := w1) (H2.out.2.1.block _ hlt)).trans c2
    clear c0 c1
    go_wp2_with fail
    refine (appendWord_buf w1.heap.size w1 w2 v2 _ m.arch H2.out (by simp [wordB]; omega) (by omega)).mono ?_
    rintro e w3 ⟨v3, rfl, hb⟩
    have H3 := hid hb
    clear hb H2
    have e2 : w3.cell? ⟨w.heap.size, 2, none⟩ = some (.slice la m.ls.length lc) := (World.cell?_of_block (w := w1) (H3.out.2.1.block _ hlt)).trans c2
    clear d1 d2
    obtain ⟨hd, hhd⟩ : ∃ hd, hd = [68, 77, 1] ++ wordB m.os ++ wordB m.arch := ⟨_, rfl⟩
    have hdl : hd.length ≤ 100 := by rw [hhd]; simp [wordB]; omega
    rw [← hhd] at H3
    have HHd := hid hhd
    clear hhd
    obtain ⟨i0, hi, hz0, hz1, hz2⟩ := info_parts infoU
    have HI := hid hi
    clear hi
    have HU : Hid ((m.ls.length : Int) = V (UInt8.ofNat m.ls.length)) := by unfold Hid V; rw [UInt8.toNat_ofNat']; omega
    go_wp2_with (refine Lib.wpList_append_byte rfl (.tmp 22) (.tmp 27) 27 rfl w1.heap.size 5 i0 Tryd.underlying27 HI.out hz0 hz1 hz2 v3 hd.length (hd.map B) rfl w1 w3 (m.ls.length : Int) H3.out rfl (by omega) ?_; intro v4 w4 hb4; have H4 := hid hb4; clear hb4; have e4 : w4.cell? ⟨w.heap.size, 2, none⟩ = some (.slice la m.ls.length lc) := (World.cell?_of_block (w := w1) (H4.out.2.1.block _ hlt)).trans c2)
    clear e2 e4 H3
    have H5 : Hid (Buf w1.heap.size w1 w4 v4 (hd ++ UInt8.ofNat m.ls.length :: (m.ls.take 0).flatten)) := by
      have := H4.out
      rw [HU.out] at this
      unfold Hid Buf
      simpa using this
    clear H4
    go_loopw [5, 32] (fun v i wr => ∃ k : Nat, k ≤ m.ls.length ∧ i = .int .i64 k ∧ Hid (Buf w1.heap.size w1 wr v (hd ++ UInt8.ofNat m.ls.length :: (m.ls.take k).flatten))) (fun _ i _ => m.ls.length - (intOf i).toNat)
    case atStart => exact ⟨0, by omega, rfl, H5⟩
    case round =>
      clear H5 c2
      obtain ⟨k, hk, rfl, hO⟩ := hrel
      by_cases hlt : k < m.ls.length
      · have hk0 : (0 : Int) ≤ (k : Int) := by omega
        have hk1 : (k : Int) < (m.ls.length : Int) := by omega
        have hk2 : (k : Int) < 24 := by omega
        obtain ⟨b, o, rfl, hb, hr⟩ := (HL.out.below HB1.out).2 k hlt
        have hr2 : wr.rangeAt b (o + k * 32) (m.ls[k].map B) := fun j v hj => (World.cell?_of_block (w := w1) (hO.out.2.1.block b hb)).trans (hr j v hj)
        have h32 := HL.out.1 m.ls[k] (List.getElem_mem hlt)
        have HR := hid hr2
        have HT : Hid ((m.ls.take (k + 1)).flatten = (m.ls.take k).flatten ++ m.ls[k]) := by unfold Hid; rw [List.take_succ_eq_append_getElem hlt, List.flatten_append]; simp only [List.flatten_cons, List.flatten_nil, List.append_nil]
        have HN : Hid (((m.ls.take k).flatten).length ≤ 1000) := by
          have h1 := (chunks_flatten (m.ls.take k) (fun l hl => HL.out.1 l (List.mem_of_mem_take hl))).1
          unfold Hid
          rw [h1, List.length_take]
          omega
        generalize m.ls[k] = l at *
        have H32 := hid h32
        have Hs : Hid ((l.map B).toArray.size = 32) := by simp [Hid, h32]
        have H1 := hid (all_oneCell_toArray (B_one l))
        clear hr hr2 h32
        obtain ⟨X, hX⟩ : ∃ X, X = hd ++ UInt8.ofNat m.ls.length :: (m.ls.take k).flatten := ⟨_, rfl⟩
        have hXl : X.length ≤ 2000 := by have := HN.out; rw [hX]; simp only [List.length_append, List.length_cons]; omega
        rw [← hX] at hO
        have HX := hid hX
        clear hX
        go_wp2_with (first
          | (refine wpList_load_mid rfl 26 (.tmp 34) rfl b (o + k * 32) rfl (l.map B) _ HR.out Tryd.underlying26 rfl (infoH.trans (by rw [List.length_map, H32.out])) ?_)
          | (refine wpList_store_block rfl 26 (.tmp 7) (.tmp 35) rfl (wr.heap.size) (l.map B).toArray rfl rfl _ 26 (block_new wr _) (Hs.out.trans (by rfl)) (infoH.trans (congrArg some Hs.out.symm)) H1.out ?_; intro w6 hg6 hb6 hz6; have H6 := hid (hO.out.boxed hg6); have HB6 := hid hb6; clear hg6 hb6)
          | (refine wpList_append_ownF _ rfl (.tmp 36) (.tmp 37) 27 rfl w1.heap.size 5 i0 (.int .u8 0) 1 1 Tryd.underlying27 HI.out hz0 hz1 hz2 rfl (by decide) u5 X.length (X.map B) rfl H6.out.1 ⟨wr.heap.size, 0, none⟩ 32 32 (l.map B) rfl (by simp [H32.out]) (World.news_of_block (cs := (l.map B).toArray) HB6.out) (B_one l) (by unfold maxLen; omega) (by omega) H6.out.2.2 ?_; intro v7 w7 hown hgr _; have H7 := hid (H6.out.grown hown hgr); clear hown hgr))
        refine ⟨⟨k + 1, by omega, by go_num, ?_⟩, by simp [intOf]; omega⟩
        have h7 := H7.out
        rw [HX.out] at h7
        unfold Hid Buf
        rw [HT.out]
        simpa [H32.out, Nat.add_assoc] using h7
      · have hge : ¬ ((k : Int) < (m.ls.length : Int)) := by omega
        have hO2 : Buf w1.heap.size w1 wr u5 (enc m) := by
          have := hO.out
          rw [List.take_of_length_le (by omega), HHd.out] at this
          unfold enc
          simpa using this
        have HO2 := hid (hO2.outer HB1.out.size HB1.out)
        clear hO hO2
        go_wp2
        go_ret2
        exact ⟨⟨_, by rw [HE.out]; rfl, .inl ⟨HE.out, HO2.out⟩⟩, HO2.out.2.1⟩
  · generalize hE : m.err = er at *
    have HE := hid h0
    have HEr := hid hE
    clear hE
    go_enter Tryd.func4, Tryd.ntmps4
    go_wp2_with fail
    refine (right_any m.os m.arch la m.ls.length lc hn _).mono ?_
    rintro e w1 ⟨rfl, hB⟩
    rw [← err_right, HEr.out]
    have HB1 := hid (HB.out.trans (hB.mono HB.out.size))
    have hne : (er != 0) = true := bne_iff_ne.2 h0
    clear hB h0
    go_wp2
    go_ret2
    exact ⟨⟨_, rfl, .inr ⟨HE.out, rfl⟩⟩, HB1.out⟩
end Go.Proofs.YtkmmeokccmppbaaDoor
