/- ManifestWrites: a manifest's bytes, or the error; whether it is right; its digest, for every manifest, digest and text: the walk. -/
import Derived.Test.YtkmmeokccmppbaaDoorWDig
import Derived.Test.YtkmmeokccmppbaaDoorRSum
import Derived.Test.YtkmmeokccmppbaaDoorSameB
import Derived.Test.YtkmmeokccmppbaaDoorMLive
namespace Go.Proofs.YtkmmeokccmppbaaDoor
open Go.RowKit
def encS (m : MS) : List UInt8 := if m.err = 0 then enc m else []
theorem encS_rd {m : MS} {K : Nat} {w0 w : World} {v : Value} (h : (m.err = 0 ∧ Buf K w0 w v (enc m)) ∨ (m.err ≠ 0 ∧ v = .slice none 0 0)) : Rd w v (encS m) := by
  unfold encS
  rcases h with ⟨h0, hb⟩ | ⟨h0, rfl⟩
  · rw [if_pos h0]; exact Rd.of_buf hb
  · rw [if_neg h0]; exact Rd.nil w
theorem encS_len {m : MS} (h32 : m.of32) : (encS m).length ≤ 1000 := by
  unfold encS
  split
  · next h => exact enc_len2 h h32
  · simp
/-- What holds in the test at the end. -/
def WrS (wz w : World) (m : MS) (la : Option Addr) (lc : Nat) (h D : List UInt8) (A Bq : Nat) (W : World) : Prop :=
  Below wz.heap.size wz W ∧ W.cell? ⟨w.heap.size, 0, none⟩ = some (str m.os) ∧ W.cell? ⟨w.heap.size, 1, none⟩ = some (str m.arch) ∧ W.cell? ⟨w.heap.size, 2, none⟩ = some (.slice la m.ls.length lc) ∧
  W.rangeAt (w.heap.size + 1) 0 (h.map B) ∧ W.rangeAt A 0 (D.map B) ∧ W.rangeAt Bq 0 (D.map B)
theorem range_block {w : World} {b : Nat} {l : List UInt8} {t : TypeId} {fr : Nat × Nat} (h : w.heap[b]? = some (.cells (l.map B).toArray t fr)) : w.rangeAt b 0 (l.map B) := by
  have := range_of_block h
  simpa using this
set_option maxHeartbeats 4000000 in
set_option maxRecDepth 100000 in
theorem writes_walk (m : MS) (la : Option Addr) (lc : Nat) (h s : List UInt8) (h32 : h.length = 32) (w : World) (hK : Kat w) (hS : Sat w) (hl : layersAt w la m.ls) (hn : m.ls.length ≤ 9223372036854775807)
    (ho : (m.os.length : Int) ≤ 9223372036854775807) (ha : (m.arch.length : Int) ≤ 9223372036854775807) (hs : (s.length : Int) ≤ 9223372036854775807) :
    Calls Tryd.prog 3 #[.agg #[str m.os, str m.arch, .slice la m.ls.length lc], .agg (h.map B).toArray, str s] w fun e w' => e = .returned (.bool true) ∧ Below w.heap.size w w' := by
  obtain ⟨n1, n2, n3, n4⟩ := new2 w (.cells #[str m.os, str m.arch, .slice la m.ls.length lc] 24) (.cells (h.map B).toArray 26)
  have HA1 := hid n1
  have HH1 := hid n2
  have HB1 := hid n3
  have HL1 := hid (hl.below n3)
  have HEn := hid (encode_any m la lc _ HL1.out hn)
  have hk2 := hK.lt
  have HKt := hid hK
  have HSt := hid hS
  have H32 := hid h32
  have HOo := hid ho
  have HOa := hid ha
  have HOs := hid hs
  have HEl := hid (encS_len hl.1)
  have HDl := hid (digS_len m)
  have HDe : Hid (m.err = 0 → sumS (encS m) = digS m) := fun h0 => by unfold encS digS; rw [if_pos h0, if_pos h0]
  have HDn : Hid (m.err ≠ 0 → digS m = zero32) := fun h0 => if_neg h0
  have HsD : Hid (((digS m).map B).toArray.size = 32) := by simp [Hid, digS_len]
  have HoD := hid (all_oneCell_toArray (B_one (digS m)))
  have HsZ : Hid ((zero32.map B).toArray.size = 32) := by simp [Hid, zero32_len]
  have HoZ := hid (all_oneCell_toArray (B_one zero32))
  have hee : ∀ z : Int, (z == z) = true := fun z => by simp
  have heq := fun W => run_eq32 (digS m) (digS m) (digS_len m) (digS_len m) W
  rw [show decide (digS m = digS m) = true from decide_eq_true rfl] at heq
  clear n1 n2 n3 n4 hl hK hS h32 ho ha hs
  go_enter Tryd.func3, Tryd.ntmps3
  go_wp2_with fail
  refine HEn.out.mono ?_
  clear HEn
  generalize (w.alloc (.cells #[str m.os, str m.arch, .slice la m.ls.length lc] 24)).alloc (.cells (h.map B).toArray 26) = w1 at *
  rintro e w2 ⟨⟨v1, rfl, hv1⟩, hB2⟩
  have HR1 := hid (encS_rd hv1)
  have HB2 := hid hB2
  have HFe := hid (fencode_any m la lc w2 (HL1.out.below hB2) hn HOo.out HOa.out)
  have eM2 := (hB2.block _ (lt_of_heap HA1.out)).trans HA1.out
  have a0 := cell_of_block eM2 0
  have a1 := cell_of_block eM2 1
  have a2 := cell_of_block eM2 2
  clear hv1 hB2 eM2
  go_wp2_with fail
  refine HFe.out.mono ?_
  clear HFe a0 a1 a2
  rintro e w3 ⟨⟨v2, rfl, hv2⟩, hB3⟩
  have HR2 := hid (encS_rd hv2)
  replace HR1 := hid (HR1.out.up hB3)
  have HB3 := hid (HB2.out.trans (hB3.mono HB2.out.size))
  have HBw3 := hid (HB1.out.trans (HB3.out.mono HB1.out.size))
  have HDg := hid (digest_any m la lc w3 (HKt.out.below HBw3.out hk2) (HSt.out.below HBw3.out (by omega)) (HL1.out.below HB3.out) hn)
  have eM3 := (HB3.out.block _ (lt_of_heap HA1.out)).trans HA1.out
  have a0 := cell_of_block eM3 0
  have a1 := cell_of_block eM3 1
  have a2 := cell_of_block eM3 2
  clear hv2 hB3 eM3
  go_wp2_with fail
  refine HDg.out.mono ?_
  clear HDg a0 a1 a2 HB2
  rintro e w4 ⟨rfl, hB4⟩
  replace HR1 := hid (HR1.out.up hB4)
  replace HR2 := hid (HR2.out.up hB4)
  have HB4 := hid (HB3.out.trans (hB4.mono HB3.out.size))
  have HBw4 := hid (HBw3.out.trans (hB4.mono HBw3.out.size))
  clear hB4 HB3 HBw3
  generalize hE : encS m = E at *
  generalize hD : digS m = D at *
  generalize hEr : m.err = er at *
  have HEr := hid hEr
  clear hE hD hEr
  have hsN := lt_of_heap HA1.out
  have hsH := lt_of_heap HH1.out
  have hs14 := HB4.out.size
  by_cases h0 : er = 0
  · have q0 : (er == 0) = true := by rw [h0]; rfl
    have HDe' := hid (HDe.out h0)
    clear HDe HDn
    go_wp2_with (first
      | (refine wpList_store_block rfl 26 (.tmp 11) (.tmp 27) rfl w4.heap.size (D.map B).toArray rfl rfl _ 26 (block_new w4 _) (HsD.out.trans (by rfl)) (infoH.trans (congrArg some HsD.out.symm)) HoD.out ?_; intro w5 hg5 hb5 hz5; have HA5 := hid hb5; have HG5 := hid hg5; have HZ5 := hid hz5; clear hg5 hb5 hz5)
      | (refine wpList_store_block rfl 26 (.tmp 13) (.tmp 29) rfl w5.heap.size (zero32.map B).toArray rfl rfl _ 26 (block_new w5 _) rfl (infoH.trans (congrArg some HsZ.out.symm)) HoZ.out ?_; intro w6 hg6 hb6 hz6; have HA6 := hid hb6; have HG6 := hid hg6; have HZ6 := hid hz6; clear hg6 hb6 hz6))
    have hB45 : Below w4.heap.size w4 w5 := ((Below.refl w4.heap.size w4).alloc (Nat.le_refl _) _).grown HG5.out (by simp) (fun k hk => by cases hk; exact Nat.le_refl _)
    have hs5 : w5.heap.size = w4.heap.size + 1 := by rw [HZ5.out]; simp
    have hB46 : Below w4.heap.size w4 w6 := (hB45.alloc hB45.size _).grown HG6.out (by have := hB45.size; simp; omega) (fun k hk => by cases hk; exact hB45.size)
    have hs6 : w6.heap.size = w5.heap.size + 1 := by rw [HZ6.out]; simp
    have eA6 : w6.heap[w4.heap.size]? = some (.cells (D.map B).toArray 26 (0, 0)) := (HG6.out.block _ (by simp; omega) (fun e => by simp at e; omega)).trans ((Below.heap_alloc _ _ _ (by omega)).trans HA5.out)
    have EA6 := hid eA6
    have HB46 := hid hB46
    have Hs5 := hid hs5
    have Hs6 := hid hs6
    clear hB45 hB46 eA6 HG5 HG6 HZ5 HZ6 HA5 hs5 hs6
    have HRs := hid (rsum_any E v2 w6 (HR2.out.up HB46.out).bytes (by have := HEl.out; omega))
    rw [HDe'.out] at HRs
    refine HRs.out.mono ?_
    clear HRs
    rintro e w7 ⟨rfl, hB7⟩
    have HQ7 := hid ((hB7.block _ (lt_of_heap HA6.out)).trans HA6.out)
    have EA7 := hid ((hB7.block _ (lt_of_heap EA6.out)).trans EA6.out)
    have HB47 := hid (HB46.out.trans (hB7.mono HB46.out.size))
    have hs7 := hB7.size
    have Hs7 := hid hs7
    clear hB7 hs7
    go_wp2_with (refine wpList_store_block rfl 26 (.tmp 13) (.tmp 33) rfl w5.heap.size (D.map B).toArray rfl rfl _ 26 HQ7.out (HsD.out.trans HsZ.out.symm) (infoH.trans (congrArg some HsD.out.symm)) HoD.out ?_; intro wz hg8 hb8 hz8; have EBz := hid hb8; have HG8 := hid hg8; have HZ8 := hid hz8; clear hg8 hb8 hz8)
    have HBz4 := hid (HB47.out.grown HG8.out HB47.out.size (fun k hk => by cases hk; have := Hs5.out; omega))
    have EAz := hid ((HG8.out.block _ (lt_of_heap EA7.out) (fun e => by simp at e; have := Hs5.out; omega)).trans EA7.out)
    have hsz := HZ8.out
    have HBz := hid (HBw4.out.trans (HBz4.out.mono HBw4.out.size))
    have HBz1 := hid (HB4.out.trans (HBz4.out.mono HB4.out.size))
    have HLz := hid (HL1.out.below HBz1.out)
    replace HR1 := hid (HR1.out.up HBz4.out)
    replace HR2 := hid (HR2.out.up HBz4.out)
    have hA : w4.heap.size < wz.heap.size := lt_of_heap EAz.out
    have hBq : w5.heap.size < wz.heap.size := lt_of_heap EBz.out
    have h1z : w1.heap.size ≤ wz.heap.size := HBz1.out.size
    clear Hs5 Hs6 Hs7 HBw4 HB46 HB47 HBz4
    generalize w4.heap.size = A at *
    generalize w5.heap.size = Bq at *
    have HSB : Hid (∀ W, Below wz.heap.size wz W → WrS wz w m la lc h D A Bq W) := fun W hW => by
      have e1 := (hW.block _ (by omega)).trans ((HBz1.out.block _ (lt_of_heap HA1.out)).trans HA1.out)
      have e2 := (hW.block _ (by omega)).trans ((HBz1.out.block _ (lt_of_heap HH1.out)).trans HH1.out)
      have e3 := (hW.block _ (by omega)).trans EAz.out
      have e4 := (hW.block _ (by omega)).trans EBz.out
      exact ⟨hW, cell_of_block e1 0, cell_of_block e1 1, cell_of_block e1 2, range_block e2, range_block e3, range_block e4⟩
    have HZs := hid hsz
    clear HG8 HZ8 EA6 EA7 HQ7 HA6 hsz
    go_wp2
    refine wp_region_noPanic ?_
    refine wp_region_held_drew (S := fun W => WrS wz w m la lc h D A Bq W) (by kernel_rfl) (HSB.out _ (Below.refl _ _).drew) (fun hHeld => ?_)
    have HB0 : Hid (Below wz.heap.size wz wz.drew) := (Below.refl _ _).drew
    refine wpAnyH_ready (rs := [0]) (by kernel_rfl) (by simp) (AllReadyH.cons rfl (fun K hK => ?_) AllReadyH.nil)
    rw [if_pos (by rfl)]
    go_simp
    refine (live_any _).mono ?_
    rintro e x1 ⟨rfl, hBx⟩
    have HB1 := hid (HB0.out.trans (hBx.mono HB0.out.size))
    clear hBx
    go_wp2_with fail
    refine hK.out _ _ (HSB.out _ HB1.out) (fun hHeld => ?_)
    clear hK K
    try simp only [List.getElem_toArray, List.getElem_cons_succ, List.getElem_cons_zero, Act.put, List.setIfInBounds_toArray, List.set_cons_zero, List.set_cons_succ]
    refine wpAnyH_take (i := 1) (v := ?_) rfl (by kernel_rfl) (by kernel_rfl) (by kernel_rfl) (fun _ _ _ h => h) (Or.inl ⟨by rfl, ?_⟩) (by assumption) ?_
    rotate_left
    · (intro W hSw; (try dsimp only at hSw); obtain ⟨s0, s1, s2, s3, s4, s5, s6⟩ := hSw; go_simp; try with_reducible rfl)
    try simp only [List.getElem_toArray, List.getElem_cons_succ, List.getElem_cons_zero, Act.put, List.setIfInBounds_toArray, List.set_cons_zero, List.set_cons_succ]
    refine wpAnyH_take (i := 2) (v := ?_) rfl (by kernel_rfl) (by kernel_rfl) (by kernel_rfl) (fun _ _ _ h => h) (Or.inl ⟨by rfl, ?_⟩) (by assumption) ?_
    rotate_left
    · (intro W hSw; (try dsimp only at hSw); obtain ⟨s0, s1, s2, s3, s4, s5, s6⟩ := hSw; go_simp; try with_reducible rfl)
    try simp only [List.getElem_toArray, List.getElem_cons_succ, List.getElem_cons_zero, Act.put, List.setIfInBounds_toArray, List.set_cons_zero, List.set_cons_succ]
    refine wpAnyH_take (i := 3) (v := ?_) rfl (by kernel_rfl) (by kernel_rfl) (by kernel_rfl) (fun _ _ _ h => h) (Or.inl ⟨by rfl, ?_⟩) (by assumption) ?_
    rotate_left
    · (intro W hSw; (try dsimp only at hSw); obtain ⟨s0, s1, s2, s3, s4, s5, s6⟩ := hSw; go_simp; try with_reducible rfl)
    try simp only [List.getElem_toArray, List.getElem_cons_succ, List.getElem_cons_zero, Act.put, List.setIfInBounds_toArray, List.set_cons_zero, List.set_cons_succ]
    refine wpAnyH_ready (rs := [4]) (by kernel_rfl) (by simp) (AllReadyH.cons rfl (fun K hK => ?_) AllReadyH.nil)
    rw [if_pos (by rfl)]
    go_simp
    refine (same_bytes E E v1 v2 x1 (HR1.out.up HB1.out).bytes (HR2.out.up HB1.out).bytes (by have := HEl.out; omega)).mono ?_
    rintro e x2 ⟨rfl, hBx⟩
    rw [show decide (E = E) = true from decide_eq_true rfl]
    have HB2 := hid (HB1.out.trans (hBx.mono HB1.out.size))
    clear hBx
    go_wp2_with fail
    refine hK.out _ _ (HSB.out _ HB2.out) (fun hHeld => ?_)
    clear hK K
    try simp only [List.getElem_toArray, List.getElem_cons_succ, List.getElem_cons_zero, Act.put, List.setIfInBounds_toArray, List.set_cons_zero, List.set_cons_succ]
    refine wpAnyH_take (i := 5) (v := .bool true) rfl (by kernel_rfl) (by kernel_rfl) (by kernel_rfl) (fun _ _ _ h => h) (Or.inl ⟨by rfl, ?_⟩) (by assumption) ?_
    · (intro W hSw; (try dsimp only at hSw); obtain ⟨s0, s1, s2, s3, s4, s5, s6⟩ := hSw; go_simp; try first | with_reducible rfl | go_num | (rw [if_pos (by assumption)]; simp only [*]) | simp only [*])
    try simp only [List.getElem_toArray, List.getElem_cons_succ, List.getElem_cons_zero, Act.put, List.setIfInBounds_toArray, List.set_cons_zero, List.set_cons_succ]
    refine wpAnyH_take (i := 6) (v := ?_) rfl (by kernel_rfl) (by kernel_rfl) (by kernel_rfl) (fun _ _ _ h => h) (Or.inl ⟨by rfl, ?_⟩) (by assumption) ?_
    rotate_left
    · (intro W hSw; (try dsimp only at hSw); obtain ⟨s0, s1, s2, s3, s4, s5, s6⟩ := hSw; go_simp; try with_reducible rfl)
    try simp only [List.getElem_toArray, List.getElem_cons_succ, List.getElem_cons_zero, Act.put, List.setIfInBounds_toArray, List.set_cons_zero, List.set_cons_succ]
    refine wpAnyH_take (i := 7) (v := ?_) rfl (by kernel_rfl) (by kernel_rfl) (by kernel_rfl) (fun _ _ _ h => h) (Or.inl ⟨by rfl, ?_⟩) (by assumption) ?_
    rotate_left
    · (intro W hSw; (try dsimp only at hSw); obtain ⟨s0, s1, s2, s3, s4, s5, s6⟩ := hSw; go_simp; try with_reducible rfl)
    try simp only [List.getElem_toArray, List.getElem_cons_succ, List.getElem_cons_zero, Act.put, List.setIfInBounds_toArray, List.set_cons_zero, List.set_cons_succ]
    refine wpAnyH_take (i := 8) (v := ?_) rfl (by kernel_rfl) (by kernel_rfl) (by kernel_rfl) (fun _ _ _ h => h) (Or.inl ⟨by rfl, ?_⟩) (by assumption) ?_
    rotate_left
    · (intro W hSw; (try dsimp only at hSw); obtain ⟨s0, s1, s2, s3, s4, s5, s6⟩ := hSw; go_simp; try with_reducible rfl)
    try simp only [List.getElem_toArray, List.getElem_cons_succ, List.getElem_cons_zero, Act.put, List.setIfInBounds_toArray, List.set_cons_zero, List.set_cons_succ]
    refine wpAnyH_take (i := 9) (v := .bool true) rfl (by kernel_rfl) (by kernel_rfl) (by kernel_rfl) (fun _ _ _ h => h) (Or.inl ⟨by rfl, ?_⟩) (by assumption) ?_
    · (intro W hSw; (try dsimp only at hSw); obtain ⟨s0, s1, s2, s3, s4, s5, s6⟩ := hSw; go_simp; try first | with_reducible rfl | go_num | (rw [if_pos (by assumption)]; simp only [*]) | simp only [*])
    try simp only [List.getElem_toArray, List.getElem_cons_succ, List.getElem_cons_zero, Act.put, List.setIfInBounds_toArray, List.set_cons_zero, List.set_cons_succ]
    refine wpAnyH_take (i := 10) (v := .bool true) rfl (by kernel_rfl) (by kernel_rfl) (by kernel_rfl) (fun _ _ _ h => h) (Or.inl ⟨by rfl, ?_⟩) (by assumption) ?_
    · (intro W hSw; (try dsimp only at hSw); obtain ⟨s0, s1, s2, s3, s4, s5, s6⟩ := hSw; go_simp; try first | with_reducible rfl | go_num | (rw [if_pos (by assumption)]; simp only [*]) | simp only [*])
    try simp only [List.getElem_toArray, List.getElem_cons_succ, List.getElem_cons_zero, Act.put, List.setIfInBounds_toArray, List.set_cons_zero, List.set_cons_succ]
    refine wpAnyH_take (i := 11) (v := ?_) rfl (by kernel_rfl) (by kernel_rfl) (by kernel_rfl) (fun _ _ _ h => h) (Or.inl ⟨by rfl, ?_⟩) (by assumption) ?_
    rotate_left
    · (intro W hSw; (try dsimp only at hSw); obtain ⟨s0, s1, s2, s3, s4, s5, s6⟩ := hSw; go_simp; try with_reducible rfl)
    try simp only [List.getElem_toArray, List.getElem_cons_succ, List.getElem_cons_zero, Act.put, List.setIfInBounds_toArray, List.set_cons_zero, List.set_cons_succ]
    refine wpAnyH_take (i := 12) (v := .agg #[str m.os, str m.arch, .slice la m.ls.length lc]) rfl (by kernel_rfl) (by kernel_rfl) (by kernel_rfl) (fun _ _ _ h => h) (Or.inl ⟨by rfl, ?_⟩) (by assumption) ?_
    · (intro W hSw; (try dsimp only at hSw); obtain ⟨s0, s1, s2, s3, s4, s5, s6⟩ := hSw; go_simp; try first | with_reducible rfl | go_num | (rw [if_pos (by assumption)]; simp only [*]) | simp only [*])
    try simp only [List.getElem_toArray, List.getElem_cons_succ, List.getElem_cons_zero, Act.put, List.setIfInBounds_toArray, List.set_cons_zero, List.set_cons_succ]
    refine wpAnyH_take (i := 14) (v := .agg #[str m.os, str m.arch, .slice la m.ls.length lc]) rfl (by kernel_rfl) (by kernel_rfl) (by kernel_rfl) (fun _ _ _ h => h) (Or.inl ⟨by rfl, ?_⟩) (by assumption) ?_
    · (intro W hSw; (try dsimp only at hSw); obtain ⟨s0, s1, s2, s3, s4, s5, s6⟩ := hSw; go_simp; try first | with_reducible rfl | go_num | (rw [if_pos (by assumption)]; simp only [*]) | simp only [*])
    try simp only [List.getElem_toArray, List.getElem_cons_succ, List.getElem_cons_zero, Act.put, List.setIfInBounds_toArray, List.set_cons_zero, List.set_cons_succ]
    refine wpAnyH_ready (rs := [13]) (by kernel_rfl) (by simp) (AllReadyH.cons rfl (fun K hK => ?_) AllReadyH.nil)
    rw [if_pos (by rfl)]
    go_simp
    refine (right_any m.os m.arch la m.ls.length lc hn x2).mono ?_
    rintro e x3 ⟨rfl, hBx⟩
    rw [← err_right, HEr.out]
    have HB3 := hid (HB2.out.trans (hBx.mono HB2.out.size))
    clear hBx
    go_wp2_with fail
    refine hK.out _ _ (HSB.out _ HB3.out) (fun hHeld => ?_)
    clear hK K
    try simp only [List.getElem_toArray, List.getElem_cons_succ, List.getElem_cons_zero, Act.put, List.setIfInBounds_toArray, List.set_cons_zero, List.set_cons_succ]
    refine wpAnyH_ready (rs := [15]) (by kernel_rfl) (by simp) (AllReadyH.cons rfl (fun K hK => ?_) AllReadyH.nil)
    rw [if_pos (by rfl)]
    go_simp
    refine (fRight_any m.os m.arch la m.ls.length lc HOo.out HOa.out hn x3).mono ?_
    rintro e x4 ⟨rfl, hBx⟩
    rw [← err_right, HEr.out]
    have HB4 := hid (HB3.out.trans (hBx.mono HB3.out.size))
    clear hBx
    go_wp2_with fail
    refine hK.out _ _ (HSB.out _ HB4.out) (fun hHeld => ?_)
    clear hK K
    try simp only [List.getElem_toArray, List.getElem_cons_succ, List.getElem_cons_zero, Act.put, List.setIfInBounds_toArray, List.set_cons_zero, List.set_cons_succ]
    refine wpAnyH_take (i := 16) (v := .bool true) rfl (by kernel_rfl) (by kernel_rfl) (by kernel_rfl) (fun _ _ _ h => h) (Or.inl ⟨by rfl, ?_⟩) (by assumption) ?_
    · (intro W hSw; (try dsimp only at hSw); obtain ⟨s0, s1, s2, s3, s4, s5, s6⟩ := hSw; go_simp; try first | with_reducible rfl | go_num | (rw [if_pos (by assumption)]; simp only [*]) | simp only [*])
    try simp only [List.getElem_toArray, List.getElem_cons_succ, List.getElem_cons_zero, Act.put, List.setIfInBounds_toArray, List.set_cons_zero, List.set_cons_succ]
    refine wpAnyH_take (i := 17) (v := .bool true) rfl (by kernel_rfl) (by kernel_rfl) (by kernel_rfl) (fun _ _ _ h => h) (Or.inl ⟨by rfl, ?_⟩) (by assumption) ?_
    · (intro W hSw; (try dsimp only at hSw); obtain ⟨s0, s1, s2, s3, s4, s5, s6⟩ := hSw; go_simp; try first | with_reducible rfl | go_num | (rw [if_pos (by assumption)]; simp only [*]) | simp only [*])
    try simp only [List.getElem_toArray, List.getElem_cons_succ, List.getElem_cons_zero, Act.put, List.setIfInBounds_toArray, List.set_cons_zero, List.set_cons_succ]
    refine wpAnyH_take (i := 18) (v := ?_) rfl (by kernel_rfl) (by kernel_rfl) (by kernel_rfl) (fun _ _ _ h => h) (Or.inl ⟨by rfl, ?_⟩) (by assumption) ?_
    rotate_left
    · (intro W hSw; (try dsimp only at hSw); obtain ⟨s0, s1, s2, s3, s4, s5, s6⟩ := hSw; go_simp; try with_reducible rfl)
    try simp only [List.getElem_toArray, List.getElem_cons_succ, List.getElem_cons_zero, Act.put, List.setIfInBounds_toArray, List.set_cons_zero, List.set_cons_succ]
    refine wpAnyH_take (i := 19) (v := .agg (D.map B).toArray) rfl (by kernel_rfl) (by kernel_rfl) (by kernel_rfl) (fun _ _ _ h => h) (yieldsIf_load_mid (by rfl) 26 (.tmp 11) rfl A 0 rfl (D.map B) _ (fun _ h => h.2.2.2.2.2.1) Tryd.underlying26 rfl (infoH.trans (by rw [List.length_map, HDl.out]))) (by assumption) ?_
    try simp only [List.getElem_toArray, List.getElem_cons_succ, List.getElem_cons_zero, Act.put, List.setIfInBounds_toArray, List.set_cons_zero, List.set_cons_succ]
    refine wpAnyH_take (i := 20) (v := .agg (D.map B).toArray) rfl (by kernel_rfl) (by kernel_rfl) (by kernel_rfl) (fun _ _ _ h => h) (yieldsIf_load_mid (by rfl) 26 (.tmp 13) rfl Bq 0 rfl (D.map B) _ (fun _ h => h.2.2.2.2.2.2) Tryd.underlying26 rfl (infoH.trans (by rw [List.length_map, HDl.out]))) (by assumption) ?_
    try simp only [List.getElem_toArray, List.getElem_cons_succ, List.getElem_cons_zero, Act.put, List.setIfInBounds_toArray, List.set_cons_zero, List.set_cons_succ]
    refine wpAnyH_take (i := 21) (v := .bool true) rfl (by kernel_rfl) (by kernel_rfl) (by kernel_rfl) (fun _ _ _ h => h) (Or.inl ⟨by rfl, ?_⟩) (by assumption) ?_
    · (intro W hSw; (try dsimp only at hSw); obtain ⟨s0, s1, s2, s3, s4, s5, s6⟩ := hSw; go_simp; try first | with_reducible rfl | go_num | (rw [if_pos (by assumption)]; simp only [*]) | simp only [*])
    try simp only [List.getElem_toArray, List.getElem_cons_succ, List.getElem_cons_zero, Act.put, List.setIfInBounds_toArray, List.set_cons_zero, List.set_cons_succ]
    refine wpAnyH_take (i := 22) (v := .bool true) rfl (by kernel_rfl) (by kernel_rfl) (by kernel_rfl) (fun _ _ _ h => h) (Or.inl ⟨by rfl, ?_⟩) (by assumption) ?_
    · (intro W hSw; (try dsimp only at hSw); obtain ⟨s0, s1, s2, s3, s4, s5, s6⟩ := hSw; go_simp; try first | with_reducible rfl | go_num | (rw [if_pos (by assumption)]; simp only [*]) | simp only [*])
    try simp only [List.getElem_toArray, List.getElem_cons_succ, List.getElem_cons_zero, Act.put, List.setIfInBounds_toArray, List.set_cons_zero, List.set_cons_succ]
    refine wpAnyH_take (i := 23) (v := ?_) rfl (by kernel_rfl) (by kernel_rfl) (by kernel_rfl) (fun _ _ _ h => h) (Or.inl ⟨by rfl, ?_⟩) (by assumption) ?_
    rotate_left
    · (intro W hSw; (try dsimp only at hSw); obtain ⟨s0, s1, s2, s3, s4, s5, s6⟩ := hSw; go_simp; try with_reducible rfl)
    try simp only [List.getElem_toArray, List.getElem_cons_succ, List.getElem_cons_zero, Act.put, List.setIfInBounds_toArray, List.set_cons_zero, List.set_cons_succ]
    refine wpAnyH_take (i := 24) (v := ?_) rfl (by kernel_rfl) (by kernel_rfl) (by kernel_rfl) (fun _ _ _ h => h) (Or.inl ⟨by rfl, ?_⟩) (by assumption) ?_
    rotate_left
    · (intro W hSw; (try dsimp only at hSw); obtain ⟨s0, s1, s2, s3, s4, s5, s6⟩ := hSw; go_simp; try with_reducible rfl)
    try simp only [List.getElem_toArray, List.getElem_cons_succ, List.getElem_cons_zero, Act.put, List.setIfInBounds_toArray, List.set_cons_zero, List.set_cons_succ]
    refine wpAnyH_take (i := 25) (v := ?_) rfl (by kernel_rfl) (by kernel_rfl) (by kernel_rfl) (fun _ _ _ h => h) (Or.inl ⟨by rfl, ?_⟩) (by assumption) ?_
    rotate_left
    · (intro W hSw; (try dsimp only at hSw); obtain ⟨s0, s1, s2, s3, s4, s5, s6⟩ := hSw; go_simp; try with_reducible rfl)
    try simp only [List.getElem_toArray, List.getElem_cons_succ, List.getElem_cons_zero, Act.put, List.setIfInBounds_toArray, List.set_cons_zero, List.set_cons_succ]
    refine wpAnyH_take (i := 26) (v := .bool true) rfl (by kernel_rfl) (by kernel_rfl) (by kernel_rfl) (fun _ _ _ h => h) (Or.inl ⟨by rfl, ?_⟩) (by assumption) ?_
    · (intro W hSw; (try dsimp only at hSw); obtain ⟨s0, s1, s2, s3, s4, s5, s6⟩ := hSw; go_simp; try first | with_reducible rfl | go_num | (rw [if_pos (by assumption)]; simp only [*]) | simp only [*])
    try simp only [List.getElem_toArray, List.getElem_cons_succ, List.getElem_cons_zero, Act.put, List.setIfInBounds_toArray, List.set_cons_zero, List.set_cons_succ]
    refine wpAnyH_take (i := 27) (v := .bool true) rfl (by kernel_rfl) (by kernel_rfl) (by kernel_rfl) (fun _ _ _ h => h) (Or.inl ⟨by rfl, ?_⟩) (by assumption) ?_
    · (intro W hSw; (try dsimp only at hSw); obtain ⟨s0, s1, s2, s3, s4, s5, s6⟩ := hSw; go_simp; try first | with_reducible rfl | go_num | (rw [if_pos (by assumption)]; simp only [*]) | simp only [*])
    try simp only [List.getElem_toArray, List.getElem_cons_succ, List.getElem_cons_zero, Act.put, List.setIfInBounds_toArray, List.set_cons_zero, List.set_cons_succ]
    refine wpAnyH_take (i := 28) (v := ?_) rfl (by kernel_rfl) (by kernel_rfl) (by kernel_rfl) (fun _ _ _ h => h) (Or.inl ⟨by rfl, ?_⟩) (by assumption) ?_
    rotate_left
    · (intro W hSw; (try dsimp only at hSw); obtain ⟨s0, s1, s2, s3, s4, s5, s6⟩ := hSw; go_simp; try with_reducible rfl)
    try simp only [List.getElem_toArray, List.getElem_cons_succ, List.getElem_cons_zero, Act.put, List.setIfInBounds_toArray, List.set_cons_zero, List.set_cons_succ]
    refine wpAnyH_take (i := 29) (v := .agg #[str m.os, str m.arch, .slice la m.ls.length lc]) rfl (by kernel_rfl) (by kernel_rfl) (by kernel_rfl) (fun _ _ _ h => h) (Or.inl ⟨by rfl, ?_⟩) (by assumption) ?_
    · (intro W hSw; (try dsimp only at hSw); obtain ⟨s0, s1, s2, s3, s4, s5, s6⟩ := hSw; go_simp; try first | with_reducible rfl | go_num | (rw [if_pos (by assumption)]; simp only [*]) | simp only [*])
    try simp only [List.getElem_toArray, List.getElem_cons_succ, List.getElem_cons_zero, Act.put, List.setIfInBounds_toArray, List.set_cons_zero, List.set_cons_succ]
    refine wpAnyH_take (i := 30) (v := .agg (h.map B).toArray) rfl (by kernel_rfl) (by kernel_rfl) (by kernel_rfl) (fun _ _ _ h => h) (yieldsIf_load_mid (by rfl) 26 (.tmp 4) rfl (w.heap.size + 1) 0 rfl (h.map B) _ (fun _ h => h.2.2.2.2.1) Tryd.underlying26 rfl (infoH.trans (by rw [List.length_map, H32.out]))) (by assumption) ?_
    try simp only [List.getElem_toArray, List.getElem_cons_succ, List.getElem_cons_zero, Act.put, List.setIfInBounds_toArray, List.set_cons_zero, List.set_cons_succ]
    refine wpAnyH_take (i := 32) (v := .agg #[str m.os, str m.arch, .slice la m.ls.length lc]) rfl (by kernel_rfl) (by kernel_rfl) (by kernel_rfl) (fun _ _ _ h => h) (Or.inl ⟨by rfl, ?_⟩) (by assumption) ?_
    · (intro W hSw; (try dsimp only at hSw); obtain ⟨s0, s1, s2, s3, s4, s5, s6⟩ := hSw; go_simp; try first | with_reducible rfl | go_num | (rw [if_pos (by assumption)]; simp only [*]) | simp only [*])
    try simp only [List.getElem_toArray, List.getElem_cons_succ, List.getElem_cons_zero, Act.put, List.setIfInBounds_toArray, List.set_cons_zero, List.set_cons_succ]
    refine wpAnyH_take (i := 33) (v := .agg (h.map B).toArray) rfl (by kernel_rfl) (by kernel_rfl) (by kernel_rfl) (fun _ _ _ h => h) (yieldsIf_load_mid (by rfl) 26 (.tmp 4) rfl (w.heap.size + 1) 0 rfl (h.map B) _ (fun _ h => h.2.2.2.2.1) Tryd.underlying26 rfl (infoH.trans (by rw [List.length_map, H32.out]))) (by assumption) ?_
    try simp only [List.getElem_toArray, List.getElem_cons_succ, List.getElem_cons_zero, Act.put, List.setIfInBounds_toArray, List.set_cons_zero, List.set_cons_succ]
    refine wpAnyH_ready (rs := [31]) (by kernel_rfl) (by simp) (AllReadyH.cons rfl (fun K hK => ?_) AllReadyH.nil)
    rw [if_pos (by rfl)]
    go_simp
    refine (uses_any m.os m.arch m.ls la lc h H32.out x4 (HLz.out.below HB4.out) hn).mono ?_
    rintro e x5 ⟨rfl, hBx⟩
    have HB5 := hid (HB4.out.trans (hBx.mono HB4.out.size))
    clear hBx
    go_wp2_with fail
    refine hK.out _ _ (HSB.out _ HB5.out) (fun hHeld => ?_)
    clear hK K
    try simp only [List.getElem_toArray, List.getElem_cons_succ, List.getElem_cons_zero, Act.put, List.setIfInBounds_toArray, List.set_cons_zero, List.set_cons_succ]
    refine wpAnyH_ready (rs := [34]) (by kernel_rfl) (by simp) (AllReadyH.cons rfl (fun K hK => ?_) AllReadyH.nil)
    rw [if_pos (by rfl)]
    go_simp
    refine (fuses_any m.os m.arch m.ls la lc h H32.out x5 (HLz.out.below HB5.out) hn).mono ?_
    rintro e x6 ⟨rfl, hBx⟩
    have HB6 := hid (HB5.out.trans (hBx.mono HB5.out.size))
    clear hBx
    go_wp2_with fail
    refine hK.out _ _ (HSB.out _ HB6.out) (fun hHeld => ?_)
    clear hK K
    try simp only [List.getElem_toArray, List.getElem_cons_succ, List.getElem_cons_zero, Act.put, List.setIfInBounds_toArray, List.set_cons_zero, List.set_cons_succ]
    have hcc : (((m.ls.count h : Nat) : Int) == ((m.ls.count h : Nat) : Int)) = true := by simp
    refine wpAnyH_take (i := 35) (v := .bool true) rfl (by kernel_rfl) (by kernel_rfl) (by kernel_rfl) (fun _ _ _ h => h) (Or.inl ⟨by rfl, ?_⟩) (by assumption) ?_
    · (intro W hSw; (try dsimp only at hSw); obtain ⟨s0, s1, s2, s3, s4, s5, s6⟩ := hSw; go_simp; try first | with_reducible rfl | go_num | (rw [if_pos (by assumption)]; simp only [*]) | simp only [*])
    try simp only [List.getElem_toArray, List.getElem_cons_succ, List.getElem_cons_zero, Act.put, List.setIfInBounds_toArray, List.set_cons_zero, List.set_cons_succ]
    refine wpAnyH_take (i := 36) (v := .bool true) rfl (by kernel_rfl) (by kernel_rfl) (by kernel_rfl) (fun _ _ _ h => h) (Or.inl ⟨by rfl, ?_⟩) (by assumption) ?_
    · (intro W hSw; (try dsimp only at hSw); obtain ⟨s0, s1, s2, s3, s4, s5, s6⟩ := hSw; go_simp; try first | with_reducible rfl | go_num | (rw [if_pos (by assumption)]; simp only [*]) | simp only [*])
    try simp only [List.getElem_toArray, List.getElem_cons_succ, List.getElem_cons_zero, Act.put, List.setIfInBounds_toArray, List.set_cons_zero, List.set_cons_succ]
    refine wpAnyH_take (i := 37) (v := ?_) rfl (by kernel_rfl) (by kernel_rfl) (by kernel_rfl) (fun _ _ _ h => h) (Or.inl ⟨by rfl, ?_⟩) (by assumption) ?_
    rotate_left
    · (intro W hSw; (try dsimp only at hSw); obtain ⟨s0, s1, s2, s3, s4, s5, s6⟩ := hSw; go_simp; try with_reducible rfl)
    try simp only [List.getElem_toArray, List.getElem_cons_succ, List.getElem_cons_zero, Act.put, List.setIfInBounds_toArray, List.set_cons_zero, List.set_cons_succ]
    refine wpAnyH_take (i := 38) (v := ?_) rfl (by kernel_rfl) (by kernel_rfl) (by kernel_rfl) (fun _ _ _ h => h) (Or.inl ⟨by rfl, ?_⟩) (by assumption) ?_
    rotate_left
    · (intro W hSw; (try dsimp only at hSw); obtain ⟨s0, s1, s2, s3, s4, s5, s6⟩ := hSw; go_simp; try with_reducible rfl)
    try simp only [List.getElem_toArray, List.getElem_cons_succ, List.getElem_cons_zero, Act.put, List.setIfInBounds_toArray, List.set_cons_zero, List.set_cons_succ]
    refine wpAnyH_take (i := 40) (v := ?_) rfl (by kernel_rfl) (by kernel_rfl) (by kernel_rfl) (fun _ _ _ h => h) (Or.inl ⟨by rfl, ?_⟩) (by assumption) ?_
    rotate_left
    · (intro W hSw; (try dsimp only at hSw); obtain ⟨s0, s1, s2, s3, s4, s5, s6⟩ := hSw; go_simp; try with_reducible rfl)
    try simp only [List.getElem_toArray, List.getElem_cons_succ, List.getElem_cons_zero, Act.put, List.setIfInBounds_toArray, List.set_cons_zero, List.set_cons_succ]
    refine wpAnyH_ready (rs := [39]) (by kernel_rfl) (by simp) (AllReadyH.cons rfl (fun K hK => ?_) AllReadyH.nil)
    rw [if_pos (by rfl)]
    go_simp
    refine (isWord_any s x6).mono ?_
    rintro e x7 ⟨rfl, hBx⟩
    have HB7 := hid (HB6.out.trans (hBx.mono HB6.out.size))
    clear hBx
    go_wp2_with fail
    refine hK.out _ _ (HSB.out _ HB7.out) (fun hHeld => ?_)
    clear hK K
    try simp only [List.getElem_toArray, List.getElem_cons_succ, List.getElem_cons_zero, Act.put, List.setIfInBounds_toArray, List.set_cons_zero, List.set_cons_succ]
    refine wpAnyH_ready (rs := [41]) (by kernel_rfl) (by simp) (AllReadyH.cons rfl (fun K hK => ?_) AllReadyH.nil)
    rw [if_pos (by rfl)]
    go_simp
    refine (fIsWord_len s HOs.out x7).mono ?_
    rintro e x8 ⟨rfl, rfl⟩
    go_wp2_with fail
    refine hK.out _ _ (HSB.out _ HB7.out) (fun hHeld => ?_)
    clear hK K
    try simp only [List.getElem_toArray, List.getElem_cons_succ, List.getElem_cons_zero, Act.put, List.setIfInBounds_toArray, List.set_cons_zero, List.set_cons_succ]
    generalize wordOk s = q at *
    have hqq : (q == q) = true := by simp
    refine wpAnyH_take (i := 42) (v := .bool true) rfl (by kernel_rfl) (by kernel_rfl) (by kernel_rfl) (fun _ _ _ h => h) (Or.inl ⟨by rfl, ?_⟩) (by assumption) ?_
    · (intro W hSw; (try dsimp only at hSw); obtain ⟨s0, s1, s2, s3, s4, s5, s6⟩ := hSw; go_simp; try first | with_reducible rfl | go_num | (rw [if_pos (by assumption)]; simp only [*]) | simp only [*])
    try simp only [List.getElem_toArray, List.getElem_cons_succ, List.getElem_cons_zero, Act.put, List.setIfInBounds_toArray, List.set_cons_zero, List.set_cons_succ]
    refine wpAnyH_take (i := 43) (v := .bool true) rfl (by kernel_rfl) (by kernel_rfl) (by kernel_rfl) (fun _ _ _ h => h) (Or.inl ⟨by rfl, ?_⟩) (by assumption) ?_
    · (intro W hSw; (try dsimp only at hSw); obtain ⟨s0, s1, s2, s3, s4, s5, s6⟩ := hSw; go_simp; try first | with_reducible rfl | go_num | (rw [if_pos (by assumption)]; simp only [*]) | simp only [*])
    try simp only [List.getElem_toArray, List.getElem_cons_succ, List.getElem_cons_zero, Act.put, List.setIfInBounds_toArray, List.set_cons_zero, List.set_cons_succ]
    refine wpAnyH_take (i := 44) (v := ?_) rfl (by kernel_rfl) (by kernel_rfl) (by kernel_rfl) (fun _ _ _ h => h) (Or.inl ⟨by rfl, ?_⟩) (by assumption) ?_
    rotate_left
    · (intro W hSw; (try dsimp only at hSw); obtain ⟨s0, s1, s2, s3, s4, s5, s6⟩ := hSw; go_simp; try with_reducible rfl)
    try simp only [List.getElem_toArray, List.getElem_cons_succ, List.getElem_cons_zero, Act.put, List.setIfInBounds_toArray, List.set_cons_zero, List.set_cons_succ]
    refine wpAnyH_done (by kernel_rfl) ?_ _
    refine NoPanic.normal ?_
    clear hHeld
    have HBf := hid (HBz.out.trans (HB7.out.mono HBz.out.size))
    go_wp2
    go_ret
    exact ⟨rfl, HBf.out⟩
  · have q0 : (er == 0) = false := beq_eq_false_iff_ne.2 h0
    have HDz := hid (HDn.out h0)
    clear HDe HDn
    go_wp2_with (first
      | (refine wpList_store_block rfl 26 (.tmp 11) (.tmp 27) rfl w4.heap.size (D.map B).toArray rfl rfl _ 26 (block_new w4 _) (HsD.out.trans (by rfl)) (infoH.trans (congrArg some HsD.out.symm)) HoD.out ?_; intro w5 hg5 hb5 hz5; have HA5 := hid hb5; have HG5 := hid hg5; have HZ5 := hid hz5; clear hg5 hb5 hz5)
      | (refine wpList_store_block rfl 26 (.tmp 13) (.tmp 29) rfl w5.heap.size (zero32.map B).toArray rfl rfl _ 26 (block_new w5 _) rfl (infoH.trans (congrArg some HsZ.out.symm)) HoZ.out ?_; intro w6 hg6 hb6 hz6; have HA6 := hid hb6; have HG6 := hid hg6; have HZ6 := hid hz6; clear hg6 hb6 hz6))
    have hB45 : Below w4.heap.size w4 w5 := ((Below.refl w4.heap.size w4).alloc (Nat.le_refl _) _).grown HG5.out (by simp) (fun k hk => by cases hk; exact Nat.le_refl _)
    have hs5 : w5.heap.size = w4.heap.size + 1 := by rw [HZ5.out]; simp
    have hB46 : Below w4.heap.size w4 w6 := (hB45.alloc hB45.size _).grown HG6.out (by have := hB45.size; simp; omega) (fun k hk => by cases hk; exact hB45.size)
    have hs6 : w6.heap.size = w5.heap.size + 1 := by rw [HZ6.out]; simp
    have eA6 : w6.heap[w4.heap.size]? = some (.cells (D.map B).toArray 26 (0, 0)) := (HG6.out.block _ (by simp; omega) (fun e => by simp at e; omega)).trans ((Below.heap_alloc _ _ _ (by omega)).trans HA5.out)
    have EA6 := hid eA6
    have HB46 := hid hB46
    have Hs5 := hid hs5
    have Hs6 := hid hs6
    clear hB45 hB46 eA6 HG5 HG6 HZ5 HZ6 HA5 hs5 hs6
    obtain ⟨wz, hwz⟩ : ∃ wz, wz = w6 := ⟨_, rfl⟩
    subst hwz
    have EBz := HA6
    rw [← HDz.out] at EBz
    have EAz := EA6
    have HBz := hid (HBw4.out.trans (HB46.out.mono HBw4.out.size))
    have HBz1 := hid (HB4.out.trans (HB46.out.mono HB4.out.size))
    have HLz := hid (HL1.out.below HBz1.out)
    replace HR1 := hid (HR1.out.up HB46.out)
    replace HR2 := hid (HR2.out.up HB46.out)
    have hA : w4.heap.size < wz.heap.size := lt_of_heap EAz.out
    have hBq : w5.heap.size < wz.heap.size := lt_of_heap EBz.out
    have h1z : w1.heap.size ≤ wz.heap.size := HBz1.out.size
    clear Hs5 Hs6 HBw4 HB46 HA6 EA6
    generalize w4.heap.size = A at *
    generalize w5.heap.size = Bq at *
    have HSB : Hid (∀ W, Below wz.heap.size wz W → WrS wz w m la lc h D A Bq W) := fun W hW => by
      have e1 := (hW.block _ (by omega)).trans ((HBz1.out.block _ (lt_of_heap HA1.out)).trans HA1.out)
      have e2 := (hW.block _ (by omega)).trans ((HBz1.out.block _ (lt_of_heap HH1.out)).trans HH1.out)
      have e3 := (hW.block _ (by omega)).trans EAz.out
      have e4 := (hW.block _ (by omega)).trans EBz.out
      exact ⟨hW, cell_of_block e1 0, cell_of_block e1 1, cell_of_block e1 2, range_block e2, range_block e3, range_block e4⟩
    go_wp2
    refine wp_region_noPanic ?_
    refine wp_region_held_drew (S := fun W => WrS wz w m la lc h D A Bq W) (by kernel_rfl) (HSB.out _ (Below.refl _ _).drew) (fun hHeld => ?_)
    have HB0 : Hid (Below wz.heap.size wz wz.drew) := (Below.refl _ _).drew
    refine wpAnyH_ready (rs := [0]) (by kernel_rfl) (by simp) (AllReadyH.cons rfl (fun K hK => ?_) AllReadyH.nil)
    rw [if_pos (by rfl)]
    go_simp
    refine (live_any _).mono ?_
    rintro e x1 ⟨rfl, hBx⟩
    have HB1 := hid (HB0.out.trans (hBx.mono HB0.out.size))
    clear hBx
    go_wp2_with fail
    refine hK.out _ _ (HSB.out _ HB1.out) (fun hHeld => ?_)
    clear hK K
    try simp only [List.getElem_toArray, List.getElem_cons_succ, List.getElem_cons_zero, Act.put, List.setIfInBounds_toArray, List.set_cons_zero, List.set_cons_succ]
    refine wpAnyH_take (i := 1) (v := ?_) rfl (by kernel_rfl) (by kernel_rfl) (by kernel_rfl) (fun _ _ _ h => h) (Or.inl ⟨by rfl, ?_⟩) (by assumption) ?_
    rotate_left
    · (intro W hSw; (try dsimp only at hSw); obtain ⟨s0, s1, s2, s3, s4, s5, s6⟩ := hSw; go_simp; try with_reducible rfl)
    try simp only [List.getElem_toArray, List.getElem_cons_succ, List.getElem_cons_zero, Act.put, List.setIfInBounds_toArray, List.set_cons_zero, List.set_cons_succ]
    refine wpAnyH_take (i := 2) (v := ?_) rfl (by kernel_rfl) (by kernel_rfl) (by kernel_rfl) (fun _ _ _ h => h) (Or.inl ⟨by rfl, ?_⟩) (by assumption) ?_
    rotate_left
    · (intro W hSw; (try dsimp only at hSw); obtain ⟨s0, s1, s2, s3, s4, s5, s6⟩ := hSw; go_simp; try with_reducible rfl)
    try simp only [List.getElem_toArray, List.getElem_cons_succ, List.getElem_cons_zero, Act.put, List.setIfInBounds_toArray, List.set_cons_zero, List.set_cons_succ]
    refine wpAnyH_take (i := 3) (v := ?_) rfl (by kernel_rfl) (by kernel_rfl) (by kernel_rfl) (fun _ _ _ h => h) (Or.inl ⟨by rfl, ?_⟩) (by assumption) ?_
    rotate_left
    · (intro W hSw; (try dsimp only at hSw); obtain ⟨s0, s1, s2, s3, s4, s5, s6⟩ := hSw; go_simp; try with_reducible rfl)
    try simp only [List.getElem_toArray, List.getElem_cons_succ, List.getElem_cons_zero, Act.put, List.setIfInBounds_toArray, List.set_cons_zero, List.set_cons_succ]
    refine wpAnyH_ready (rs := [4]) (by kernel_rfl) (by simp) (AllReadyH.cons rfl (fun K hK => ?_) AllReadyH.nil)
    rw [if_pos (by rfl)]
    go_simp
    refine (same_bytes E E v1 v2 x1 (HR1.out.up HB1.out).bytes (HR2.out.up HB1.out).bytes (by have := HEl.out; omega)).mono ?_
    rintro e x2 ⟨rfl, hBx⟩
    rw [show decide (E = E) = true from decide_eq_true rfl]
    have HB2 := hid (HB1.out.trans (hBx.mono HB1.out.size))
    clear hBx
    go_wp2_with fail
    refine hK.out _ _ (HSB.out _ HB2.out) (fun hHeld => ?_)
    clear hK K
    try simp only [List.getElem_toArray, List.getElem_cons_succ, List.getElem_cons_zero, Act.put, List.setIfInBounds_toArray, List.set_cons_zero, List.set_cons_succ]
    refine wpAnyH_take (i := 5) (v := .bool true) rfl (by kernel_rfl) (by kernel_rfl) (by kernel_rfl) (fun _ _ _ h => h) (Or.inl ⟨by rfl, ?_⟩) (by assumption) ?_
    · (intro W hSw; (try dsimp only at hSw); obtain ⟨s0, s1, s2, s3, s4, s5, s6⟩ := hSw; go_simp; try first | with_reducible rfl | go_num | (rw [if_pos (by assumption)]; simp only [*]) | simp only [*])
    try simp only [List.getElem_toArray, List.getElem_cons_succ, List.getElem_cons_zero, Act.put, List.setIfInBounds_toArray, List.set_cons_zero, List.set_cons_succ]
    refine wpAnyH_take (i := 6) (v := ?_) rfl (by kernel_rfl) (by kernel_rfl) (by kernel_rfl) (fun _ _ _ h => h) (Or.inl ⟨by rfl, ?_⟩) (by assumption) ?_
    rotate_left
    · (intro W hSw; (try dsimp only at hSw); obtain ⟨s0, s1, s2, s3, s4, s5, s6⟩ := hSw; go_simp; try with_reducible rfl)
    try simp only [List.getElem_toArray, List.getElem_cons_succ, List.getElem_cons_zero, Act.put, List.setIfInBounds_toArray, List.set_cons_zero, List.set_cons_succ]
    refine wpAnyH_take (i := 7) (v := ?_) rfl (by kernel_rfl) (by kernel_rfl) (by kernel_rfl) (fun _ _ _ h => h) (Or.inl ⟨by rfl, ?_⟩) (by assumption) ?_
    rotate_left
    · (intro W hSw; (try dsimp only at hSw); obtain ⟨s0, s1, s2, s3, s4, s5, s6⟩ := hSw; go_simp; try with_reducible rfl)
    try simp only [List.getElem_toArray, List.getElem_cons_succ, List.getElem_cons_zero, Act.put, List.setIfInBounds_toArray, List.set_cons_zero, List.set_cons_succ]
    refine wpAnyH_take (i := 8) (v := ?_) rfl (by kernel_rfl) (by kernel_rfl) (by kernel_rfl) (fun _ _ _ h => h) (Or.inl ⟨by rfl, ?_⟩) (by assumption) ?_
    rotate_left
    · (intro W hSw; (try dsimp only at hSw); obtain ⟨s0, s1, s2, s3, s4, s5, s6⟩ := hSw; go_simp; try with_reducible rfl)
    try simp only [List.getElem_toArray, List.getElem_cons_succ, List.getElem_cons_zero, Act.put, List.setIfInBounds_toArray, List.set_cons_zero, List.set_cons_succ]
    refine wpAnyH_take (i := 9) (v := .bool true) rfl (by kernel_rfl) (by kernel_rfl) (by kernel_rfl) (fun _ _ _ h => h) (Or.inl ⟨by rfl, ?_⟩) (by assumption) ?_
    · (intro W hSw; (try dsimp only at hSw); obtain ⟨s0, s1, s2, s3, s4, s5, s6⟩ := hSw; go_simp; try first | with_reducible rfl | go_num | (rw [if_pos (by assumption)]; simp only [*]) | simp only [*])
    try simp only [List.getElem_toArray, List.getElem_cons_succ, List.getElem_cons_zero, Act.put, List.setIfInBounds_toArray, List.set_cons_zero, List.set_cons_succ]
    refine wpAnyH_take (i := 10) (v := .bool true) rfl (by kernel_rfl) (by kernel_rfl) (by kernel_rfl) (fun _ _ _ h => h) (Or.inl ⟨by rfl, ?_⟩) (by assumption) ?_
    · (intro W hSw; (try dsimp only at hSw); obtain ⟨s0, s1, s2, s3, s4, s5, s6⟩ := hSw; go_simp; try first | with_reducible rfl | go_num | (rw [if_pos (by assumption)]; simp only [*]) | simp only [*])
    try simp only [List.getElem_toArray, List.getElem_cons_succ, List.getElem_cons_zero, Act.put, List.setIfInBounds_toArray, List.set_cons_zero, List.set_cons_succ]
    refine wpAnyH_take (i := 11) (v := ?_) rfl (by kernel_rfl) (by kernel_rfl) (by kernel_rfl) (fun _ _ _ h => h) (Or.inl ⟨by rfl, ?_⟩) (by assumption) ?_
    rotate_left
    · (intro W hSw; (try dsimp only at hSw); obtain ⟨s0, s1, s2, s3, s4, s5, s6⟩ := hSw; go_simp; try with_reducible rfl)
    try simp only [List.getElem_toArray, List.getElem_cons_succ, List.getElem_cons_zero, Act.put, List.setIfInBounds_toArray, List.set_cons_zero, List.set_cons_succ]
    refine wpAnyH_take (i := 12) (v := .agg #[str m.os, str m.arch, .slice la m.ls.length lc]) rfl (by kernel_rfl) (by kernel_rfl) (by kernel_rfl) (fun _ _ _ h => h) (Or.inl ⟨by rfl, ?_⟩) (by assumption) ?_
    · (intro W hSw; (try dsimp only at hSw); obtain ⟨s0, s1, s2, s3, s4, s5, s6⟩ := hSw; go_simp; try first | with_reducible rfl | go_num | (rw [if_pos (by assumption)]; simp only [*]) | simp only [*])
    try simp only [List.getElem_toArray, List.getElem_cons_succ, List.getElem_cons_zero, Act.put, List.setIfInBounds_toArray, List.set_cons_zero, List.set_cons_succ]
    refine wpAnyH_take (i := 14) (v := .agg #[str m.os, str m.arch, .slice la m.ls.length lc]) rfl (by kernel_rfl) (by kernel_rfl) (by kernel_rfl) (fun _ _ _ h => h) (Or.inl ⟨by rfl, ?_⟩) (by assumption) ?_
    · (intro W hSw; (try dsimp only at hSw); obtain ⟨s0, s1, s2, s3, s4, s5, s6⟩ := hSw; go_simp; try first | with_reducible rfl | go_num | (rw [if_pos (by assumption)]; simp only [*]) | simp only [*])
    try simp only [List.getElem_toArray, List.getElem_cons_succ, List.getElem_cons_zero, Act.put, List.setIfInBounds_toArray, List.set_cons_zero, List.set_cons_succ]
    refine wpAnyH_ready (rs := [13]) (by kernel_rfl) (by simp) (AllReadyH.cons rfl (fun K hK => ?_) AllReadyH.nil)
    rw [if_pos (by rfl)]
    go_simp
    refine (right_any m.os m.arch la m.ls.length lc hn x2).mono ?_
    rintro e x3 ⟨rfl, hBx⟩
    rw [← err_right, HEr.out]
    have HB3 := hid (HB2.out.trans (hBx.mono HB2.out.size))
    clear hBx
    go_wp2_with fail
    refine hK.out _ _ (HSB.out _ HB3.out) (fun hHeld => ?_)
    clear hK K
    try simp only [List.getElem_toArray, List.getElem_cons_succ, List.getElem_cons_zero, Act.put, List.setIfInBounds_toArray, List.set_cons_zero, List.set_cons_succ]
    refine wpAnyH_ready (rs := [15]) (by kernel_rfl) (by simp) (AllReadyH.cons rfl (fun K hK => ?_) AllReadyH.nil)
    rw [if_pos (by rfl)]
    go_simp
    refine (fRight_any m.os m.arch la m.ls.length lc HOo.out HOa.out hn x3).mono ?_
    rintro e x4 ⟨rfl, hBx⟩
    rw [← err_right, HEr.out]
    have HB4 := hid (HB3.out.trans (hBx.mono HB3.out.size))
    clear hBx
    go_wp2_with fail
    refine hK.out _ _ (HSB.out _ HB4.out) (fun hHeld => ?_)
    clear hK K
    try simp only [List.getElem_toArray, List.getElem_cons_succ, List.getElem_cons_zero, Act.put, List.setIfInBounds_toArray, List.set_cons_zero, List.set_cons_succ]
    refine wpAnyH_take (i := 16) (v := .bool true) rfl (by kernel_rfl) (by kernel_rfl) (by kernel_rfl) (fun _ _ _ h => h) (Or.inl ⟨by rfl, ?_⟩) (by assumption) ?_
    · (intro W hSw; (try dsimp only at hSw); obtain ⟨s0, s1, s2, s3, s4, s5, s6⟩ := hSw; go_simp; try first | with_reducible rfl | go_num | (rw [if_pos (by assumption)]; simp only [*]) | simp only [*])
    try simp only [List.getElem_toArray, List.getElem_cons_succ, List.getElem_cons_zero, Act.put, List.setIfInBounds_toArray, List.set_cons_zero, List.set_cons_succ]
    refine wpAnyH_take (i := 17) (v := .bool true) rfl (by kernel_rfl) (by kernel_rfl) (by kernel_rfl) (fun _ _ _ h => h) (Or.inl ⟨by rfl, ?_⟩) (by assumption) ?_
    · (intro W hSw; (try dsimp only at hSw); obtain ⟨s0, s1, s2, s3, s4, s5, s6⟩ := hSw; go_simp; try first | with_reducible rfl | go_num | (rw [if_pos (by assumption)]; simp only [*]) | simp only [*])
    try simp only [List.getElem_toArray, List.getElem_cons_succ, List.getElem_cons_zero, Act.put, List.setIfInBounds_toArray, List.set_cons_zero, List.set_cons_succ]
    refine wpAnyH_take (i := 18) (v := ?_) rfl (by kernel_rfl) (by kernel_rfl) (by kernel_rfl) (fun _ _ _ h => h) (Or.inl ⟨by rfl, ?_⟩) (by assumption) ?_
    rotate_left
    · (intro W hSw; (try dsimp only at hSw); obtain ⟨s0, s1, s2, s3, s4, s5, s6⟩ := hSw; go_simp; try with_reducible rfl)
    try simp only [List.getElem_toArray, List.getElem_cons_succ, List.getElem_cons_zero, Act.put, List.setIfInBounds_toArray, List.set_cons_zero, List.set_cons_succ]
    refine wpAnyH_take (i := 19) (v := .agg (D.map B).toArray) rfl (by kernel_rfl) (by kernel_rfl) (by kernel_rfl) (fun _ _ _ h => h) (yieldsIf_load_mid (by rfl) 26 (.tmp 11) rfl A 0 rfl (D.map B) _ (fun _ h => h.2.2.2.2.2.1) Tryd.underlying26 rfl (infoH.trans (by rw [List.length_map, HDl.out]))) (by assumption) ?_
    try simp only [List.getElem_toArray, List.getElem_cons_succ, List.getElem_cons_zero, Act.put, List.setIfInBounds_toArray, List.set_cons_zero, List.set_cons_succ]
    refine wpAnyH_take (i := 20) (v := .agg (D.map B).toArray) rfl (by kernel_rfl) (by kernel_rfl) (by kernel_rfl) (fun _ _ _ h => h) (yieldsIf_load_mid (by rfl) 26 (.tmp 13) rfl Bq 0 rfl (D.map B) _ (fun _ h => h.2.2.2.2.2.2) Tryd.underlying26 rfl (infoH.trans (by rw [List.length_map, HDl.out]))) (by assumption) ?_
    try simp only [List.getElem_toArray, List.getElem_cons_succ, List.getElem_cons_zero, Act.put, List.setIfInBounds_toArray, List.set_cons_zero, List.set_cons_succ]
    refine wpAnyH_take (i := 21) (v := .bool true) rfl (by kernel_rfl) (by kernel_rfl) (by kernel_rfl) (fun _ _ _ h => h) (Or.inl ⟨by rfl, ?_⟩) (by assumption) ?_
    · (intro W hSw; (try dsimp only at hSw); obtain ⟨s0, s1, s2, s3, s4, s5, s6⟩ := hSw; go_simp; try first | with_reducible rfl | go_num | (rw [if_pos (by assumption)]; simp only [*]) | simp only [*])
    try simp only [List.getElem_toArray, List.getElem_cons_succ, List.getElem_cons_zero, Act.put, List.setIfInBounds_toArray, List.set_cons_zero, List.set_cons_succ]
    refine wpAnyH_take (i := 22) (v := .bool true) rfl (by kernel_rfl) (by kernel_rfl) (by kernel_rfl) (fun _ _ _ h => h) (Or.inl ⟨by rfl, ?_⟩) (by assumption) ?_
    · (intro W hSw; (try dsimp only at hSw); obtain ⟨s0, s1, s2, s3, s4, s5, s6⟩ := hSw; go_simp; try first | with_reducible rfl | go_num | (rw [if_pos (by assumption)]; simp only [*]) | simp only [*])
    try simp only [List.getElem_toArray, List.getElem_cons_succ, List.getElem_cons_zero, Act.put, List.setIfInBounds_toArray, List.set_cons_zero, List.set_cons_succ]
    refine wpAnyH_take (i := 23) (v := ?_) rfl (by kernel_rfl) (by kernel_rfl) (by kernel_rfl) (fun _ _ _ h => h) (Or.inl ⟨by rfl, ?_⟩) (by assumption) ?_
    rotate_left
    · (intro W hSw; (try dsimp only at hSw); obtain ⟨s0, s1, s2, s3, s4, s5, s6⟩ := hSw; go_simp; try with_reducible rfl)
    try simp only [List.getElem_toArray, List.getElem_cons_succ, List.getElem_cons_zero, Act.put, List.setIfInBounds_toArray, List.set_cons_zero, List.set_cons_succ]
    refine wpAnyH_take (i := 24) (v := ?_) rfl (by kernel_rfl) (by kernel_rfl) (by kernel_rfl) (fun _ _ _ h => h) (Or.inl ⟨by rfl, ?_⟩) (by assumption) ?_
    rotate_left
    · (intro W hSw; (try dsimp only at hSw); obtain ⟨s0, s1, s2, s3, s4, s5, s6⟩ := hSw; go_simp; try with_reducible rfl)
    try simp only [List.getElem_toArray, List.getElem_cons_succ, List.getElem_cons_zero, Act.put, List.setIfInBounds_toArray, List.set_cons_zero, List.set_cons_succ]
    refine wpAnyH_take (i := 25) (v := ?_) rfl (by kernel_rfl) (by kernel_rfl) (by kernel_rfl) (fun _ _ _ h => h) (Or.inl ⟨by rfl, ?_⟩) (by assumption) ?_
    rotate_left
    · (intro W hSw; (try dsimp only at hSw); obtain ⟨s0, s1, s2, s3, s4, s5, s6⟩ := hSw; go_simp; try with_reducible rfl)
    try simp only [List.getElem_toArray, List.getElem_cons_succ, List.getElem_cons_zero, Act.put, List.setIfInBounds_toArray, List.set_cons_zero, List.set_cons_succ]
    refine wpAnyH_take (i := 26) (v := .bool true) rfl (by kernel_rfl) (by kernel_rfl) (by kernel_rfl) (fun _ _ _ h => h) (Or.inl ⟨by rfl, ?_⟩) (by assumption) ?_
    · (intro W hSw; (try dsimp only at hSw); obtain ⟨s0, s1, s2, s3, s4, s5, s6⟩ := hSw; go_simp; try first | with_reducible rfl | go_num | (rw [if_pos (by assumption)]; simp only [*]) | simp only [*])
    try simp only [List.getElem_toArray, List.getElem_cons_succ, List.getElem_cons_zero, Act.put, List.setIfInBounds_toArray, List.set_cons_zero, List.set_cons_succ]
    refine wpAnyH_take (i := 27) (v := .bool true) rfl (by kernel_rfl) (by kernel_rfl) (by kernel_rfl) (fun _ _ _ h => h) (Or.inl ⟨by rfl, ?_⟩) (by assumption) ?_
    · (intro W hSw; (try dsimp only at hSw); obtain ⟨s0, s1, s2, s3, s4, s5, s6⟩ := hSw; go_simp; try first | with_reducible rfl | go_num | (rw [if_pos (by assumption)]; simp only [*]) | simp only [*])
    try simp only [List.getElem_toArray, List.getElem_cons_succ, List.getElem_cons_zero, Act.put, List.setIfInBounds_toArray, List.set_cons_zero, List.set_cons_succ]
    refine wpAnyH_take (i := 28) (v := ?_) rfl (by kernel_rfl) (by kernel_rfl) (by kernel_rfl) (fun _ _ _ h => h) (Or.inl ⟨by rfl, ?_⟩) (by assumption) ?_
    rotate_left
    · (intro W hSw; (try dsimp only at hSw); obtain ⟨s0, s1, s2, s3, s4, s5, s6⟩ := hSw; go_simp; try with_reducible rfl)
    try simp only [List.getElem_toArray, List.getElem_cons_succ, List.getElem_cons_zero, Act.put, List.setIfInBounds_toArray, List.set_cons_zero, List.set_cons_succ]
    refine wpAnyH_take (i := 29) (v := .agg #[str m.os, str m.arch, .slice la m.ls.length lc]) rfl (by kernel_rfl) (by kernel_rfl) (by kernel_rfl) (fun _ _ _ h => h) (Or.inl ⟨by rfl, ?_⟩) (by assumption) ?_
    · (intro W hSw; (try dsimp only at hSw); obtain ⟨s0, s1, s2, s3, s4, s5, s6⟩ := hSw; go_simp; try first | with_reducible rfl | go_num | (rw [if_pos (by assumption)]; simp only [*]) | simp only [*])
    try simp only [List.getElem_toArray, List.getElem_cons_succ, List.getElem_cons_zero, Act.put, List.setIfInBounds_toArray, List.set_cons_zero, List.set_cons_succ]
    refine wpAnyH_take (i := 30) (v := .agg (h.map B).toArray) rfl (by kernel_rfl) (by kernel_rfl) (by kernel_rfl) (fun _ _ _ h => h) (yieldsIf_load_mid (by rfl) 26 (.tmp 4) rfl (w.heap.size + 1) 0 rfl (h.map B) _ (fun _ h => h.2.2.2.2.1) Tryd.underlying26 rfl (infoH.trans (by rw [List.length_map, H32.out]))) (by assumption) ?_
    try simp only [List.getElem_toArray, List.getElem_cons_succ, List.getElem_cons_zero, Act.put, List.setIfInBounds_toArray, List.set_cons_zero, List.set_cons_succ]
    refine wpAnyH_take (i := 32) (v := .agg #[str m.os, str m.arch, .slice la m.ls.length lc]) rfl (by kernel_rfl) (by kernel_rfl) (by kernel_rfl) (fun _ _ _ h => h) (Or.inl ⟨by rfl, ?_⟩) (by assumption) ?_
    · (intro W hSw; (try dsimp only at hSw); obtain ⟨s0, s1, s2, s3, s4, s5, s6⟩ := hSw; go_simp; try first | with_reducible rfl | go_num | (rw [if_pos (by assumption)]; simp only [*]) | simp only [*])
    try simp only [List.getElem_toArray, List.getElem_cons_succ, List.getElem_cons_zero, Act.put, List.setIfInBounds_toArray, List.set_cons_zero, List.set_cons_succ]
    refine wpAnyH_take (i := 33) (v := .agg (h.map B).toArray) rfl (by kernel_rfl) (by kernel_rfl) (by kernel_rfl) (fun _ _ _ h => h) (yieldsIf_load_mid (by rfl) 26 (.tmp 4) rfl (w.heap.size + 1) 0 rfl (h.map B) _ (fun _ h => h.2.2.2.2.1) Tryd.underlying26 rfl (infoH.trans (by rw [List.length_map, H32.out]))) (by assumption) ?_
    try simp only [List.getElem_toArray, List.getElem_cons_succ, List.getElem_cons_zero, Act.put, List.setIfInBounds_toArray, List.set_cons_zero, List.set_cons_succ]
    refine wpAnyH_ready (rs := [31]) (by kernel_rfl) (by simp) (AllReadyH.cons rfl (fun K hK => ?_) AllReadyH.nil)
    rw [if_pos (by rfl)]
    go_simp
    refine (uses_any m.os m.arch m.ls la lc h H32.out x4 (HLz.out.below HB4.out) hn).mono ?_
    rintro e x5 ⟨rfl, hBx⟩
    have HB5 := hid (HB4.out.trans (hBx.mono HB4.out.size))
    clear hBx
    go_wp2_with fail
    refine hK.out _ _ (HSB.out _ HB5.out) (fun hHeld => ?_)
    clear hK K
    try simp only [List.getElem_toArray, List.getElem_cons_succ, List.getElem_cons_zero, Act.put, List.setIfInBounds_toArray, List.set_cons_zero, List.set_cons_succ]
    refine wpAnyH_ready (rs := [34]) (by kernel_rfl) (by simp) (AllReadyH.cons rfl (fun K hK => ?_) AllReadyH.nil)
    rw [if_pos (by rfl)]
    go_simp
    refine (fuses_any m.os m.arch m.ls la lc h H32.out x5 (HLz.out.below HB5.out) hn).mono ?_
    rintro e x6 ⟨rfl, hBx⟩
    have HB6 := hid (HB5.out.trans (hBx.mono HB5.out.size))
    clear hBx
    go_wp2_with fail
    refine hK.out _ _ (HSB.out _ HB6.out) (fun hHeld => ?_)
    clear hK K
    try simp only [List.getElem_toArray, List.getElem_cons_succ, List.getElem_cons_zero, Act.put, List.setIfInBounds_toArray, List.set_cons_zero, List.set_cons_succ]
    have hcc : (((m.ls.count h : Nat) : Int) == ((m.ls.count h : Nat) : Int)) = true := by simp
    refine wpAnyH_take (i := 35) (v := .bool true) rfl (by kernel_rfl) (by kernel_rfl) (by kernel_rfl) (fun _ _ _ h => h) (Or.inl ⟨by rfl, ?_⟩) (by assumption) ?_
    · (intro W hSw; (try dsimp only at hSw); obtain ⟨s0, s1, s2, s3, s4, s5, s6⟩ := hSw; go_simp; try first | with_reducible rfl | go_num | (rw [if_pos (by assumption)]; simp only [*]) | simp only [*])
    try simp only [List.getElem_toArray, List.getElem_cons_succ, List.getElem_cons_zero, Act.put, List.setIfInBounds_toArray, List.set_cons_zero, List.set_cons_succ]
    refine wpAnyH_take (i := 36) (v := .bool true) rfl (by kernel_rfl) (by kernel_rfl) (by kernel_rfl) (fun _ _ _ h => h) (Or.inl ⟨by rfl, ?_⟩) (by assumption) ?_
    · (intro W hSw; (try dsimp only at hSw); obtain ⟨s0, s1, s2, s3, s4, s5, s6⟩ := hSw; go_simp; try first | with_reducible rfl | go_num | (rw [if_pos (by assumption)]; simp only [*]) | simp only [*])
    try simp only [List.getElem_toArray, List.getElem_cons_succ, List.getElem_cons_zero, Act.put, List.setIfInBounds_toArray, List.set_cons_zero, List.set_cons_succ]
    refine wpAnyH_take (i := 37) (v := ?_) rfl (by kernel_rfl) (by kernel_rfl) (by kernel_rfl) (fun _ _ _ h => h) (Or.inl ⟨by rfl, ?_⟩) (by assumption) ?_
    rotate_left
    · (intro W hSw; (try dsimp only at hSw); obtain ⟨s0, s1, s2, s3, s4, s5, s6⟩ := hSw; go_simp; try with_reducible rfl)
    try simp only [List.getElem_toArray, List.getElem_cons_succ, List.getElem_cons_zero, Act.put, List.setIfInBounds_toArray, List.set_cons_zero, List.set_cons_succ]
    refine wpAnyH_take (i := 38) (v := ?_) rfl (by kernel_rfl) (by kernel_rfl) (by kernel_rfl) (fun _ _ _ h => h) (Or.inl ⟨by rfl, ?_⟩) (by assumption) ?_
    rotate_left
    · (intro W hSw; (try dsimp only at hSw); obtain ⟨s0, s1, s2, s3, s4, s5, s6⟩ := hSw; go_simp; try with_reducible rfl)
    try simp only [List.getElem_toArray, List.getElem_cons_succ, List.getElem_cons_zero, Act.put, List.setIfInBounds_toArray, List.set_cons_zero, List.set_cons_succ]
    refine wpAnyH_take (i := 40) (v := ?_) rfl (by kernel_rfl) (by kernel_rfl) (by kernel_rfl) (fun _ _ _ h => h) (Or.inl ⟨by rfl, ?_⟩) (by assumption) ?_
    rotate_left
    · (intro W hSw; (try dsimp only at hSw); obtain ⟨s0, s1, s2, s3, s4, s5, s6⟩ := hSw; go_simp; try with_reducible rfl)
    try simp only [List.getElem_toArray, List.getElem_cons_succ, List.getElem_cons_zero, Act.put, List.setIfInBounds_toArray, List.set_cons_zero, List.set_cons_succ]
    refine wpAnyH_ready (rs := [39]) (by kernel_rfl) (by simp) (AllReadyH.cons rfl (fun K hK => ?_) AllReadyH.nil)
    rw [if_pos (by rfl)]
    go_simp
    refine (isWord_any s x6).mono ?_
    rintro e x7 ⟨rfl, hBx⟩
    have HB7 := hid (HB6.out.trans (hBx.mono HB6.out.size))
    clear hBx
    go_wp2_with fail
    refine hK.out _ _ (HSB.out _ HB7.out) (fun hHeld => ?_)
    clear hK K
    try simp only [List.getElem_toArray, List.getElem_cons_succ, List.getElem_cons_zero, Act.put, List.setIfInBounds_toArray, List.set_cons_zero, List.set_cons_succ]
    refine wpAnyH_ready (rs := [41]) (by kernel_rfl) (by simp) (AllReadyH.cons rfl (fun K hK => ?_) AllReadyH.nil)
    rw [if_pos (by rfl)]
    go_simp
    refine (fIsWord_len s HOs.out x7).mono ?_
    rintro e x8 ⟨rfl, rfl⟩
    go_wp2_with fail
    refine hK.out _ _ (HSB.out _ HB7.out) (fun hHeld => ?_)
    clear hK K
    try simp only [List.getElem_toArray, List.getElem_cons_succ, List.getElem_cons_zero, Act.put, List.setIfInBounds_toArray, List.set_cons_zero, List.set_cons_succ]
    generalize wordOk s = q at *
    have hqq : (q == q) = true := by simp
    refine wpAnyH_take (i := 42) (v := .bool true) rfl (by kernel_rfl) (by kernel_rfl) (by kernel_rfl) (fun _ _ _ h => h) (Or.inl ⟨by rfl, ?_⟩) (by assumption) ?_
    · (intro W hSw; (try dsimp only at hSw); obtain ⟨s0, s1, s2, s3, s4, s5, s6⟩ := hSw; go_simp; try first | with_reducible rfl | go_num | (rw [if_pos (by assumption)]; simp only [*]) | simp only [*])
    try simp only [List.getElem_toArray, List.getElem_cons_succ, List.getElem_cons_zero, Act.put, List.setIfInBounds_toArray, List.set_cons_zero, List.set_cons_succ]
    refine wpAnyH_take (i := 43) (v := .bool true) rfl (by kernel_rfl) (by kernel_rfl) (by kernel_rfl) (fun _ _ _ h => h) (Or.inl ⟨by rfl, ?_⟩) (by assumption) ?_
    · (intro W hSw; (try dsimp only at hSw); obtain ⟨s0, s1, s2, s3, s4, s5, s6⟩ := hSw; go_simp; try first | with_reducible rfl | go_num | (rw [if_pos (by assumption)]; simp only [*]) | simp only [*])
    try simp only [List.getElem_toArray, List.getElem_cons_succ, List.getElem_cons_zero, Act.put, List.setIfInBounds_toArray, List.set_cons_zero, List.set_cons_succ]
    refine wpAnyH_take (i := 44) (v := ?_) rfl (by kernel_rfl) (by kernel_rfl) (by kernel_rfl) (fun _ _ _ h => h) (Or.inl ⟨by rfl, ?_⟩) (by assumption) ?_
    rotate_left
    · (intro W hSw; (try dsimp only at hSw); obtain ⟨s0, s1, s2, s3, s4, s5, s6⟩ := hSw; go_simp; try with_reducible rfl)
    try simp only [List.getElem_toArray, List.getElem_cons_succ, List.getElem_cons_zero, Act.put, List.setIfInBounds_toArray, List.set_cons_zero, List.set_cons_succ]
    refine wpAnyH_done (by kernel_rfl) ?_ _
    refine NoPanic.normal ?_
    clear hHeld
    have HBf := hid (HBz.out.trans (HB7.out.mono HBz.out.size))
    go_wp2
    go_ret
    exact ⟨rfl, HBf.out⟩
end Go.Proofs.YtkmmeokccmppbaaDoor
