/- ManifestApart: unlike manifests have unlike bytes, for every two manifests: the walk. -/
import Derived.Test.YtkmmeokccmppbaaMSame
import Derived.Test.YtkmmeokccmppbaaSameB
namespace Go.Proofs.Ytkmmeokccmppbaa
open Go.RowKit
theorem enc_len {m : MS} (h : m.err = 0) (h32 : m.of32) : (enc m).length ≤ 1000 := by
  obtain ⟨h1, h2, h3⟩ := err_zero h
  have l1 := word_len h1
  have l2 := word_len h2
  have l3 := (chunks_flatten m.ls h32).1
  simp only [enc, wordB, List.length_append, List.length_cons, List.length_nil]
  omega
/-- What holds in the test at the end: all is as it was, and the two manifests can be read. -/
def ApS (w3 w : World) (a b : MS) (la lb : Option Addr) (ca cb : Nat) (W : World) : Prop :=
  Below w3.heap.size w3 W ∧ W.cell? ⟨w.heap.size, 0, none⟩ = some (str a.os) ∧ W.cell? ⟨w.heap.size, 1, none⟩ = some (str a.arch) ∧ W.cell? ⟨w.heap.size, 2, none⟩ = some (.slice la a.ls.length ca) ∧
  W.cell? ⟨w.heap.size + 1, 0, none⟩ = some (str b.os) ∧ W.cell? ⟨w.heap.size + 1, 1, none⟩ = some (str b.arch) ∧ W.cell? ⟨w.heap.size + 1, 2, none⟩ = some (.slice lb b.ls.length cb)
set_option maxHeartbeats 2000000 in
set_option maxRecDepth 100000 in
theorem apart_walk (a b : MS) (la lb : Option Addr) (ca cb : Nat) (w : World) (hla : layersAt w la a.ls) (hlb : layersAt w lb b.ls) (hn : a.ls.length ≤ 9223372036854775807) (hnb : b.ls.length ≤ 9223372036854775807) :
    Calls Try.prog 6 #[.agg #[str a.os, str a.arch, .slice la a.ls.length ca], .agg #[str b.os, str b.arch, .slice lb b.ls.length cb]] w fun e w' => e = .returned (.bool true) ∧ Below w.heap.size w w' := by
  obtain ⟨n1, n2, n3, n4⟩ := new2 w (.cells #[str a.os, str a.arch, .slice la a.ls.length ca] 26) (.cells #[str b.os, str b.arch, .slice lb b.ls.length cb] 26)
  have HA := hid n1
  have HBk := hid n2
  have HB := hid n3
  have HLA := hid (hla.below n3)
  have HLB := hid (hlb.below n3)
  have HE1 := hid (encode_any a la ca _ HLA.out hn)
  clear n1 n2 n3 n4 hla hlb
  go_enter Try.func6, Try.ntmps6
  go_wp2_with fail
  refine HE1.out.mono ?_
  clear HE1
  generalize (w.alloc (.cells #[str a.os, str a.arch, .slice la a.ls.length ca] 26)).alloc (.cells #[str b.os, str b.arch, .slice lb b.ls.length cb] 26) = w1 at *
  rintro e w2 ⟨⟨v1, rfl, hv1⟩, hB2⟩
  have HV1 := hid hv1
  have HB2 := hid hB2
  have HE2 := hid (encode_any b lb cb w2 (HLB.out.below hB2) hnb)
  have c0 : w2.cell? ⟨w.heap.size + 1, 0, none⟩ = some (str b.os) := cell_of_block ((hB2.block _ (lt_of_heap HBk.out)).trans HBk.out) 0
  have c1 : w2.cell? ⟨w.heap.size + 1, 1, none⟩ = some (str b.arch) := cell_of_block ((hB2.block _ (lt_of_heap HBk.out)).trans HBk.out) 1
  have c2 : w2.cell? ⟨w.heap.size + 1, 2, none⟩ = some (.slice lb b.ls.length cb) := cell_of_block ((hB2.block _ (lt_of_heap HBk.out)).trans HBk.out) 2
  clear hv1 hB2
  generalize hea : a.err = ea at *
  have HEa := hid hea
  clear hea
  go_wp2_with fail
  refine HE2.out.mono ?_
  clear HE2 c0 c1 c2
  rintro e w3 ⟨⟨v2, rfl, hv2⟩, hB3⟩
  have HV2 := hid hv2
  have HB3 := hid hB3
  have HB13 := hid (HB2.out.trans (hB3.mono HB2.out.size))
  have HBw := hid (HB.out.trans (HB13.out.mono HB.out.size))
  clear hv2 hB3
  generalize heb : b.err = eb at *
  have HEb := hid heb
  clear heb
  have HLive := hid (live_any w3)
  by_cases h1 : ea = 0
  · by_cases h2 : eb = 0
    · subst h1 h2
      have hSB : ∀ W, Below w3.heap.size w3 W → ApS w3 w a b la lb ca cb W := fun W hW => by
        have eA := ((hW.block _ (Nat.lt_of_lt_of_le (lt_of_heap HA.out) HB13.out.size)).trans ((HB13.out.block _ (lt_of_heap HA.out)).trans HA.out))
        have eB := ((hW.block _ (Nat.lt_of_lt_of_le (lt_of_heap HBk.out) HB13.out.size)).trans ((HB13.out.block _ (lt_of_heap HBk.out)).trans HBk.out))
        exact ⟨hW, cell_of_block eA 0, cell_of_block eA 1, cell_of_block eA 2, cell_of_block eB 0, cell_of_block eB 1, cell_of_block eB 2⟩
      have HSB := hid hSB
      obtain ⟨_, hb1⟩ | ⟨h, _⟩ := HV1.out
      rotate_left
      · exact absurd rfl h
      obtain ⟨_, hb2⟩ | ⟨h, _⟩ := HV2.out
      rotate_left
      · exact absurd rfl h
      have R1 := hid ((Rd.of_buf hb1).up HB3.out)
      have R2 := hid (Rd.of_buf hb2)
      have LA := hid (HLA.out.below HB13.out)
      have LB := hid (HLB.out.below HB13.out)
      have HX : Hid (decide (enc a = enc b) = sameM a b) := by
        unfold Hid
        by_cases e : a = b
        · subst e
          rw [sameM_iff.2 rfl]
          simp
        · rw [sameM_no e, decide_eq_false (fun h => e (enc_inj HEa.out HLA.out.1 HEb.out HLB.out.1 h))]
      have HL1 := hid (enc_len HEa.out HLA.out.1)
      clear hSB hb1 hb2
      go_wp2
      refine wp_region_noPanic ?_
      refine wp_region_held_drew (S := fun W => ApS w3 w a b la lb ca cb W) (by kernel_rfl) (HSB.out _ (Below.refl _ _).drew) (fun hHeld => ?_)
      refine wpAnyH_ready (rs := [0]) (by kernel_rfl) (by simp) (AllReadyH.cons rfl (fun K hK => ?_) AllReadyH.nil)
      rw [if_pos (by rfl)]
      go_simp
      refine (live_any _).mono ?_
      rintro e w4 ⟨rfl, hB4⟩
      have HB4 := hid (((Below.refl w3.heap.size w3).drew).trans (hB4.mono (by simp)))
      clear hB4
      go_wp2_with fail
      refine hK.out _ _ (HSB.out _ HB4.out) (fun hHeld => ?_)
      clear hK K
      try simp only [List.getElem_toArray, List.getElem_cons_succ, List.getElem_cons_zero, Act.put, List.setIfInBounds_toArray, List.set_cons_zero, List.set_cons_succ]
      refine wpAnyH_take (i := 1) (v := ?_) rfl (by kernel_rfl) (by kernel_rfl) (by kernel_rfl) (fun _ _ _ h => h) (Or.inl ⟨by rfl, ?_⟩) (by assumption) ?_
      rotate_left
      · (intro W hSw; (try dsimp only at hSw); obtain ⟨s0, s1, s2, s3, s4, s5, s6⟩ := hSw; go_simp; try with_reducible rfl)
      try simp only [List.getElem_toArray, List.getElem_cons_succ, List.getElem_cons_zero, Act.put, List.setIfInBounds_toArray, List.set_cons_zero, List.set_cons_succ]
      refine wpAnyH_take (i := 2) (v := ?_) rfl (by kernel_rfl) (by kernel_rfl) (by kernel_rfl) (fun _ _ _ h => h) (Or.inl ⟨by rfl, ?_⟩) (by assumption) ?_
      rotate_left
      · (intro W hSw; (try dsimp only at hSw); obtain ⟨s0, s1, s2, s3, s4, s5, s6⟩ := hSw; go_simp; try with_reducible rfl)
      try simp only [List.getElem_toArray, List.getElem_cons_succ, List.getElem_cons_zero, Act.put, List.setIfInBounds_toArray, List.set_cons_zero, List.set_cons_succ]
      refine wpAnyH_take (i := 3) (v := ?_) rfl (by kernel_rfl) (by kernel_rfl) (by kernel_rfl) (fun _ _ _ h => h) (Or.inl ⟨by rfl, ?_⟩) (by assumption) ?_
      rotate_left
      · (intro W hSw; (try dsimp only at hSw); obtain ⟨s0, s1, s2, s3, s4, s5, s6⟩ := hSw; go_simp; try with_reducible rfl)
      try simp only [List.getElem_toArray, List.getElem_cons_succ, List.getElem_cons_zero, Act.put, List.setIfInBounds_toArray, List.set_cons_zero, List.set_cons_succ]
      refine wpAnyH_take (i := 5) (v := .agg #[str a.os, str a.arch, .slice la a.ls.length ca]) rfl (by kernel_rfl) (by kernel_rfl) (by kernel_rfl) (fun _ _ _ h => h) (Or.inl ⟨by rfl, ?_⟩) (by assumption) ?_
      · (intro W hSw; (try dsimp only at hSw); obtain ⟨s0, s1, s2, s3, s4, s5, s6⟩ := hSw; go_simp; try first | with_reducible rfl | go_num | (rw [if_pos (by assumption)]; simp only [*]) | simp only [*])
      try simp only [List.getElem_toArray, List.getElem_cons_succ, List.getElem_cons_zero, Act.put, List.setIfInBounds_toArray, List.set_cons_zero, List.set_cons_succ]
      refine wpAnyH_take (i := 6) (v := .agg #[str b.os, str b.arch, .slice lb b.ls.length cb]) rfl (by kernel_rfl) (by kernel_rfl) (by kernel_rfl) (fun _ _ _ h => h) (Or.inl ⟨by rfl, ?_⟩) (by assumption) ?_
      · (intro W hSw; (try dsimp only at hSw); obtain ⟨s0, s1, s2, s3, s4, s5, s6⟩ := hSw; go_simp; try first | with_reducible rfl | go_num | (rw [if_pos (by assumption)]; simp only [*]) | simp only [*])
      try simp only [List.getElem_toArray, List.getElem_cons_succ, List.getElem_cons_zero, Act.put, List.setIfInBounds_toArray, List.set_cons_zero, List.set_cons_succ]
      refine wpAnyH_ready (rs := [4]) (by kernel_rfl) (by simp) (AllReadyH.cons rfl (fun K hK => ?_) AllReadyH.nil)
      rw [if_pos (by rfl)]
      go_simp
      refine (same_bytes (enc a) (enc b) v1 v2 w4 (R1.out.up HB4.out).bytes (R2.out.up HB4.out).bytes (by have := HL1.out; omega)).mono ?_
      rintro e w5 ⟨rfl, hB5⟩
      rw [HX.out]
      have HB5 := hid (HB4.out.trans (hB5.mono HB4.out.size))
      clear hB5
      have HSm := hid (same_any a b la lb ca cb w5 (LA.out.below HB5.out) (LB.out.below HB5.out) hn hnb)
      generalize sameM a b = q at *
      go_wp2_with fail
      refine hK.out _ _ (HSB.out _ HB5.out) (fun hHeld => ?_)
      clear hK K
      try simp only [List.getElem_toArray, List.getElem_cons_succ, List.getElem_cons_zero, Act.put, List.setIfInBounds_toArray, List.set_cons_zero, List.set_cons_succ]
      refine wpAnyH_ready (rs := [7]) (by kernel_rfl) (by simp) (AllReadyH.cons rfl (fun K hK => ?_) AllReadyH.nil)
      rw [if_pos (by rfl)]
      go_simp
      refine HSm.out.mono ?_
      rintro e w6 ⟨rfl, hB6⟩
      have HB6 := hid (HB5.out.trans (hB6.mono HB5.out.size))
      clear hB6 HSm
      have HBz := hid (HBw.out.trans (HB6.out.mono HBw.out.size))
      go_wp2_with fail
      refine hK.out _ _ (HSB.out _ HB6.out) (fun hHeld => ?_)
      clear hK K
      try simp only [List.getElem_toArray, List.getElem_cons_succ, List.getElem_cons_zero, Act.put, List.setIfInBounds_toArray, List.set_cons_zero, List.set_cons_succ]
      have hqq : (q == q) = true := by simp
      refine wpAnyH_take (i := 8) (v := .bool true) rfl (by kernel_rfl) (by kernel_rfl) (by kernel_rfl) (fun _ _ _ h => h) (Or.inl ⟨by rfl, ?_⟩) (by assumption) ?_
      · (intro W hSw; (try dsimp only at hSw); obtain ⟨s0, s1, s2, s3, s4, s5, s6⟩ := hSw; go_simp; try first | with_reducible rfl | go_num | (rw [if_pos (by assumption)]; simp only [*]) | simp only [*])
      try simp only [List.getElem_toArray, List.getElem_cons_succ, List.getElem_cons_zero, Act.put, List.setIfInBounds_toArray, List.set_cons_zero, List.set_cons_succ]
      refine wpAnyH_take (i := 9) (v := .bool true) rfl (by kernel_rfl) (by kernel_rfl) (by kernel_rfl) (fun _ _ _ h => h) (Or.inl ⟨by rfl, ?_⟩) (by assumption) ?_
      · (intro W hSw; (try dsimp only at hSw); obtain ⟨s0, s1, s2, s3, s4, s5, s6⟩ := hSw; go_simp; try first | with_reducible rfl | go_num | (rw [if_pos (by assumption)]; simp only [*]) | simp only [*])
      try simp only [List.getElem_toArray, List.getElem_cons_succ, List.getElem_cons_zero, Act.put, List.setIfInBounds_toArray, List.set_cons_zero, List.set_cons_succ]
      refine wpAnyH_take (i := 10) (v := ?_) rfl (by kernel_rfl) (by kernel_rfl) (by kernel_rfl) (fun _ _ _ h => h) (Or.inl ⟨by rfl, ?_⟩) (by assumption) ?_
      rotate_left
      · (intro W hSw; (try dsimp only at hSw); obtain ⟨s0, s1, s2, s3, s4, s5, s6⟩ := hSw; go_simp; try with_reducible rfl)
      try simp only [List.getElem_toArray, List.getElem_cons_succ, List.getElem_cons_zero, Act.put, List.setIfInBounds_toArray, List.set_cons_zero, List.set_cons_succ]
      refine wpAnyH_done (by kernel_rfl) ?_ _
      refine NoPanic.normal ?_
      clear hHeld
      go_wp2
      go_ret
      exact ⟨rfl, HBz.out⟩
    · have q1 : (ea != 0) = false := by simp [h1]
      have q2 : (eb != 0) = true := bne_iff_ne.2 h2
      subst h1
      clear h2
      go_wp2_with fail
      refine HLive.out.mono ?_
      rintro e w4 ⟨rfl, hB4⟩
      have HBz := hid (HBw.out.trans (hB4.mono HBw.out.size))
      clear hB4
      go_wp2
      go_ret
      exact ⟨rfl, HBz.out⟩
  · have q1 : (ea != 0) = true := bne_iff_ne.2 h1
    clear h1
    go_wp2_with fail
    refine HLive.out.mono ?_
    rintro e w4 ⟨rfl, hB4⟩
    have HBz := hid (HBw.out.trans (hB4.mono HBw.out.size))
    clear hB4
    go_wp2
    go_ret
    exact ⟨rfl, HBz.out⟩
end Go.Proofs.Ytkmmeokccmppbaa
