/- ManifestBack: what is encoded is decoded as it was, and what is decoded is encoded so, for every manifest and bytes: the walk. -/
import Derived.Test.YtkmmeokccmppbaaMApart
namespace Go.Proofs.Ytkmmeokccmppbaa
open Go.RowKit
set_option maxHeartbeats 2000000 in
set_option maxRecDepth 100000 in
theorem back_walk (m : MS) (la : Option Addr) (lc : Nat) (bs : List UInt8) (vb : Value) (w : World) (hla : layersAt w la m.ls) (hn : m.ls.length ≤ 9223372036854775807) (hrb : Rd w vb bs) (hlb : bs.length ≤ 140737488351232) :
    Calls Try.prog 4 #[.agg #[str m.os, str m.arch, .slice la m.ls.length lc], vb] w fun e w' => e = .returned (.bool true) ∧ Below w.heap.size w w' := by
  have hB0 : Below w.heap.size w (w.alloc (.cells #[str m.os, str m.arch, .slice la m.ls.length lc] 26)) := (Below.refl _ _).alloc (Nat.le_refl _) _
  have HA : Hid ((w.alloc (.cells #[str m.os, str m.arch, .slice la m.ls.length lc] 26)).heap[w.heap.size]? = some (.cells #[str m.os, str m.arch, .slice la m.ls.length lc] 26 (0, 0))) := block_new w _
  have HB := hid hB0
  have HLA := hid (hla.below hB0)
  have HE1 := hid (encode_any m la lc _ HLA.out hn)
  have HRb := hid hrb
  have HLb := hid hlb
  clear hB0 hla hrb hlb
  go_enter Try.func4, Try.ntmps4
  go_wp2_with fail
  refine HE1.out.mono ?_
  clear HE1
  generalize w.alloc (.cells #[str m.os, str m.arch, .slice la m.ls.length lc] 26) = w1 at *
  rintro e w2 ⟨⟨v1, rfl, hv1⟩, hB2⟩
  have HB2 := hid (HB.out.trans (hB2.mono HB.out.size))
  by_cases h0 : m.err = 0
  · obtain ⟨_, hb1⟩ | ⟨h, _⟩ := hv1
    rotate_left
    · exact absurd h0 h
    rw [h0]
    have HE0 := hid h0
    have HD1 := hid (decode_any w2 v1 (enc m) (Rd.of_buf hb1))
    have HA2 := hid ((hB2.block _ (lt_of_heap HA.out)).trans HA.out)
    have HL2 := hid (HLA.out.below hB2)
    have H32 := hid HLA.out.1
    clear h0 hb1 hB2 HA HLA HB
    go_wp2_with fail
    refine HD1.out.mono ?_
    clear HD1
    rintro e w3 ⟨⟨hdn, rfl⟩ | ⟨n, na, nc, hds, rfl, hln, -⟩, hB3⟩
    · rw [dec_enc HE0.out H32.out] at hdn
      simp at hdn
    · rw [dec_enc HE0.out H32.out] at hds
      obtain rfl := Option.some.inj hds
      have hB3' : Below w3.heap.size w3 (w3.alloc (.cells #[str m.os, str m.arch, .slice na m.ls.length nc] 26)) := (Below.refl _ _).alloc (Nat.le_refl _) _
      have HN4 : Hid ((w3.alloc (.cells #[str m.os, str m.arch, .slice na m.ls.length nc] 26)).heap[w3.heap.size]? = some (.cells #[str m.os, str m.arch, .slice na m.ls.length nc] 26 (0, 0))) := block_new w3 _
      have HA4 := hid (block_alloc ((hB3.block _ (lt_of_heap HA2.out)).trans HA2.out) (.cells #[str m.os, str m.arch, .slice na m.ls.length nc] 26))
      have HB4 := hid ((HB2.out.trans (hB3.mono HB2.out.size)).alloc (Nat.le_trans HB2.out.size hB3.size) (.cells #[str m.os, str m.arch, .slice na m.ls.length nc] 26))
      have HS4 := hid (same_any m m na la nc lc _ (hln.below hB3') ((HL2.out.below hB3).below hB3') hn hn)
      have a0 := cell_of_block HA4.out 0
      have a1 := cell_of_block HA4.out 1
      have a2 := cell_of_block HA4.out 2
      have b0 := cell_of_block HN4.out 0
      have b1 := cell_of_block HN4.out 1
      have b2 := cell_of_block HN4.out 2
      clear hB3 hB3' hln hds
      go_wp2_with fail
      refine HS4.out.mono ?_
      clear HS4 a0 a1 a2 b0 b1 b2
      rintro e wx ⟨rfl, hB5⟩
      rw [sameM_iff.2 rfl]
      have HBx := hid (HB4.out.trans (hB5.mono HB4.out.size))
      clear hB5 HN4 HA4 HB4 HL2 HA2
      have HD2 := hid (decode_any wx vb bs (HRb.out.up HBx.out))
      go_wp2_with fail
      refine HD2.out.mono ?_
      clear HD2
      rintro e w7 ⟨⟨hdn, rfl⟩ | ⟨n, na, nc, hds, rfl, hln, -⟩, hB7⟩
      · have HB8 := hid ((HBx.out.trans (hB7.mono HBx.out.size)).alloc (Nat.le_trans HBx.out.size hB7.size) (.cells #[str [], str [], .slice none 0 0] 26))
        have HLv := hid (live_any (w7.alloc (.cells #[str [], str [], .slice none 0 0] 26)))
        clear hB7 hdn
        go_wp2_with fail
        refine HLv.out.mono ?_
        rintro e w9 ⟨rfl, hB9⟩
        have HBz := hid (HB8.out.trans (hB9.mono HB8.out.size))
        clear hB9
        go_wp2
        go_ret
        exact ⟨rfl, HBz.out⟩
      · obtain ⟨he, h32, herr⟩ := dec_some hds
        have hB7' : Below w7.heap.size w7 (w7.alloc (.cells #[str n.os, str n.arch, .slice na n.ls.length nc] 26)) := (Below.refl _ _).alloc (Nat.le_refl _) _
        have HB8 := hid ((HBx.out.trans (hB7.mono HBx.out.size)).alloc (Nat.le_trans HBx.out.size hB7.size) (.cells #[str n.os, str n.arch, .slice na n.ls.length nc] 26))
        have hnl : n.ls.length ≤ 9223372036854775807 := by have := (err_zero herr).2.2; omega
        have HEn := hid (encode_any n na nc _ (hln.below hB7') hnl)
        have HEe := hid he
        have HHe := hid herr
        clear hB7 hB7' hds he herr h32
        go_wp2_with fail
        refine HEn.out.mono ?_
        rintro e w9 ⟨⟨v9, rfl, hv9⟩, hB9⟩
        rw [HHe.out] at hv9 ⊢
        have HB9 := hid (HB8.out.trans (hB9.mono HB8.out.size))
        obtain ⟨_, hb9⟩ | ⟨h, _⟩ := hv9
        rotate_left
        · exact absurd rfl h
        rw [HEe.out] at hb9
        have HR9 := hid (Rd.of_buf hb9)
        have HLv := hid (live_any w9)
        clear hB9 HEn hb9 HB8
        go_wp2_with fail
        refine HLv.out.mono ?_
        rintro e w10 ⟨rfl, hB10⟩
        have HB10 := hid (HB9.out.trans (hB10.mono HB9.out.size))
        have HSm := hid (same_bytes bs bs vb v9 w10 (HRb.out.up HB10.out).bytes (HR9.out.up hB10).bytes (by have := HLb.out; omega))
        clear hB10
        go_wp2_with fail
        refine HSm.out.mono ?_
        rintro e w11 ⟨rfl, hB11⟩
        rw [show decide True = true from rfl]
        have HBz := hid (HB10.out.trans (hB11.mono HB10.out.size))
        clear hB11
        go_wp2
        go_ret
        exact ⟨rfl, HBz.out⟩
  · have hne : (m.err == 0) = false := beq_eq_false_iff_ne.2 h0
    have HBx := HB2
    clear hv1 hB2 h0
    generalize m.err = er at *
    obtain ⟨wx, hwx⟩ : ∃ wx, wx = w2 := ⟨_, rfl⟩
    rw [← hwx] at HBx ⊢
    clear hwx HB2
    have HD2 := hid (decode_any wx vb bs (HRb.out.up HBx.out))
    go_wp2_with fail
    refine HD2.out.mono ?_
    clear HD2
    rintro e w7 ⟨⟨hdn, rfl⟩ | ⟨n, na, nc, hds, rfl, hln, -⟩, hB7⟩
    · have HB8 := hid ((HBx.out.trans (hB7.mono HBx.out.size)).alloc (Nat.le_trans HBx.out.size hB7.size) (.cells #[str [], str [], .slice none 0 0] 26))
      have HLv := hid (live_any (w7.alloc (.cells #[str [], str [], .slice none 0 0] 26)))
      clear hB7 hdn
      go_wp2_with fail
      refine HLv.out.mono ?_
      rintro e w9 ⟨rfl, hB9⟩
      have HBz := hid (HB8.out.trans (hB9.mono HB8.out.size))
      clear hB9
      go_wp2
      go_ret
      exact ⟨rfl, HBz.out⟩
    · obtain ⟨he, h32, herr⟩ := dec_some hds
      have hB7' : Below w7.heap.size w7 (w7.alloc (.cells #[str n.os, str n.arch, .slice na n.ls.length nc] 26)) := (Below.refl _ _).alloc (Nat.le_refl _) _
      have HB8 := hid ((HBx.out.trans (hB7.mono HBx.out.size)).alloc (Nat.le_trans HBx.out.size hB7.size) (.cells #[str n.os, str n.arch, .slice na n.ls.length nc] 26))
      have hnl : n.ls.length ≤ 9223372036854775807 := by have := (err_zero herr).2.2; omega
      have HEn := hid (encode_any n na nc _ (hln.below hB7') hnl)
      have HEe := hid he
      have HHe := hid herr
      clear hB7 hB7' hds he herr h32
      go_wp2_with fail
      refine HEn.out.mono ?_
      rintro e w9 ⟨⟨v9, rfl, hv9⟩, hB9⟩
      rw [HHe.out] at hv9 ⊢
      have HB9 := hid (HB8.out.trans (hB9.mono HB8.out.size))
      obtain ⟨_, hb9⟩ | ⟨h, _⟩ := hv9
      rotate_left
      · exact absurd rfl h
      rw [HEe.out] at hb9
      have HR9 := hid (Rd.of_buf hb9)
      have HLv := hid (live_any w9)
      clear hB9 HEn hb9 HB8
      go_wp2_with fail
      refine HLv.out.mono ?_
      rintro e w10 ⟨rfl, hB10⟩
      have HB10 := hid (HB9.out.trans (hB10.mono HB9.out.size))
      have HSm := hid (same_bytes bs bs vb v9 w10 (HRb.out.up HB10.out).bytes (HR9.out.up hB10).bytes (by have := HLb.out; omega))
      clear hB10
      go_wp2_with fail
      refine HSm.out.mono ?_
      rintro e w11 ⟨rfl, hB11⟩
      rw [show decide True = true from rfl]
      have HBz := hid (HB10.out.trans (hB11.mono HB10.out.size))
      clear hB11
      go_wp2
      go_ret
      exact ⟨rfl, HBz.out⟩
end Go.Proofs.Ytkmmeokccmppbaa
