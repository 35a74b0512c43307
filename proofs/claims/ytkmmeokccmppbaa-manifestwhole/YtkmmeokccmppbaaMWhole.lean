/- ManifestWhole: bytes that are cut, or go on, are no manifest, for every manifest: the walk. -/
import Derived.Test.YtkmmeokccmppbaaMApart
import Derived.Test.YtkmmeokccmppbaaMCopy
namespace Go.Proofs.Ytkmmeokccmppbaa
open Go.RowKit
theorem enc_pos (m : MS) : 0 < (enc m).length := by simp [enc]
set_option maxHeartbeats 2000000 in
set_option maxRecDepth 100000 in
theorem whole_walk (m : MS) (la : Option Addr) (lc : Nat) (k x : Int) (hk0 : 0 ≤ k) (hk1 : k ≤ 65535) (hx0 : 0 ≤ x) (hx1 : x ≤ 255) (w : World) (hla : layersAt w la m.ls) (hn : m.ls.length ≤ 9223372036854775807) :
    Calls Try.prog 5 #[.agg #[str m.os, str m.arch, .slice la m.ls.length lc], .int .u16 k, .int .u8 x] w fun e w' => e = .returned (.bool true) ∧ Below w.heap.size w w' := by
  have hB0 : Below w.heap.size w (w.alloc (.cells #[str m.os, str m.arch, .slice la m.ls.length lc] 26)) := (Below.refl _ _).alloc (Nat.le_refl _) _
  have HB := hid hB0
  have HE1 := hid (encode_any m la lc _ (hla.below hB0) hn)
  have H32 := hid hla.1
  clear hB0 hla
  go_enter Try.func5, Try.ntmps5
  go_wp2_with fail
  refine HE1.out.mono ?_
  clear HE1
  generalize w.alloc (.cells #[str m.os, str m.arch, .slice la m.ls.length lc] 26) = w1 at *
  rintro e w2 ⟨⟨v1, rfl, hv1⟩, hB2⟩
  have HB2 := hid (HB.out.trans (hB2.mono HB.out.size))
  clear hB2 HB
  by_cases h0 : m.err = 0
  · obtain ⟨_, hb1⟩ | ⟨h, _⟩ := hv1
    rotate_left
    · exact absurd h0 h
    rw [h0]
    have HR := hid (Rd.of_buf hb1)
    have HLn := hid (enc_len h0 H32.out)
    have hpos := enc_pos m
    have HDc := hid (fun j hj => dec_cut h0 H32.out (k := j) hj)
    have HDm := hid (fun t ht => dec_more h0 H32.out (t := t) ht)
    clear h0 hb1
    obtain ⟨ao, cap, rfl, c1, c2, c3, c4⟩ := HR.out
    cases ao with
    | none => have := c3 rfl; omega
    | some ad =>
      clear c3 c4
      generalize enc m = bs at *
      have hL := HLn.out
      have hm1 : k.toNat % bs.length < bs.length := Nat.mod_lt _ hpos
      have hrem : k.tmod (bs.length : Int) = ((k.toNat % bs.length : Nat) : Int) := by
        rw [Int.tmod_eq_emod_of_nonneg hk0]
        have : k = (k.toNat : Int) := by omega
        rw [this]
        push_cast
        rfl
      have q0 : ((bs.length : Int) == 0) = false := beq_eq_false_iff_ne.2 (by omega)
      generalize hj : k.toNat % bs.length = j at *
      clear hj
      have HRt := hid (HR.out.take (Nat.le_of_lt hm1))
      have HDd := hid (decode_any w2 _ _ HRt.out)
      have q1 : (0 : Int) ≤ (j : Int) := by omega
      have q2 : (j : Int) ≤ (cap : Int) := by omega
      have q3 : (bs.length : Int) ≤ (cap : Int) := by omega
      have hne0 : ¬ (bs.length : Int) = 0 := by omega
      go_wp2_with fail
      refine HDd.out.mono ?_
      clear HDd HRt
      rintro e w3 ⟨⟨hdn, rfl⟩ | ⟨n, na, nc, hds, rfl, hln, -⟩, hB3⟩
      rotate_left
      · rw [HDc.out j hm1] at hds
        simp at hds
      have HB4 := hid ((HB2.out.trans (hB3.mono HB2.out.size)).alloc (Nat.le_trans HB2.out.size hB3.size) (.cells #[str [], str [], .slice none 0 0] 26))
      have hB4' : Below w2.heap.size w2 (w3.alloc (.cells #[str [], str [], .slice none 0 0] 26)) := hB3.alloc hB3.size _
      have HCp := hid (copy_buf bs _ _ (HR.out.up hB4') (by omega))
      clear hdn hB3 hB4' HB2
      go_wp2_with fail
      refine HCp.out.mono ?_
      clear HCp
      generalize w3.alloc (.cells #[str [], str [], .slice none 0 0] 26) = w4 at *
      rintro e w5 ⟨v5, rfl, hb5⟩
      have H5 := hid hb5
      have hxV : x = V (UInt8.ofNat x.toNat) := by unfold V; rw [UInt8.toNat_ofNat']; omega
      have HxV := hid hxV
      obtain ⟨i0, hi, hz0, hz1, hz2⟩ := info_parts infoU
      have HI := hid hi
      clear hb5 hi hxV
      go_wp2_with (first
        | (refine Lib.wpList_append_byte rfl (.tmp 43) (.tmp 45) 22 rfl w4.heap.size 5 i0 Try.underlying22 HI.out hz0 hz1 hz2 v5 bs.length (bs.map B) rfl w4 w5 x H5.out rfl (by omega) ?_; intro v6 w6 hb6; have H6 := hid hb6; clear hb6)
        | fail)
      have H6b : Hid (Buf w4.heap.size w4 w6 v6 (bs ++ [UInt8.ofNat x.toNat])) := by
        have := H6.out
        rw [HxV.out] at this
        unfold Hid Buf
        simpa using this
      have HB6 := hid (HB4.out.trans (H6b.out.2.1.mono HB4.out.size))
      have HDd := hid (decode_any w6 v6 _ (Rd.of_buf H6b.out))
      clear H6 H6b H5 HB4
      refine HDd.out.mono ?_
      clear HDd
      rintro e w7 ⟨⟨hdn, rfl⟩ | ⟨n, na, nc, hds, rfl, hln, -⟩, hB7⟩
      rotate_left
      · rw [HDm.out _ (by simp)] at hds
        simp at hds
      have HB8 := hid ((HB6.out.trans (hB7.mono HB6.out.size)).alloc (Nat.le_trans HB6.out.size hB7.size) (.cells #[str [], str [], .slice none 0 0] 26))
      have HLv := hid (live_any (w7.alloc (.cells #[str [], str [], .slice none 0 0] 26)))
      clear hdn hB7 HB6
      go_wp2_with fail
      refine HLv.out.mono ?_
      rintro e w10 ⟨rfl, hB10⟩
      have HBz := hid (HB8.out.trans (hB10.mono HB8.out.size))
      clear hB10
      go_wp2
      go_ret
      exact ⟨rfl, HBz.out⟩
  · have hne : (m.err != 0) = true := bne_iff_ne.2 h0
    have HLv := hid (live_any w2)
    clear hv1 h0
    generalize m.err = er at *
    go_wp2_with fail
    refine HLv.out.mono ?_
    rintro e w10 ⟨rfl, hB10⟩
    have HBz := hid (HB2.out.trans (hB10.mono HB2.out.size))
    clear hB10
    go_wp2
    go_ret
    exact ⟨rfl, HBz.out⟩
end Go.Proofs.Ytkmmeokccmppbaa
