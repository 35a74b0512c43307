/- Digest of the manifest's package. -/
import Derived.Test.YtkmmeokccmppbaaDoorWEnc
import Derived.Test.YtkmmeokccmppbaaDoorSum
namespace Go.Proofs.YtkmmeokccmppbaaDoor
open Go.RowKit
def zero32 : List UInt8 := List.replicate 32 0
theorem zero32_len : zero32.length = 32 := by simp [zero32]
def digS (m : MS) : List UInt8 := if m.err = 0 then sumS (enc m) else zero32
theorem digS_len (m : MS) : (digS m).length = 32 := by
  unfold digS
  split
  · exact length_sumS _
  · exact zero32_len
theorem enc_len2 {m : MS} (h : m.err = 0) (h32 : m.of32) : (enc m).length ≤ 1000 := by
  obtain ⟨h1, h2, h3⟩ := err_zero h
  have l1 := word_len h1
  have l2 := word_len h2
  have l3 := (chunks_flatten m.ls h32).1
  simp only [enc, wordB, List.length_append, List.length_cons, List.length_nil]
  omega
set_option maxHeartbeats 1000000 in
set_option maxRecDepth 100000 in
theorem digest_any (m : MS) (la : Option Addr) (lc : Nat) (w : World) (hK : Kat w) (hS : Sat w) (hl : layersAt w la m.ls) (hn : m.ls.length ≤ 9223372036854775807) :
    Calls Tryd.prog 6 #[.agg #[str m.os, str m.arch, .slice la m.ls.length lc]] w fun e w' => e = .returned (.tuple #[.agg ((digS m).map B).toArray, .int .i64 m.err]) ∧ Below w.heap.size w w' := by
  obtain ⟨n1, n2, n3, n4⟩ := new2 w (.cells #[str m.os, str m.arch, .slice la m.ls.length lc] 24) (.cells (zero32.map B).toArray 26)
  have HZ := hid n2
  have HB := hid n3
  have HEn := hid (encode_any m la lc _ (hl.below n3) hn)
  have H32 := hid hl.1
  have hk2 := hK.lt
  have HK := hid hK
  have HS := hid hS
  have Hzs : Hid ((zero32.map B).toArray.size = 32) := by simp [Hid, zero32_len]
  have Hz1 := hid (all_oneCell_toArray (B_one zero32))
  have HsD : Hid (((digS m).map B).toArray.size = 32) := by simp [Hid, digS_len]
  have HoD := hid (all_oneCell_toArray (B_one (digS m)))
  clear n1 n2 n3 n4 hl hK hS
  by_cases h0 : m.err = 0
  · have HD : Hid (digS m = sumS (enc m)) := if_pos h0
    have Hln : Hid ((enc m).length ≤ 1000) := enc_len2 h0 H32.out
    have HE0 := hid h0
    rw [h0] at HEn ⊢
    clear h0
    generalize digS m = D at *
    go_enter Tryd.func6, Tryd.ntmps6
    go_wp2_with fail
    refine HEn.out.mono ?_
    clear HEn
    generalize (w.alloc (.cells #[str m.os, str m.arch, .slice la m.ls.length lc] 24)).alloc (.cells (zero32.map B).toArray 26) = w1 at *
    rintro e w2 ⟨⟨v2, rfl, hv2⟩, hB2⟩
    have HZ2 := hid ((hB2.block _ (lt_of_heap HZ.out)).trans HZ.out)
    have HB2 := hid (HB.out.trans (hB2.mono HB.out.size))
    have hs2 := lt_of_heap HZ2.out
    clear hB2 HZ HB
    obtain ⟨_, hb⟩ | ⟨h, _⟩ := hv2
    rotate_left
    · exact absurd rfl h
    have HSm := hid (sum_any (enc m) v2 w2 (HK.out.below HB2.out hk2) (HS.out.below HB2.out (by omega)) (Rd.of_buf hb).bytes (by have := Hln.out; omega))
    rw [← HD.out] at HSm
    clear hb HD
    go_wp2_with fail
    refine HSm.out.mono ?_
    rintro e w3 ⟨rfl, hB3⟩
    have HZ3 := hid ((hB3.block _ hs2).trans HZ2.out)
    have HB3 := hid (HB2.out.trans (hB3.mono HB2.out.size))
    clear hB3 HSm
    go_wp2_with (refine wpList_store_block rfl 26 (.tmp 2) (.tmp 16) rfl (w.heap.size + 1) (D.map B).toArray rfl rfl _ 26 HZ3.out (HsD.out.trans Hzs.out.symm) (infoH.trans (congrArg some HsD.out.symm)) HoD.out ?_; intro w6 hg6 hb6 hz6; have H6 := hid hb6; have HB6 := hid (HB3.out.grown hg6 HB3.out.size (fun k hk => by cases hk; omega)); clear hg6 hb6 hz6)
    refine bodyPost_ret (results_cell_slot Tryd.results6 _ _ rfl H6.out _ Tryd.underlying26 rfl (infoH.trans (congrArg some HsD.out.symm))) rfl ⟨rfl, HB6.out⟩
  · have hDz : digS m = zero32 := if_neg h0
    rw [hDz]
    have hne : (m.err != 0) = true := bne_iff_ne.2 h0
    clear h0 hDz HsD HoD
    generalize m.err = er at *
    go_enter Tryd.func6, Tryd.ntmps6
    go_wp2_with fail
    refine HEn.out.mono ?_
    clear HEn
    generalize (w.alloc (.cells #[str m.os, str m.arch, .slice la m.ls.length lc] 24)).alloc (.cells (zero32.map B).toArray 26) = w1 at *
    rintro e w2 ⟨⟨v2, rfl, hv2⟩, hB2⟩
    have HZ2 := hid ((hB2.block _ (lt_of_heap HZ.out)).trans HZ.out)
    have HB2 := hid (HB.out.trans (hB2.mono HB.out.size))
    have hs2 := lt_of_heap HZ2.out
    clear hB2 HZ HB
    clear hv2
    go_wp2_with (refine wpList_store_block rfl 26 (.tmp 2) (.tmp 13) rfl (w.heap.size + 1) (zero32.map B).toArray rfl rfl _ 26 HZ2.out rfl (infoH.trans (congrArg some Hzs.out.symm)) Hz1.out ?_; intro w6 hg6 hb6 hz6; have H6 := hid hb6; have HB6 := hid (HB2.out.grown hg6 HB2.out.size (fun k hk => by cases hk; omega)); clear hg6 hb6 hz6)
    refine bodyPost_ret (results_cell_slot Tryd.results6 _ _ rfl H6.out _ Tryd.underlying26 rfl (infoH.trans (congrArg some Hzs.out.symm))) rfl ⟨rfl, HB6.out⟩
end Go.Proofs.YtkmmeokccmppbaaDoor
