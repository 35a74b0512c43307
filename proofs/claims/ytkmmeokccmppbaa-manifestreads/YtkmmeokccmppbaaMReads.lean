/- ManifestReads: bytes are just the manifest that the document says, or none, for every bytes: the walk. -/
import Derived.Test.YtkmmeokccmppbaaFDec
import Derived.Test.YtkmmeokccmppbaaMCopy
import Derived.Test.YtkmmeokccmppbaaMSame
namespace Go.Proofs.Ytkmmeokccmppbaa
open Go.RowKit
def mOf (bs : List UInt8) : MS := (dec bs).getD ⟨[], [], []⟩
def eOf (bs : List UInt8) : Int := if (dec bs).isSome then 0 else 3
/-- What was answered, by one name. -/
theorem dec_form {bs : List UInt8} {w w' : World} {e : Ending} (h : DecTo w w' bs e) :
    ∃ (la : Option Addr) (lc : Nat), e = .returned (.tuple #[.agg #[str (mOf bs).os, str (mOf bs).arch, .slice la (mOf bs).ls.length lc], .int .i64 (eOf bs)]) ∧ layersAt w' la (mOf bs).ls ∧ (∀ b o, la = some ⟨b, o, none⟩ → w.heap.size ≤ b) ∧ Below w.heap.size w w' := by
  obtain ⟨⟨d, e1⟩ | ⟨m, la, lc, d, e1, hl, hf⟩, hB⟩ := h
  · refine ⟨none, 0, ?_, ?_, (fun b o h => by cases h), hB⟩
    · rw [e1]; simp [mOf, eOf, d]
    · simp only [mOf, d]; exact layersAt_nil _ _
  · refine ⟨la, lc, ?_, ?_, hf, hB⟩
    · rw [e1]; simp [mOf, eOf, d]
    · simp only [mOf, d]; exact hl
theorem mOf_len (bs : List UInt8) : (mOf bs).ls.length ≤ 8 := by
  unfold mOf
  cases d : dec bs with
  | none => simp
  | some m => exact (err_zero (dec_some d).2.2).2.2
/-- Layers stay where other blocks are written. -/
theorem layersAt.other {w w' : World} {la : Option Addr} {ls : List (List UInt8)} {g : Nat} (h : layersAt w la ls) (hne : ∀ b o, la = some ⟨b, o, none⟩ → b ≠ g) (hb : ∀ b, b ≠ g → w'.heap[b]? = w.heap[b]?) (hs : w.heap.size ≤ w'.heap.size) : layersAt w' la ls :=
  ⟨h.1, fun i hi => by
    obtain ⟨b, o, e, hlt, hr⟩ := h.2 i hi
    exact ⟨b, o, e, Nat.lt_of_lt_of_le hlt hs, fun j v hj => (World.cell?_of_block (w := w) (hb b (hne b o e))).trans (hr j v hj)⟩⟩
set_option maxHeartbeats 1000000 in
theorem copy_two (bs : List UInt8) (v : Value) (w : World) (hr : Rd w v bs) (hlen : bs.length ≤ 140737488351232) :
    Calls Try.prog 8 #[v] w fun e w' => ∃ v', e = .returned v' ∧ Buf w.heap.size w w' v' bs ∧ OwnBytes w' v' bs w.heap.size := by
  obtain ⟨a, cap, rfl, hcap, _, hnone, hx⟩ := hr
  by_cases h0 : bs = []
  · subst h0
    have hz : ([] : List UInt8).length = 0 := rfl
    cases a with
    | none =>
      go_enter Try.func8, Try.ntmps8
      go_wp2
      go_ret
      exact ⟨_, rfl, ⟨World.ownsRowF_nil _ _ _ _, Below.refl _ _, Nat.le_refl _⟩, .inl ⟨rfl, rfl⟩⟩
    | some ad =>
      go_enter Try.func8, Try.ntmps8
      go_wp2
      go_ret
      exact ⟨_, rfl, ⟨World.ownsRowF_nil _ _ _ _, Below.refl _ _, Nat.le_refl _⟩, .inl ⟨rfl, rfl⟩⟩
  · have hpos : 0 < bs.length := List.length_pos_iff.2 h0
    cases a with
    | none => have := hnone rfl; omega
    | some ad =>
      obtain ⟨b, off, rfl, _⟩ := hx ad rfl 0 bs[0] (List.getElem?_eq_getElem hpos)
      have hcell : ∀ (j : Nat) (u : Value), (bs.map B)[j]? = some u → w.cell? ((⟨b, off, none⟩ : Addr).add j) = some u := by
        intro j u hu
        rw [List.getElem?_map] at hu
        obtain ⟨x, hxj, rfl⟩ := Option.map_eq_some_iff.1 hu
        obtain ⟨b', off', he, _, hc⟩ := hx _ rfl j x hxj
        simp only [Addr.mk.injEq, and_true] at he
        obtain ⟨rfl, rfl⟩ := he
        rw [Addr.add_mid]; exact hc
      have HC := hid hcell
      obtain ⟨i0, hi, hz0, hz1, hz2⟩ := info_parts infoU
      have HI := hid hi
      clear hx hcell hi
      go_enter Try.func8, Try.ntmps8
      go_wp2_with (refine wpList_append_lies _ rfl (.tmp 4) (.tmp 5) 22 rfl w.heap.size 5 i0 (.int .u8 0) 1 1 Try.underlying22 HI.out hz0 hz1 hz2 rfl (by omega) (.slice none 0 0) 0 [] rfl (World.ownsRow_nil _ _ _ _) ⟨b, off, none⟩ bs.length cap (bs.map B) rfl (by simp) HC.out (B_one _) hpos (by unfold maxLen; omega) (by omega) (Nat.le_refl _) w.heap.size rfl ?_; intro g cap' w1 hown hgr hat hlt)
      go_ret
      rw [List.nil_append, Nat.zero_add] at hown
      refine ⟨_, rfl, ownBuf_of hown (Nat.le_refl _) ?_ hgr.size, own_of_row hown (by simp)⟩
      exact ⟨hgr.os, hgr.tape, hgr.output, hgr.size, fun k hk => hgr.block k hk (by simp [Value.ownBlock])⟩
set_option maxHeartbeats 2000000 in
set_option maxRecDepth 100000 in
theorem reads_walk (bs : List UInt8) (v : Value) (w : World) (hr : Rd w v bs) (hlb : bs.length ≤ 140737488351232) :
    Calls Try.prog 3 #[v] w fun e w' => e = .returned (.bool true) ∧ Below w.heap.size w w' := by
  have HR := hid hr
  have HC := hid (copy_two bs v w hr hlb)
  have hml := mOf_len bs
  clear hr
  go_enter Try.func3, Try.ntmps3
  go_wp2_with fail
  refine HC.out.mono ?_
  clear HC
  rintro e w1 ⟨v1, rfl, hb1, ho1⟩
  have HB1 := hid hb1.2.1
  have HO1 := hid ho1
  have HD1 := hid (decode_any w1 v1 bs (Rd.of_buf hb1))
  clear hb1 ho1
  go_wp2_with fail
  refine HD1.out.mono ?_
  clear HD1
  rintro e w2 hd2
  obtain ⟨la, ca, rfl, hla, hfa, hB2⟩ := dec_form hd2
  have HFa := hid hfa
  have hB2' := hB2.alloc hB2.size (.cells #[str (mOf bs).os, str (mOf bs).arch, .slice la (mOf bs).ls.length ca] 26)
  have HA3 : Hid ((w2.alloc (.cells #[str (mOf bs).os, str (mOf bs).arch, .slice la (mOf bs).ls.length ca] 26)).heap[w2.heap.size]? = some (.cells #[str (mOf bs).os, str (mOf bs).arch, .slice la (mOf bs).ls.length ca] 26 (0, 0))) := block_new w2 _
  have HLa3 := hid (hla.below ((Below.refl _ _).alloc (Nat.le_refl _) (.cells #[str (mOf bs).os, str (mOf bs).arch, .slice la (mOf bs).ls.length ca] 26)))
  have HB3 := hid hB2'
  have hs12 := hB2.size
  have HBw3 := hid (HB1.out.trans (hB2'.mono HB1.out.size))
  have HFD := hid (fdecode_any _ v bs (HR.out.up HBw3.out) (by omega))
  clear hd2 hla hfa hB2 hB2'
  go_wp2_with fail
  refine HFD.out.mono ?_
  clear HFD
  generalize w2.alloc (.cells #[str (mOf bs).os, str (mOf bs).arch, .slice la (mOf bs).ls.length ca] 26) = w3 at *
  rintro e w4 hd4
  obtain ⟨lb, cb, rfl, hlb4, hfb, hB4⟩ := dec_form hd4
  have HFb := hid hfb
  have hB45 : Below w4.heap.size w4 (w4.alloc (.cells #[str (mOf bs).os, str (mOf bs).arch, .slice lb (mOf bs).ls.length cb] 26)) := (Below.refl _ _).alloc (Nat.le_refl _) _
  have hB35 := hB4.alloc hB4.size (.cells #[str (mOf bs).os, str (mOf bs).arch, .slice lb (mOf bs).ls.length cb] 26)
  have HBb5 : Hid ((w4.alloc (.cells #[str (mOf bs).os, str (mOf bs).arch, .slice lb (mOf bs).ls.length cb] 26)).heap[w4.heap.size]? = some (.cells #[str (mOf bs).os, str (mOf bs).arch, .slice lb (mOf bs).ls.length cb] 26 (0, 0))) := block_new w4 _
  have HA5 := hid ((hB35.block _ (lt_of_heap HA3.out)).trans HA3.out)
  have HLa5 := hid (HLa3.out.below hB35)
  have HLb5 := hid (hlb4.below hB45)
  have HB15 := hid (HB3.out.trans (hB35.mono HB3.out.size))
  have hs24 : w2.heap.size < w4.heap.size := Nat.lt_of_lt_of_le (lt_of_heap HA3.out) hB4.size
  have hs13 := HB3.out.size
  clear hd4 hlb4 hfb hB4 hB45 hB35 HA3 HLa3 HB3
  generalize mOf bs = m at *
  generalize eOf bs = er at *
  rcases HO1.out with ⟨hbs, rfl⟩ | ⟨g, cap, rest, rfl, hcap, hgK, hbl⟩
  · subst hbs
    go_wp2
    generalize w4.alloc (.cells #[str m.os, str m.arch, .slice lb m.ls.length cb] 26) = w5 at *
    go_loopw [8] (fun iv wr => iv = .int .i64 0 ∧ wr = w5) (fun _ _ => 0)
    case atStart => exact ⟨rfl, rfl⟩
    case round =>
      obtain ⟨rfl, rfl⟩ := hrel
      have HAr := HA5
      have HBr := HBb5
      have LAr := HLa5
      have LBr := HLb5
      have HBwr := hid (HB1.out.trans (HB15.out.mono HB1.out.size))
      have HLv := hid (live_any wr)
      go_wp2_with fail
      refine HLv.out.mono ?_
      rintro e w6 ⟨rfl, hB6⟩
      have HA6 := hid ((hB6.block _ (lt_of_heap HAr.out)).trans HAr.out)
      have HB6 := hid ((hB6.block _ (lt_of_heap HBr.out)).trans HBr.out)
      have a0 := cell_of_block HA6.out 0
      have a1 := cell_of_block HA6.out 1
      have a2 := cell_of_block HA6.out 2
      have b0 := cell_of_block HB6.out 0
      have b1 := cell_of_block HB6.out 1
      have b2 := cell_of_block HB6.out 2
      have HSm := hid (same_any m m la lb ca cb w6 (LAr.out.below hB6) (LBr.out.below hB6) (by omega) (by omega))
      rw [sameM_iff.2 rfl] at HSm
      have HBy := hid (HBwr.out.trans (hB6.mono HBwr.out.size))
      clear hB6 HLv
      go_wp2_with fail
      refine HSm.out.mono ?_
      rintro e w7 ⟨rfl, hB7⟩
      have HBz := hid (HBy.out.trans (hB7.mono HBy.out.size))
      have hee : (er == er) = true := by simp
      clear hB7
      go_wp2
      go_ret
      exact ⟨rfl, HBz.out⟩
  · have hg1 := lt_of_heap hbl
    have Hbl5 := hid ((HB15.out.block _ hg1).trans hbl)
    have hgA : w2.heap.size ≠ g := by omega
    have hgB : w4.heap.size ≠ g := by omega
    have hga : ∀ b o, la = some ⟨b, o, none⟩ → b ≠ g := fun b o e => by have := HFa.out b o e; omega
    have hgb : ∀ b o, lb = some ⟨b, o, none⟩ → b ≠ g := fun b o e => by have := HFb.out b o e; omega
    have Hga := hid hga
    have Hgb := hid hgb
    have HBw5 := hid (HB1.out.trans (HB15.out.mono HB1.out.size))
    clear hbl hga hgb
    go_wp2
    generalize w4.alloc (.cells #[str m.os, str m.arch, .slice lb m.ls.length cb] 26) = w5 at *
    go_loopw [8] (fun iv wr => ∃ (i : Nat) (X : Array Value), i ≤ bs.length ∧ iv = .int .i64 i ∧ Hid (wr.heap[g]? = some (.cells X 5 (0, 0))) ∧ bs.length ≤ X.size ∧ Hid (∀ b, b ≠ g → wr.heap[b]? = w5.heap[b]?) ∧ wr.heap.size = w5.heap.size ∧ Hid (Below w.heap.size w wr)) (fun iv _ => bs.length - (intOf iv).toNat)
    case atStart => exact ⟨0, _, by omega, rfl, Hbl5, by simp, fun b _ => rfl, rfl, HBw5⟩
    case round =>
      obtain ⟨i, X, hi, rfl, HX, hXs, HE, hsz, HBwr⟩ := hrel
      by_cases hlt : i < bs.length
      · have i0 : (0 : Int) ≤ (i : Int) := by omega
        have i1 : (i : Int) < (bs.length : Int) := by omega
        have hci : ∃ u, wr.cell? ⟨g, i, none⟩ = some u := ⟨X[i], by rw [cell_of_block HX.out, Array.getElem?_eq_getElem (by omega)]⟩
        obtain ⟨u, c6⟩ := hci
        have f6 : wr.frozen? ⟨g, i, none⟩ = false := frozen_of_block HX.out _
        have hszH := hid hsz
        clear hsz
        go_wp2
        refine ⟨⟨i + 1, X.setIfInBounds i (.int .u8 7), by omega, by go_num, block_setCell HX.out _ _, by simpa using hXs, fun b hb => (block_setCell_other _ _ hb).trans (HE.out b hb), ?_, HBwr.out.setCell (p := ⟨g, i, none⟩) hgK _⟩, by simp [intOf]; omega⟩
        rw [← hszH.out]
        simp [World.setCell]
      · have hge : ¬ ((i : Int) < (bs.length : Int)) := by omega
        have HAr := hid ((HE.out _ hgA).trans HA5.out)
        have HBr := hid ((HE.out _ hgB).trans HBb5.out)
        have LAr := hid (HLa5.out.other Hga.out HE.out (by omega))
        have LBr := hid (HLb5.out.other Hgb.out HE.out (by omega))
        clear HX HE hsz
        have HLv := hid (live_any wr)
        go_wp2_with fail
        refine HLv.out.mono ?_
        rintro e w6 ⟨rfl, hB6⟩
        have HA6 := hid ((hB6.block _ (lt_of_heap HAr.out)).trans HAr.out)
        have HB6 := hid ((hB6.block _ (lt_of_heap HBr.out)).trans HBr.out)
        have a0 := cell_of_block HA6.out 0
        have a1 := cell_of_block HA6.out 1
        have a2 := cell_of_block HA6.out 2
        have b0 := cell_of_block HB6.out 0
        have b1 := cell_of_block HB6.out 1
        have b2 := cell_of_block HB6.out 2
        have HSm := hid (same_any m m la lb ca cb w6 (LAr.out.below hB6) (LBr.out.below hB6) (by omega) (by omega))
        rw [sameM_iff.2 rfl] at HSm
        have HBy := hid (HBwr.out.trans (hB6.mono HBwr.out.size))
        clear hB6 HLv
        go_wp2_with fail
        refine HSm.out.mono ?_
        rintro e w7 ⟨rfl, hB7⟩
        have HBz := hid (HBy.out.trans (hB7.mono HBy.out.size))
        have hee : (er == er) = true := by simp
        clear hB7
        go_wp2
        go_ret
        exact ⟨rfl, HBz.out⟩
end Go.Proofs.Ytkmmeokccmppbaa
