/- Copy of the first reference: the same bytes in a slice of one's own. -/
import Derived.Test.YtkmmeokccmppbaaMNext
import Derived.Test.YtkmmeokccmppbaaCopy
namespace Go.Proofs.Ytkmmeokccmppbaa
open Go.RowKit
set_option maxHeartbeats 1000000 in
theorem copy_buf (bs : List UInt8) (v : Value) (w : World) (hr : Rd w v bs) (hlen : bs.length ≤ 140737488351232) :
    Calls Try.prog 8 #[v] w fun e w' => ∃ v', e = .returned v' ∧ Buf w.heap.size w w' v' bs := by
  obtain ⟨a, cap, rfl, hcap, _, hnone, hx⟩ := hr
  by_cases h0 : bs = []
  · subst h0
    have hz : ([] : List UInt8).length = 0 := rfl
    cases a with
    | none =>
      go_enter Try.func8, Try.ntmps8
      go_wp2
      go_ret
      exact ⟨_, rfl, World.ownsRowF_nil _ _ _ _, Below.refl _ _, Nat.le_refl _⟩
    | some ad =>
      go_enter Try.func8, Try.ntmps8
      go_wp2
      go_ret
      exact ⟨_, rfl, World.ownsRowF_nil _ _ _ _, Below.refl _ _, Nat.le_refl _⟩
  · have hpos : 0 < bs.length := List.length_pos_iff.2 h0
    cases a with
    | none => have := hnone rfl; omega
    | some ad =>
      obtain ⟨b, off, rfl, _⟩ := hx ad rfl 0 bs[0] (List.getElem?_eq_getElem hpos)
      have hcell : ∀ (j : Nat) (u : Value), (bs.map B)[j]? = some u → w.cell? ((⟨b, off, none⟩ : Addr).add j) = some u := by
        intro j u hu
        rw [List.getElem?_map] at hu
        obtain ⟨x, hxj, rfl⟩ := Option.map_eq_some_iff.1 hu
        obtain ⟨b', off', he, _, hc⟩ := hx _ rfl j x hxj
        simp only [Addr.mk.injEq, and_true] at he
        obtain ⟨rfl, rfl⟩ := he
        rw [Addr.add_mid]; exact hc
      have HC := hid hcell
      obtain ⟨i0, hi, hz0, hz1, hz2⟩ := info_parts infoU
      have HI := hid hi
      clear hx hcell hi
      go_enter Try.func8, Try.ntmps8
      go_wp2_with (refine wpList_append_lies _ rfl (.tmp 4) (.tmp 5) 22 rfl w.heap.size 5 i0 (.int .u8 0) 1 1 Try.underlying22 HI.out hz0 hz1 hz2 rfl (by omega) (.slice none 0 0) 0 [] rfl (World.ownsRow_nil _ _ _ _) ⟨b, off, none⟩ bs.length cap (bs.map B) rfl (by simp) HC.out (B_one _) hpos (by unfold maxLen; omega) (by omega) (Nat.le_refl _) w.heap.size rfl ?_; intro g cap' w1 hown hgr hat hlt)
      go_ret
      rw [List.nil_append, Nat.zero_add] at hown
      refine ⟨_, rfl, ownBuf_of hown (Nat.le_refl _) ?_ hgr.size⟩
      exact ⟨hgr.os, hgr.tape, hgr.output, hgr.size, fun k hk => hgr.block k hk (by simp [Value.ownBlock])⟩
end Go.Proofs.Ytkmmeokccmppbaa
