/- appendWord: a word behind its length. -/
import Derived.Test.YtkmmeokccmppbaaDoorMRight
import Derived.Lib.BufSteps
import Derived.ArgAppend
namespace Go.Proofs.YtkmmeokccmppbaaDoor
open Go.RowKit
theorem infoU : (Tryd.prog.info? 5).map (fun i => (i.zero, i.size, i.bytes)) = some (some (.int .u8 0), 1, 1) := by kernel_rfl
/-- A slice of bytes of one's own. -/
def Buf (K : Nat) (w0 w : World) (v : Value) (bs : List UInt8) : Prop := Lib.OwnBuf K 5 v bs.length (bs.map B) w0 w
theorem strCells_str (s : List UInt8) : Lib.strCells ⟨s.toArray⟩ = s.map B := by
  simp [Lib.strCells]
  intro a _; rfl
set_option maxHeartbeats 1000000 in
theorem appendWord_buf (K : Nat) (w0 w : World) (v : Value) (bs s : List UInt8) (h : Buf K w0 w v bs) (hb : bs.length ≤ 100000) (hs : s.length ≤ 100000) :
    Calls Tryd.prog 16 #[v, str s] w fun e w' => ∃ v', e = .returned v' ∧ Buf K w0 w' v' (bs ++ wordB s) := by
  have hsz := size_str s
  obtain ⟨i0, hi, hz0, hz1, hz2⟩ := info_parts infoU
  have HI := hid hi
  have H := hid h
  have hc : IntKind.u8.wrap (s.length : Int) = V (UInt8.ofNat s.length) := by
    unfold V; rw [UInt8.toNat_ofNat']; simp [IntKind.wrap, IntKind.signed, IntKind.bits]
  clear h hi
  go_enter Tryd.func16, Tryd.ntmps16
  go_wp2_with (first
    | (refine Lib.wpList_append_byte rfl (.tmp 5) (.tmp 9) 27 rfl K 5 i0 Tryd.underlying27 HI.out hz0 hz1 hz2 v bs.length (bs.map B) rfl w0 w (V (UInt8.ofNat s.length)) H.out rfl (by omega) ?_; intro v1 w1 hb1; have H1 := hid hb1; clear hb1)
    | (refine Lib.wpList_append_text rfl (.tmp 11) (.tmp 12) 27 9 rfl K 5 i0 Tryd.underlying27 Tryd.underlying9 HI.out hz0 hz1 hz2 v1 (bs.length + 1) (bs.map B ++ [B (UInt8.ofNat s.length)]) rfl w0 H1.out ⟨s.toArray⟩ rfl (by rw [hsz]; omega) ?_; intro v2 w2 hb2; have H2 := hid hb2; clear hb2))
  go_ret
  refine ⟨_, rfl, ?_⟩
  have := H2.out
  rw [hsz, strCells_str] at this
  unfold Buf wordB
  simpa [Nat.add_assoc, Nat.add_comm, Nat.add_left_comm] using this
theorem Buf.outer {K K0 : Nat} {w00 w0 w : World} {v : Value} {bs : List UInt8} (h : Buf K w0 w v bs) (hK : K0 ≤ K) (hB : Below K0 w00 w0) : Buf K0 w00 w v bs := by
  obtain ⟨h1, h2, h3⟩ := h
  refine ⟨?_, hB.trans (h2.mono hK), Nat.le_trans hK h3⟩
  refine ⟨h1.1, ?_⟩
  rcases h1.2 with h | ⟨g, cap, cur, fz, e, hg, r⟩
  · exact .inl h
  · exact .inr ⟨g, cap, cur, fz, e, Nat.le_trans hK hg, r⟩
theorem ownBuf_of {K K' : Nat} {w w1 : World} {v : Value} {n : Nat} {xs : List Value} (h : w1.ownsRow K' 5 1 v n xs) (hK : K ≤ K') (hB : Below K w w1) (hs : K ≤ w1.heap.size) : Lib.OwnBuf K 5 v n xs w w1 := by
  refine ⟨?_, hB, hs⟩
  have h1 := World.ownsRowF_of h
  refine ⟨h1.1, ?_⟩
  rcases h1.2 with h | ⟨g, cap, cur, fz, e, hg, r⟩
  · exact .inl h
  · exact .inr ⟨g, cap, cur, fz, e, Nat.le_trans hK hg, r⟩
set_option maxHeartbeats 1000000 in
theorem appendWord_full (g : Nat) (w : World) (bs s : List UInt8) (hcell : ∀ j u, (bs.map B)[j]? = some u → w.cell? ((⟨g, 0, none⟩ : Addr).add j) = some u) (hg : g < w.heap.size) (hb : bs.length ≤ 100000) (hs : s.length ≤ 100000) :
    Calls Tryd.prog 16 #[.slice (some ⟨g, 0, none⟩) bs.length bs.length, str s] w fun e w' => ∃ v', e = .returned v' ∧ Buf w.heap.size w w' v' (bs ++ wordB s) := by
  have hsz := size_str s
  obtain ⟨i0, hi, hz0, hz1, hz2⟩ := info_parts infoU
  have HI := hid hi
  have H := hid hcell
  have hc : IntKind.u8.wrap (s.length : Int) = V (UInt8.ofNat s.length) := by
    unfold V; rw [UInt8.toNat_ofNat']; simp [IntKind.wrap, IntKind.signed, IntKind.bits]
  have HC : Hid (∀ j u, (bs.map B)[j]? = some u → (w.alloc (.cells #[B (UInt8.ofNat s.length)] 5)).cell? ((⟨g, 0, none⟩ : Addr).add j) = some u) := fun j u hj => by
    have := hcell j u hj
    rw [Addr.add_mid] at this ⊢
    rw [World.cell?_of_block (w := w) (Below.heap_alloc _ _ _ hg)]
    exact this
  have HA := hid ((Below.refl w.heap.size w).alloc (Nat.le_refl _) (.cells #[B (UInt8.ofNat s.length)] 5))
  clear hcell hi
  go_enter Tryd.func16, Tryd.ntmps16
  go_wp2_with (first
    | (refine wpList_append_grows _ rfl (.tmp 5) (.tmp 9) 27 rfl 5 i0 (.int .u8 0) 1 1 Tryd.underlying27 HI.out hz0 hz1 hz2 rfl (by omega) (some ⟨g, 0, none⟩) bs.length bs.length (bs.map B) rfl (fun h => by cases h) (by simp) (fun b hb => by cases hb; exact HC.out) ⟨w.heap.size, 0, none⟩ 1 1 [B (UInt8.ofNat s.length)] rfl rfl (World.news_of_block (cs := #[B (UInt8.ofNat s.length)]) (block_new w _)) (by intro u hu; rw [List.mem_singleton.1 hu]; rfl) (by omega) (by unfold maxLen; omega) (by omega) ?_; intro v1 w1 hown hgr; have HO := hid hown; have HG := hid hgr; clear hown hgr; have H1 : Hid (Lib.OwnBuf w.heap.size 5 v1 (bs.length + 1) (bs.map B ++ [B (UInt8.ofNat s.length)]) w w1) := ownBuf_of HO.out (by simp) (HA.out.grown HG.out HA.out.size (fun k hk => by cases hk)) (Nat.le_trans HA.out.size HG.out.size))
    | (refine Lib.wpList_append_text rfl (.tmp 11) (.tmp 12) 27 9 rfl w.heap.size 5 i0 Tryd.underlying27 Tryd.underlying9 HI.out hz0 hz1 hz2 v1 (bs.length + 1) (bs.map B ++ [B (UInt8.ofNat s.length)]) rfl w H1.out ⟨s.toArray⟩ rfl (by rw [hsz]; omega) ?_; intro v2 w2 hb2; have H2 := hid hb2; clear hb2))
  go_ret
  refine ⟨_, rfl, ?_⟩
  have := H2.out
  rw [hsz, strCells_str] at this
  unfold Buf wordB
  simpa [Nat.add_assoc, Nat.add_comm, Nat.add_left_comm] using this
end Go.Proofs.YtkmmeokccmppbaaDoor
