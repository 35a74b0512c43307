/- sameBytes of two rows of 512 bytes. -/
import Derived.Test.YtllkkfeechojoaaDoorTornPlain
namespace Go.Proofs.YtllkkfeechojoaaDoor
open Go.RowKit
set_option maxRecDepth 100000 in
set_option maxHeartbeats 1000000 in
theorem top_same (l m : List UInt8) (a b : Addr) (c c' : Nat) (w : World) (hl : l.length = 512) (hm : m.length = 512) (ha : bytesAt w a l) (hb : bytesAt w b m) :
    Calls Tryd.prog 14 #[.slice (some a) 512 c, .slice (some b) 512 c'] w fun e w' => e = .returned (.bool (decide (l = m))) ∧ w' = w := by
  have hcv := run_convert_bytes_back (P := Tryd.prog) w 22 9 5 a c l Tryd.underlying22 Tryd.underlying5 Tryd.underlying9 ha
  have hcw := run_convert_bytes_back (P := Tryd.prog) w 22 9 5 b c' m Tryd.underlying22 Tryd.underlying5 Tryd.underlying9 hb
  rw [hl] at hcv
  rw [hm] at hcw
  have he : ((⟨l.toArray⟩ : ByteArray).toList == (⟨m.toArray⟩ : ByteArray).toList) = decide (l = m) := by
    rw [ByteArray.toList_mk, ByteArray.toList_mk]
    by_cases h : l = m
    · subst h; simp
    · rw [decide_eq_false h]; simpa using h
  have HE := hid he
  clear ha hb hl hm he
  generalize hs : (⟨l.toArray⟩ : ByteArray) = s at *
  generalize ht : (⟨m.toArray⟩ : ByteArray) = t at *
  clear hs ht
  go_enter Tryd.func14, Tryd.ntmps14
  go_wp2
  go_ret
  refine ⟨?_, rfl⟩
  rw [← HE.out]; rfl
theorem run_mk_row (w : World) : (Instr.makeSlice 22 (.int .i64 512) (.int .i64 512)).run Tryd.prog w = .ok (.slice (some ⟨w.heap.size, 0, none⟩) 512 512) (w.alloc (.cells zcells 5)) := by
  obtain ⟨i, hi, hz, hs, hb⟩ := info_parts mkInfo
  have hrun := run_make (P := Tryd.prog) w 22 5 i (.int .u8 0) Tryd.underlying22 hi hz .i64 .i64 512 512 (by omega) (by omega) (by rw [hb]; omega) (by omega)
  simp only [hs] at hrun
  have e : madeCells (Value.int .u8 0).cells (Int.toNat 512 * 1) = zcells := mkMade
  rw [e] at hrun
  exact hrun
theorem bytesAt.up {w w' : World} {ad : Addr} {l : List UInt8} (h : bytesAt w ad l) (hb : Below w.heap.size w w') : bytesAt w' ad l := fun j hj => (hb.cell (World.block_lt_of_cell? w _ (h j hj))).trans (h j hj)
theorem bytesAt.keeps {w w' : World} {ad : Addr} {l : List UInt8} {F : Nat → Prop} (h : bytesAt w ad l) (k : Keeps F w w') (hF : ¬ F ad.block) : bytesAt w' ad l := fun j hj => k.cell (h j hj) (by rw [add_block]; exact hF)
theorem bytesAt.bytes {w : World} {b c : Nat} {l : List UInt8} (h : bytesAt w ⟨b, 0, none⟩ l) (hl : l.length = 512) (hc : 512 ≤ c) : Sh.Bytes w (.slice (some ⟨b, 0, none⟩) 512 c) l := by
  refine ⟨some ⟨b, 0, none⟩, c, by rw [hl], by rw [hl]; exact hc, fun j x hj => ⟨b, 0, rfl, ?_⟩⟩
  obtain ⟨hj', e⟩ := List.getElem?_eq_some_iff.1 hj
  have := h j hj'
  rw [Addr.add_mid] at this
  rw [this, e]; rfl
end Go.Proofs.YtllkkfeechojoaaDoor
