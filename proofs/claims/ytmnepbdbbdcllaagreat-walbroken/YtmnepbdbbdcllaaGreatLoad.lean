/- disk.Load, disk.Disk.Ops, disk.Disk.Sectors. -/
import Derived.Test.YtmnepbdbbdcllaaGreatBaseA
namespace Go.Proofs.YtmnepbdbbdcllaaGreat
open Go.RowKit Go.Maps
/-- Sectors of rows of bytes. -/
def secsOf (L : List (List UInt8)) : List ByteArray := L.map (fun l => ⟨l.toArray⟩)
theorem length_secsOf (L : List (List UInt8)) : (secsOf L).length = L.length := by simp [secsOf]
/-- The first k sectors have been laid. -/
def secsTo (w : World) (g : Nat) (L : List ByteArray) (k : Nat) (vs : List Value) : Prop := vs.length = L.length ∧ w.heap[g]? = some (.cells vs.toArray 90 (0, 0)) ∧ ∀ i (h : i < L.length), i < k → vs[i]? = some (.string L[i])
theorem secsTo_step {w : World} {g : Nat} {L : List ByteArray} {k : Nat} {vs : List Value} (h : secsTo w g L k vs) (hk : k < L.length) : secsTo (w.setCell ⟨g, k, none⟩ (.string L[k])) g L (k + 1) (vs.set k (.string L[k])) := by
  obtain ⟨h1, h2, h3⟩ := h
  refine ⟨by simpa using h1, ?_, fun i hi hik => ?_⟩
  · have := block_setCell h2 k (.string L[k])
    rwa [List.setIfInBounds_toArray] at this
  · by_cases e : i = k
    · subst e; rw [List.getElem?_set_self (by omega)]
    · rw [List.getElem?_set_ne (by omega)]; exact h3 i hi (by omega)
theorem secsTo_end {w : World} {g : Nat} {L : List ByteArray} {vs : List Value} (h : secsTo w g L L.length vs) : w.heap[g]? = some (.cells (strs L).toArray 90 (0, 0)) := by
  obtain ⟨h1, h2, h3⟩ := h
  have e : vs = strs L := by
    apply List.ext_getElem?
    intro i
    by_cases hi : i < L.length
    · rw [h3 i hi hi]; simp [strs, hi]
    · rw [List.getElem?_eq_none (by omega), List.getElem?_eq_none (by simp; omega)]
  rw [← e]; exact h2
set_option maxRecDepth 100000 in
set_option maxHeartbeats 2000000 in
theorem load_disk (L : List (List UInt8)) (a : Option Addr) (c : Nat) (w : World) (h : rowsAt w a L) (hL : L.length ≤ 4611686018427387904) :
    Calls Tryz.prog 24 #[.slice a L.length c] w fun e w' => Below w.heap.size w w' ∧
      ((¬ (1 ≤ L.length ∧ L.length ≤ 4096) ∧ e = .returned (.tuple #[.pointer none, .int .i64 2])) ∨
       ((1 ≤ L.length ∧ L.length ≤ 4096) ∧ ¬ (∀ l ∈ L, l.length = 512) ∧ e = .returned (.tuple #[.pointer none, .int .i64 3])) ∨
       ((1 ≤ L.length ∧ L.length ≤ 4096) ∧ (∀ l ∈ L, l.length = 512) ∧ ∃ d, e = .returned (.tuple #[.pointer (some ⟨d.p, 0, none⟩), .int .i64 0]) ∧ DiskIn w' d (freshS (secsOf L)) ∧
         (∀ i, d.foot (freshS (secsOf L)).waits i → w.heap.size ≤ i) ∧ (∀ i, d.fv.ownBlock = some i → w.heap.size ≤ i))) := by
  have H := hid h
  clear h
  go_enter Tryz.func24, Tryz.ntmps24
  go_wp2_with fail
  refine (isSize_any _ _).mono ?_
  rintro e w9 ⟨rfl, h9⟩
  obtain rfl := h9.symm
  by_cases hn : 1 ≤ L.length ∧ L.length ≤ 4096
  · rw [decide_eq_true (show 1 ≤ (L.length : Int) ∧ (L.length : Int) ≤ 4096 from ⟨by omega, by omega⟩)]
    have hm := hn.2
    go_wp2_with (refine wpList_make_secs rfl (.tmp 12) (.tmp 12) rfl L.length rfl rfl hm ?_; intro w1 hB1 hb1 hz1; have HB1 := hid hB1; have Hb1 := hid hb1; clear hB1 hb1 hz1)
    go_loopw [16] (fun i wr => ∃ (k : Nat) (vs : List Value), k ≤ L.length ∧ i = .int .i64 k ∧ Hid (secsTo wr w.heap.size (secsOf L) k vs) ∧ Hid (∀ j (hj : j < L.length), j < k → L[j].length = 512) ∧ Hid (Below w.heap.size w wr)) (fun i _ => L.length - (intOf i).toNat)
    case atStart => exact ⟨0, _, by omega, rfl, ⟨by simp [secsOf], Hb1.out, fun i hi hik => by omega⟩, fun j hj h => by omega, HB1.out⟩
    case round =>
      obtain ⟨k, vs, hk, rfl, hR, hG, hB⟩ := hrel
      by_cases hlt : k < L.length
      · have hi0 : (0 : Int) ≤ (k : Int) := by omega
        have hi1 : (k : Int) < (L.length : Int) := by omega
        obtain ⟨b, o, rfl, hc⟩ := H.out k hlt
        obtain ⟨a', c', hcell, hby⟩ := hc k hlt
        have ck : wr.cell? ⟨b, o + k, none⟩ = some (.slice a' L[k].length c') := (hB.out.cell (p := ⟨b, o + k, none⟩) (World.block_lt_of_cell? w _ hcell)).trans hcell
        have hby' := hby.below hB.out
        by_cases h5 : L[k].length = 512
        · obtain ⟨b', o', rfl, hbb⟩ := hby' 0 (by omega)
          have hcv := run_convert_bytes_back (P := Tryz.prog) wr 37 90 5 ⟨b', o', none⟩ c' L[k] Tryz.underlying37 Tryz.underlying5 Tryz.underlying90 (fun j hj => by rw [Addr.add_mid]; exact hbb j hj)
          have hks : k < (secsOf L).length := by rw [length_secsOf]; exact hlt
          have es : (⟨L[k].toArray⟩ : ByteArray) = (secsOf L)[k] := by simp [secsOf]
          rw [h5, es] at hcv
          rw [h5] at ck
          obtain ⟨vo, cg⟩ : ∃ vo, wr.cell? ⟨w.heap.size, k, none⟩ = some vo := ⟨vs[k]'(by rw [hR.out.1]; exact hks), by rw [cell_of_block hR.out.2.1, List.getElem?_toArray]; exact List.getElem?_eq_getElem _⟩
          have fg : wr.frozen? ⟨w.heap.size, k, none⟩ = false := frozen_of_block hR.out.2.1 _
          have HStep := hid (secsTo_step hR.out hks)
          have HG2 : Hid (∀ j (hj : j < L.length), j < k + 1 → L[j].length = 512) := fun j hj hjk => by
            rcases Nat.lt_or_ge j k with h1 | h1
            · exact hG.out j hj h1
            · obtain rfl : j = k := by omega
              exact h5
          generalize (secsOf L)[k] = s at *
          clear hby' hbb hby hc hcell es h5 hR hG
          go_wp2
          exact ⟨⟨k + 1, _, by omega, by go_num, HStep.out, HG2.out, hB.out.setCell (Nat.le_refl _) _⟩, by simp [intOf]; omega⟩
        · have h5' : ¬ ((L[k].length : Int) = 512) := by omega
          have HNo : Hid (¬ ∀ l ∈ L, l.length = 512) := fun hall => h5 (hall _ (List.getElem_mem hlt))
          generalize L[k].length = m at *
          clear hby' hby hc hcell h5 hR hG
          go_wp2
          go_returns
          exact ⟨hB.out, .inr (.inl ⟨hn, HNo.out, rfl⟩)⟩
      · obtain rfl : k = L.length := by omega
        have hge : ¬ ((L.length : Int) < (L.length : Int)) := by omega
        have hlc : (strs (secsOf L)).length = L.length := by simp [secsOf]
        have hRe := hR.out
        rw [← length_secsOf L] at hRe
        have HX := hid (secsTo_end hRe)
        have hx : ∀ j u, (strs (secsOf L))[j]? = some u → wr.cell? ((⟨w.heap.size, 0, none⟩ : Addr).add j) = some u := fun j u hu => by rw [Addr.add_mid, Nat.zero_add, cell_of_block HX.out, List.getElem?_toArray]; exact hu
        have HXX := hid hx
        have hmade := made_any (strs (secsOf L)) ⟨w.heap.size, 0, none⟩ L.length (by rw [hlc]; omega) (by rw [hlc]; exact hm) (strs_one _) wr hx
        have HLC := hid hlc
        rw [hlc] at hmade
        have HMade := hid hmade
        have HAll : Hid (∀ l ∈ L, l.length = 512) := fun l hl => by
          obtain ⟨j, hj, rfl⟩ := List.getElem_of_mem hl
          exact hG.out j hj hj
        clear hmade hlc hx hRe hR hG
        go_wp2_with fail
        refine HMade.out.mono ?_
        clear HMade
        rintro e w3 ⟨p, rfl, hFr⟩
        have HFr := hid hFr
        clear hFr
        go_wp2
        go_returns
        have hz2 := hB.out.size
        obtain ⟨d', e1, e2, e3, e4, e5⟩ := fresh_disk (w0 := wr) (w := w3) (p := p) (xs := secsOf L) (ad := ⟨w.heap.size, 0, none⟩) (c := L.length) (by rw [HLC.out]; exact HFr.out) (by rw [length_secsOf]; omega) (by rw [length_secsOf]; exact hm) (lt_of_heap HX.out) HXX.out
        refine ⟨hB.out.trans (e5.mono hz2), .inr (.inr ⟨hn, HAll.out, d', by rw [e2]; rfl, e1, fun i hi => ?_, fun i hi => ?_⟩)⟩
        · have := e4 i hi; omega
        · rw [e3] at hi
          have := Option.some.inj hi
          simp at this; omega
  · rw [decide_eq_false (show ¬ (1 ≤ (L.length : Int) ∧ (L.length : Int) ≤ 4096) from fun h => hn ⟨by omega, by omega⟩)]
    go_wp2
    go_returns
    exact ⟨Below.refl _ _, .inl ⟨hn, rfl⟩⟩
end Go.Proofs.YtmnepbdbbdcllaaGreat
