/- A disk as it is made lies in memory as DiskIn says; disk.New. -/
import Derived.Test.YtabpfneihihmaaaDoorWrite
import Derived.Test.YtabpfneihihmaaaDoorNew
namespace Go.Proofs.YtabpfneihihmaaaDoor
open Go.RowKit Go.Maps
/-- A disk as it is made of sectors. -/
def freshS (xs : List ByteArray) : DiskS := ⟨xs, [], xs, fun _ => []⟩
theorem map_empty {w : World} {m : Nat} (h : w.heap[m]? = some (.map #[] 0)) : w.ownsMap Tryd.prog 3 selfElem m 0 (.map []) :=
  ⟨#[], 0, h, ⟨by simp, MapKept.stamped_empty 0, by simp⟩, Nat.le_refl _, rfl⟩
theorem fresh_disk {w0 w : World} {p : Nat} {xs : List ByteArray} {ad : Addr} {c : Nat} (h : Fresh w0 w p (strs xs) (.slice (some ad) (strs xs).length c)) (hpos : 0 < xs.length) (hmost : xs.length ≤ 4096) (had : ad.block < w0.heap.size)
    (hx : ∀ j u, (strs xs)[j]? = some u → w0.cell? (ad.add j) = some u) : ∃ d, DiskIn w d (freshS xs) ∧ d.p = p ∧ d.fv.ownBlock = some ad.block ∧ (∀ i, d.foot (freshS xs).waits i → w0.heap.size ≤ i) ∧ Below w0.heap.size w0 w := by
  obtain ⟨⟨g, cap, m, f1, f2, f3, f4⟩, fn, fb⟩ := h
  have hl : (strs xs).length = xs.length := by simp
  rw [hl] at f1 f4
  have hg := (f4.lt g rfl).1
  have hfoot : ∀ i, (DL.foot ⟨p, .slice (some ad) xs.length c, .slice none 0 0, ⟨g, cap, m, .map [], fun _ => 0, fun _ => 0⟩⟩ (freshS xs).waits i) → w0.heap.size ≤ i := by
    rintro i (e | e | e | e | ⟨n, hn, e⟩)
    · have e' : i = p := e; omega
    · simp [Value.ownBlock] at e
    · have e' : i = g := e; omega
    · have e' : i = m := e; omega
    · simp [freshS] at hn
  refine ⟨⟨p, .slice (some ad) xs.length c, .slice none 0 0, ⟨g, cap, m, .map [], fun _ => 0, fun _ => 0⟩⟩, ⟨f1, World.ownsRow_nil _ _ _ _, ?_, ?_, rfl⟩, rfl, rfl, hfoot, fb⟩
  · exact ⟨f4.mono (Nat.zero_le _), map_empty f3, fun _ _ => rfl, fun n hn => by simp [freshS] at hn, fun n hn => by simp [freshS] at hn, fun n hn => by simp [freshS] at hn, fun n hn => by simp [freshS] at hn, fun n n' hn => by simp [freshS] at hn, fun n => Nat.le_refl _, fun n hn => by simp [freshS] at hn, hpos, hmost⟩
  · refine ⟨ad, c, rfl, fun j s hj => ?_, fun hf => by have := hfoot _ hf; omega⟩
    have h0 := hx j (.string s) (by simpa [freshS] using hj)
    rw [fb.cell (by rw [add_block]; exact had)]
    exact h0
theorem strs_replicate (n : Nat) (s : ByteArray) : strs (List.replicate n s) = List.replicate n (Value.string s) := by simp [strs]
set_option maxRecDepth 100000 in
set_option maxHeartbeats 1000000 in
theorem new_disk (n : Nat) (h1 : 1 ≤ n) (hn : n ≤ 4096) (w : World) :
    Calls Tryd.prog 4 #[.int .i64 n] w fun e w' => ∃ d, e = .returned (.tuple #[.pointer (some ⟨d.p, 0, none⟩), .int .i64 0]) ∧ DiskIn w' d (freshS (List.replicate n blankS)) ∧ (∀ i, d.foot (freshS (List.replicate n blankS)).waits i → w.heap.size ≤ i) ∧ (∀ i, d.fv.ownBlock = some i → w.heap.size ≤ i) ∧ Below w.heap.size w w' := by
  have hd : decide (1 ≤ (n : Int) ∧ (n : Int) ≤ 4096) = true := decide_eq_true ⟨by omega, by omega⟩
  have HD := hid hd
  clear hd
  go_enter Tryd.func4, Tryd.ntmps4
  go_wp2_with fail
  refine (isSize_any _ _).mono ?_
  rintro e w9 ⟨rfl, h9⟩
  obtain rfl := h9.symm
  rw [HD.out]
  go_wp2_with fail
  refine (Tryd.strings_Repeat ⟨#[0]⟩ 512 _ (by omega) (by decide)).mono ?_
  rintro e w1 ⟨rfl, hB1⟩
  have HB1 := hid hB1
  clear hB1
  go_wp2_with fail
  refine (repeat_one blankS w1.heap.size n h1 hn _ (by rw [cell_of_block (block_new w1 _)]; rfl)).mono ?_
  rintro e w2 ⟨rfl, hb2, hB2⟩
  have hz : (w1.alloc (.cells #[.string ⟨(Lib.repeatL [0] 512).toArray⟩] 39)).heap.size = w1.heap.size + 1 := by simp
  rw [hz] at hb2
  have HBa := hid ((HB1.out.alloc HB1.out.size (.cells #[.string ⟨(Lib.repeatL [0] 512).toArray⟩] 39)).trans (hB2.mono (HB1.out.alloc HB1.out.size _).size))
  have Hb2 := hid hb2
  have hl : (List.replicate n (Value.string blankS)).length = n := by simp
  have hx : ∀ j u, (List.replicate n (Value.string blankS))[j]? = some u → w2.cell? ((⟨w1.heap.size + 1, 0, none⟩ : Addr).add j) = some u := fun j u hu => by rw [Addr.add_mid, Nat.zero_add, cell_of_block Hb2.out, List.getElem?_toArray]; exact hu
  have HX := hid hx
  have hmade := made_any (List.replicate n (Value.string blankS)) ⟨w1.heap.size + 1, 0, none⟩ n (by rw [hl]; omega) (by rw [hl]; exact hn) (by intro u hu; rw [List.eq_of_mem_replicate hu]; rfl) w2 HX.out
  rw [hl] at hmade
  have HMade := hid hmade
  have HL := hid hl
  clear hB2 hb2 hmade hl hz hx
  go_wp2_with fail
  refine HMade.out.mono ?_
  rintro e w3 ⟨p, rfl, hF⟩
  have HF := hid hF
  clear hF HMade
  go_wp2
  go_returns
  have hz1 := HBa.out.size
  have hz2 := HB1.out.size
  have hlt := lt_of_heap Hb2.out
  obtain ⟨d, e1, e2, e3, e4, e5⟩ := fresh_disk (w0 := w2) (w := w3) (p := p) (xs := List.replicate n blankS) (ad := ⟨w1.heap.size + 1, 0, none⟩) (c := n) (by
    have := HF.out
    rw [strs_replicate, HL.out]; exact this) (by simp; omega) (by simp; omega) hlt (by rw [strs_replicate]; exact HX.out)
  refine ⟨d, by rw [e2]; rfl, e1, fun i hi => Nat.le_trans hz1 (e4 i hi), fun i hi => ?_, HBa.out.trans (e5.mono hz1)⟩
  rw [e3] at hi
  have := Option.some.inj hi
  simp at this; omega
end Go.Proofs.YtabpfneihihmaaaDoor
