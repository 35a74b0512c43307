/- The reference: header. WRITTEN by mk_vhead.py. -/
import Derived.Test.YtdfnhgkabaikaaaVRefC
import Derived.Test.YtdfnhgkabaikaaaTTar
namespace Go.Proofs.Ytdfnhgkabaikaaa
open Go.RowKit
/-- The entry's box and the header under way. -/
structure HdS (w0 w : World) (g : Nat) (E : Array Value) (L : List UInt8) : Prop where
  below : Below w0.heap.size w0 w
  eb : w.heap[w0.heap.size]? = some (.cells E 31 (0, 0))
  blk : blkB w g L
  gp : w0.heap.size < g
  len : L.length = 512
theorem HdS.up {w0 w w' : World} {g : Nat} {E : Array Value} {L : List UInt8} (h : HdS w0 w g E L) (hB : Below w.heap.size w w') : HdS w0 w' g E L :=
  ⟨h.below.trans (hB.mono h.below.size), (hB.block _ (lt_of_heap h.eb)).trans h.eb, below_block hB h.blk (lt_of_heap h.blk), h.gp, h.len⟩
theorem HdS.put {w0 w w' : World} {g : Nat} {E : Array Value} {L L' : List UInt8} (h : HdS w0 w g E L) (hg : w.grownBy w' (some g)) (hb : blkB w' g L') (hl : L'.length = 512) : HdS w0 w' g E L' :=
  ⟨⟨hg.os.trans h.below.os, hg.tape.trans h.below.tape, hg.output.trans h.below.output, Nat.le_trans h.below.size hg.size, fun k hk => (hg.block k (Nat.lt_of_lt_of_le hk h.below.size) (fun e => by have := h.gp; injection e with e; omega)).trans (h.below.block k hk)⟩,
    (hg.block _ (lt_of_heap h.eb) (fun e => by have := h.gp; injection e with e; omega)).trans h.eb, hb, h.gp, hl⟩
theorem HdS.rd {w0 w : World} {g : Nat} {E : Array Value} {L : List UInt8} (h : HdS w0 w g E L) : Rd w (.slice (some ⟨g, 0, none⟩) 512 512) L := by
  have := rd_blk h.blk (by rw [h.len]; omega)
  rw [h.len] at this
  exact this
/-- put on the header. -/
theorem HdS.fput {w0 w : World} {g : Nat} {E : Array Value} {L : List UInt8} (h : HdS w0 w g E L) (a : Nat) (s : List UInt8) (ha : a + s.length ≤ 512) :
    Calls Try.prog 33 #[.slice (some ⟨g, 0, none⟩) 512 512, .int .i64 (a : Nat), str s] w fun e w' => (∃ v, e = .returned v) ∧ ∃ L', L' = wrt L a s ∧ HdS w0 w' g E L' := by
  refine (fput_any g 512 a L s w h.blk h.len ha (by omega)).mono ?_
  rintro e w' ⟨hv, hb, hg, -⟩
  exact ⟨hv, _, rfl, h.put hg hb (by rw [length_wrt (by rw [h.len]; exact ha), h.len])⟩
/-- octal beside the header, as a text. -/
theorem HdS.oct8 {w0 w : World} {g : Nat} {E : Array Value} {L : List UInt8} (h : HdS w0 w g E L) (n : Nat) (hn : n ≤ 8589934592) :
    Calls Try.prog 34 #[.int .i64 (n : Nat), .int .i64 8] w fun e w' => (∃ v, e = .returned v ∧ ∃ a l c, v = .slice a l c ∧ (convert 23 9 (.slice a l c)).run Try.prog w' = .ok (str (oct n 7 ++ [0])) w') ∧ HdS w0 w' g E L := by
  refine (show Calls Try.prog 34 #[.int .i64 (n : Nat), .int .i64 8] w _ from foctal_any 7 n w (by omega) (by omega) hn).mono ?_
  rintro e w' ⟨rfl, hB, hb⟩
  have hr := rd_blk hb (by rw [octN]; omega)
  rw [octN] at hr
  exact ⟨⟨_, rfl, _, _, _, rfl, run_str hr⟩, h.up hB⟩
theorem HdS.oct12 {w0 w : World} {g : Nat} {E : Array Value} {L : List UInt8} (h : HdS w0 w g E L) (n : Nat) (hn : n ≤ 8589934592) :
    Calls Try.prog 34 #[.int .i64 (n : Nat), .int .i64 12] w fun e w' => (∃ v, e = .returned v ∧ ∃ a l c, v = .slice a l c ∧ (convert 23 9 (.slice a l c)).run Try.prog w' = .ok (str (oct n 11 ++ [0])) w') ∧ HdS w0 w' g E L := by
  refine (show Calls Try.prog 34 #[.int .i64 (n : Nat), .int .i64 12] w _ from foctal_any 11 n w (by omega) (by omega) hn).mono ?_
  rintro e w' ⟨rfl, hB, hb⟩
  have hr := rd_blk hb (by rw [octN]; omega)
  rw [octN] at hr
  exact ⟨⟨_, rfl, _, _, _, rfl, run_str hr⟩, h.up hB⟩
/-- The reference's writes, the last one first, without the sum. -/
def wsR (kd : Int) (md : Nat) (lk : List UInt8) (n : Nat) (p r : List UInt8) : List (Nat × List UInt8) :=
  [(337, z8), (329, z8), (257, signB), (157, lk), (156, [typeP kd]), (136, z12), (124, oct n 11 ++ [0]), (116, z8), (108, z8), (100, oct md 7 ++ [0]), (0, r), (345, p)]
theorem fitsR {md n : Nat} {kd : Int} {lk p r : List UInt8} (hr : r.length ≤ 100) (hp : p.length ≤ 155) (hk : lk.length ≤ 100) : fits 512 (wsR kd md lk n p r) := by
  have hs : signB.length = 8 := rfl
  simp only [wsR, fits, octN, hs, List.length_singleton, and_true]
  omega
/-- A header is its fields. -/
theorem hd_eq {W : List UInt8} (h : W.length = 512) : W = fld W 0 100 ++ (fld W 100 8 ++ (fld W 108 8 ++ (fld W 116 8 ++ (fld W 124 12 ++ (fld W 136 12 ++ (fld W 148 8 ++ (fld W 156 1 ++ (fld W 157 100 ++ (fld W 257 8 ++ (fld W 265 32 ++ (fld W 297 32 ++ (fld W 329 8 ++ (fld W 337 8 ++ (fld W 345 155 ++ fld W 500 12)))))))))))))) := by
  have st : ∀ o n, W.drop o = fld W o n ++ W.drop (o + n) := fun o n => by
    unfold fld
    rw [← List.drop_drop, List.take_append_drop]
  have e0 : W = W.drop 0 := rfl
  have e16 : W.drop 500 = fld W 500 12 := by
    rw [st 500 12, List.drop_of_length_le (by omega), List.append_nil]
  conv => lhs; rw [e0, st 0 100, st (0 + 100) 8, st (0 + 100 + 8) 8, st (0 + 100 + 8 + 8) 8, st (0 + 100 + 8 + 8 + 8) 12, st (0 + 100 + 8 + 8 + 8 + 12) 12, st (0 + 100 + 8 + 8 + 8 + 12 + 12) 8, st (0 + 100 + 8 + 8 + 8 + 12 + 12 + 8) 1, st (0 + 100 + 8 + 8 + 8 + 12 + 12 + 8 + 1) 100, st (0 + 100 + 8 + 8 + 8 + 12 + 12 + 8 + 1 + 100) 8, st (0 + 100 + 8 + 8 + 8 + 12 + 12 + 8 + 1 + 100 + 8) 32, st (0 + 100 + 8 + 8 + 8 + 12 + 12 + 8 + 1 + 100 + 8 + 32) 32, st (0 + 100 + 8 + 8 + 8 + 12 + 12 + 8 + 1 + 100 + 8 + 32 + 32) 8, st (0 + 100 + 8 + 8 + 8 + 12 + 12 + 8 + 1 + 100 + 8 + 32 + 32 + 8) 8, st (0 + 100 + 8 + 8 + 8 + 12 + 12 + 8 + 1 + 100 + 8 + 32 + 32 + 8 + 8) 155]
  rw [show 0 + 100 + 8 + 8 + 8 + 12 + 12 + 8 + 1 + 100 + 8 + 32 + 32 + 8 + 8 + 155 = 500 from rfl, e16]
/-- The fields of a header. -/
structure Hd16 (W : List UInt8) (e : EN) (p r : List UInt8) (s : Nat) : Prop where
  f0 : fld W 0 100 = r ++ List.replicate (100 - r.length) 0
  f100 : fld W 100 8 = oct e.mode.toNat 7 ++ [0]
  f108 : fld W 108 8 = z8
  f116 : fld W 116 8 = z8
  f124 : fld W 124 12 = oct e.data.length 11 ++ [0]
  f136 : fld W 136 12 = z12
  f148 : fld W 148 8 = oct s 7 ++ [0]
  f156 : fld W 156 1 = [typeP e.kind]
  f157 : fld W 157 100 = e.link ++ List.replicate (100 - e.link.length) 0
  f257 : fld W 257 8 = signB
  f265 : fld W 265 32 = List.replicate 32 0
  f297 : fld W 297 32 = List.replicate 32 0
  f329 : fld W 329 8 = z8
  f337 : fld W 337 8 = z8
  f345 : fld W 345 155 = p ++ List.replicate (155 - p.length) 0
  f500 : fld W 500 12 = List.replicate 12 0
theorem Hd16.eq {W W' : List UInt8} {e : EN} {p r : List UInt8} {s : Nat} (h : Hd16 W e p r s) (h' : Hd16 W' e p r s) (hl : W.length = 512) (hl' : W'.length = 512) : W = W' := by
  rw [hd_eq hl, hd_eq hl', h.f0, h.f100, h.f108, h.f116, h.f124, h.f136, h.f148, h.f156, h.f157, h.f257, h.f265, h.f297, h.f329, h.f337, h.f345, h.f500, h'.f0, h'.f100, h'.f108, h'.f116, h'.f124, h'.f136, h'.f148, h'.f156, h'.f157, h'.f257, h'.f265, h'.f297, h'.f329, h'.f337, h'.f345, h'.f500]
theorem Hd16.of {W : List UInt8} {e : EN} {p r : List UInt8} {s : Nat} (h : HdF W 0 e p r s) : Hd16 (W.take 512) e p r s := by
  have ht : ∀ a n, a + n ≤ 512 → fld (W.take 512) a n = fld W (0 + a) n := fun a n h => fld_fld (L := W) (o := 0) (n := 512) h
  exact ⟨(ht 0 100 (by omega)).trans h.f0, (ht 100 8 (by omega)).trans h.f100, (ht 108 8 (by omega)).trans h.f108, (ht 116 8 (by omega)).trans h.f116, (ht 124 12 (by omega)).trans h.f124, (ht 136 12 (by omega)).trans h.f136, (ht 148 8 (by omega)).trans h.f148, (ht 156 1 (by omega)).trans h.f156, (ht 157 100 (by omega)).trans h.f157, (ht 257 8 (by omega)).trans h.f257, (ht 265 32 (by omega)).trans h.f265, (ht 297 32 (by omega)).trans h.f297, (ht 329 8 (by omega)).trans h.f329, (ht 337 8 (by omega)).trans h.f337, (ht 345 155 (by omega)).trans h.f345, (ht 500 12 (by omega)).trans h.f500⟩
set_option maxHeartbeats 4000000 in
set_option linter.unusedSimpArgs false in
/-- The fields of the reference's header. -/
theorem hd16_of {Z : List UInt8} {e : EN} {p r : List UInt8} {s : Nat} (hL : Z.length = 512) (hz : ∀ a n, a + n ≤ 512 → fld Z a n = List.replicate n 0) (hr : r.length ≤ 100) (hp : p.length ≤ 155) (hk : e.link.length ≤ 100) :
    Hd16 (ap Z ((148, oct s 7 ++ [0]) :: wsR e.kind e.mode.toNat e.link e.data.length p r)) e p r s := by
  have hs : signB.length = 8 := rfl
  have hf : fits 512 ((148, oct s 7 ++ [0]) :: wsR e.kind e.mode.toNat e.link e.data.length p r) := ⟨by rw [octN]; omega, fitsR hr hp hk⟩
  unfold wsR at hf ⊢
  constructor
  · iterate 11 refine (fld_skip hL (by simp only [fits, octN, hs, List.length_singleton, and_true]; omega) (by (try simp only [octN, hs, List.length_singleton]); omega)).trans ?_
    refine (fld_top hL (by simp only [fits, octN, hs, List.length_singleton, and_true]; omega) hr).trans ?_
    congr 1
    iterate 1 refine (fld_skip hL (by simp only [fits, octN, hs, List.length_singleton, and_true]; omega) (by (try simp only [octN, hs, List.length_singleton]); omega)).trans ?_
    exact hz _ _ (by omega)
  · iterate 10 refine (fld_skip hL (by simp only [fits, octN, hs, List.length_singleton, and_true]; omega) (by (try simp only [octN, hs, List.length_singleton]); omega)).trans ?_
    exact fld_top0 hL (by simp only [fits, octN, hs, List.length_singleton, and_true]; omega) (by first | rfl | rw [octN])
  · iterate 9 refine (fld_skip hL (by simp only [fits, octN, hs, List.length_singleton, and_true]; omega) (by (try simp only [octN, hs, List.length_singleton]); omega)).trans ?_
    exact fld_top0 hL (by simp only [fits, octN, hs, List.length_singleton, and_true]; omega) (by first | rfl | rw [octN])
  · iterate 8 refine (fld_skip hL (by simp only [fits, octN, hs, List.length_singleton, and_true]; omega) (by (try simp only [octN, hs, List.length_singleton]); omega)).trans ?_
    exact fld_top0 hL (by simp only [fits, octN, hs, List.length_singleton, and_true]; omega) (by first | rfl | rw [octN])
  · iterate 7 refine (fld_skip hL (by simp only [fits, octN, hs, List.length_singleton, and_true]; omega) (by (try simp only [octN, hs, List.length_singleton]); omega)).trans ?_
    exact fld_top0 hL (by simp only [fits, octN, hs, List.length_singleton, and_true]; omega) (by first | rfl | rw [octN])
  · iterate 6 refine (fld_skip hL (by simp only [fits, octN, hs, List.length_singleton, and_true]; omega) (by (try simp only [octN, hs, List.length_singleton]); omega)).trans ?_
    exact fld_top0 hL (by simp only [fits, octN, hs, List.length_singleton, and_true]; omega) (by first | rfl | rw [octN])
  · exact fld_top0 hL (by simp only [fits, octN, hs, List.length_singleton, and_true]; omega) (by first | rfl | rw [octN])
  · iterate 5 refine (fld_skip hL (by simp only [fits, octN, hs, List.length_singleton, and_true]; omega) (by (try simp only [octN, hs, List.length_singleton]); omega)).trans ?_
    exact fld_top0 hL (by simp only [fits, octN, hs, List.length_singleton, and_true]; omega) (by first | rfl | rw [octN])
  · iterate 4 refine (fld_skip hL (by simp only [fits, octN, hs, List.length_singleton, and_true]; omega) (by (try simp only [octN, hs, List.length_singleton]); omega)).trans ?_
    refine (fld_top hL (by simp only [fits, octN, hs, List.length_singleton, and_true]; omega) hk).trans ?_
    congr 1
    iterate 8 refine (fld_skip hL (by simp only [fits, octN, hs, List.length_singleton, and_true]; omega) (by (try simp only [octN, hs, List.length_singleton]); omega)).trans ?_
    exact hz _ _ (by omega)
  · iterate 3 refine (fld_skip hL (by simp only [fits, octN, hs, List.length_singleton, and_true]; omega) (by (try simp only [octN, hs, List.length_singleton]); omega)).trans ?_
    exact fld_top0 hL (by simp only [fits, octN, hs, List.length_singleton, and_true]; omega) (by first | rfl | rw [octN])
  · iterate 13 refine (fld_skip hL (by simp only [fits, octN, hs, List.length_singleton, and_true]; omega) (by (try simp only [octN, hs, List.length_singleton]); omega)).trans ?_
    exact hz _ _ (by omega)
  · iterate 13 refine (fld_skip hL (by simp only [fits, octN, hs, List.length_singleton, and_true]; omega) (by (try simp only [octN, hs, List.length_singleton]); omega)).trans ?_
    exact hz _ _ (by omega)
  · iterate 2 refine (fld_skip hL (by simp only [fits, octN, hs, List.length_singleton, and_true]; omega) (by (try simp only [octN, hs, List.length_singleton]); omega)).trans ?_
    exact fld_top0 hL (by simp only [fits, octN, hs, List.length_singleton, and_true]; omega) (by first | rfl | rw [octN])
  · iterate 1 refine (fld_skip hL (by simp only [fits, octN, hs, List.length_singleton, and_true]; omega) (by (try simp only [octN, hs, List.length_singleton]); omega)).trans ?_
    exact fld_top0 hL (by simp only [fits, octN, hs, List.length_singleton, and_true]; omega) (by first | rfl | rw [octN])
  · iterate 12 refine (fld_skip hL (by simp only [fits, octN, hs, List.length_singleton, and_true]; omega) (by (try simp only [octN, hs, List.length_singleton]); omega)).trans ?_
    refine (fld_top hL (by simp only [fits, octN, hs, List.length_singleton, and_true]; omega) hp).trans ?_
    congr 1
    exact hz _ _ (by omega)
  · iterate 13 refine (fld_skip hL (by simp only [fits, octN, hs, List.length_singleton, and_true]; omega) (by (try simp only [octN, hs, List.length_singleton]); omega)).trans ?_
    exact hz _ _ (by omega)
end Go.Proofs.Ytdfnhgkabaikaaa
