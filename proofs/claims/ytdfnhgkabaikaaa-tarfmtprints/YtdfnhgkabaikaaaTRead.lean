/- read: the entry that bytes begin with. Written by mk_tread.py. -/
import Derived.Test.YtdfnhgkabaikaaaTEntry
import Derived.Test.YtdfnhgkabaikaaaTSum
import Derived.Test.YtdfnhgkabaikaaaTApp
namespace Go.Proofs.Ytdfnhgkabaikaaa
open Go.RowKit
/-- Slices of bytes that can be read, sliced again. -/
theorem run_slice_rd {w : World} {ao : Option Addr} {n cap : Nat} {bs : List UInt8} (h : Rd w (.slice ao n cap) bs) (lo hi : Nat) (h1 : lo ≤ hi) (h2 : hi ≤ bs.length) :
    ∃ a', (∀ W, (Instr.slice 23 (.slice ao n cap) (some (.int .i64 lo)) (some (.int .i64 hi)) none).run Try.prog W = .ok (.slice a' (hi - lo) (cap - lo)) W) ∧ Rd w (.slice a' (hi - lo) (cap - lo)) ((bs.drop lo).take (hi - lo)) := by
  obtain ⟨ao', cap', e, r1, r2, r3, r4⟩ := h
  simp only [Value.slice.injEq] at e
  obtain ⟨rfl, rfl, rfl⟩ := e
  have hlen : ((bs.drop lo).take (hi - lo)).length = hi - lo := by rw [List.length_take, List.length_drop]; omega
  refine ⟨if cap = lo then ao else ao.map (fun a => a.add lo), fun W => ?_, ?_⟩
  · have q1 : (0 : Int) ≤ (lo : Int) := by omega
    have q2 : (lo : Int) ≤ (hi : Int) := by omega
    have q3 : (0 : Int) ≤ (hi : Int) := by omega
    have q4 : (hi : Int) ≤ (cap : Int) := by omega
    simp [Instr.slice, Instr.sliceBounds, go_sem, q1, q3, q4]
    intro h; omega
  · refine ⟨_, _, by rw [hlen], by rw [hlen]; omega, by omega, ?_, ?_⟩
    · intro hn
      by_cases hc : cap = lo
      · omega
      · rw [if_neg hc] at hn
        cases ao with
        | none => have := r3 rfl; omega
        | some a => simp at hn
    · intro ad ha j x hj
      have hjl := (List.getElem?_eq_some_iff.1 hj).1
      rw [hlen] at hjl
      rw [if_neg (by omega)] at ha
      cases ao with
      | none => simp at ha
      | some a =>
        simp only [Option.map_some, Option.some.injEq] at ha
        rw [List.getElem?_take_of_lt hjl, List.getElem?_drop] at hj
        obtain ⟨b, o, rfl, hb, hc⟩ := r4 a rfl (lo + j) x hj
        rw [Addr.add_mid] at ha
        exact ⟨b, o + lo, ha.symm, hb, by rw [Nat.add_assoc]; exact hc⟩
theorem run_slice_from {w : World} {ao : Option Addr} {n cap : Nat} {bs : List UInt8} (h : Rd w (.slice ao n cap) bs) (lo : Nat) (h1 : lo ≤ bs.length) :
    ∃ a', (∀ W, (Instr.slice 23 (.slice ao n cap) (some (.int .i64 lo)) none none).run Try.prog W = .ok (.slice a' (n - lo) (cap - lo)) W) ∧ Rd w (.slice a' (n - lo) (cap - lo)) (bs.drop lo) := by
  have hn : n = bs.length := by obtain ⟨ao', cap', e, _⟩ := h; simp only [Value.slice.injEq] at e; exact e.2.1
  obtain ⟨a', _, h3⟩ := run_slice_rd h lo n (by omega) (by omega)
  rw [List.take_of_length_le (by rw [List.length_drop]; omega)] at h3
  obtain ⟨ao', cap', e, r1, r2, r3, r4⟩ := h
  simp only [Value.slice.injEq] at e
  obtain ⟨rfl, rfl, rfl⟩ := e
  have hlen : (bs.drop lo).length = bs.length - lo := by rw [List.length_drop]
  refine ⟨if cap = lo then ao else ao.map (fun a => a.add lo), fun W => ?_, ?_⟩
  · have q1 : (0 : Int) ≤ (lo : Int) := by omega
    have q2 : (lo : Int) ≤ (bs.length : Int) := by omega
    simp [Instr.slice, Instr.sliceBounds, go_sem, q1, q2]
  · refine ⟨_, _, by rw [hlen], by rw [hlen]; omega, by omega, ?_, ?_⟩
    · intro hn
      by_cases hc : cap = lo
      · omega
      · rw [if_neg hc] at hn
        cases ao with
        | none => have := r3 rfl; omega
        | some a => simp at hn
    · intro ad ha j x hj
      have hjl := (List.getElem?_eq_some_iff.1 hj).1
      rw [hlen] at hjl
      rw [if_neg (by omega)] at ha
      cases ao with
      | none => simp at ha
      | some a =>
        simp only [Option.map_some, Option.some.injEq] at ha
        rw [List.getElem?_drop] at hj
        obtain ⟨b, o, rfl, hb, hc⟩ := r4 a rfl (lo + j) x hj
        rw [Addr.add_mid] at ha
        exact ⟨b, o + lo, ha.symm, hb, by rw [Nat.add_assoc]; exact hc⟩
def zeroE : EN := ⟨[], 0, 0, [], []⟩
/-- What read tells. -/
def ReadTo (w : World) (bs : List UInt8) (e : Ending) (w' : World) : Prop :=
  Below w.heap.size w w' ∧ match readP bs with
    | none => e = .returned (.tuple #[enV zeroE (.slice none 0 0), .int .i64 0])
    | some (en, n) => ∃ dv, e = .returned (.tuple #[enV en dv, .int .i64 (n : Nat)]) ∧ DataU w' w.heap.size dv en.data
set_option maxRecDepth 100000 in
theorem results_rd {w : World} {tmps : Array Value} {g : Nat} {y0 y1 y2 y3 y4 t : Value} (h1 : tmps.getD 2 undef = .pointer (some ⟨g, 0, none⟩)) (h2 : tmps.getD 3 undef = t) (r : w.heap[g]? = some (.cells #[y0, y1, y2, y3, y4] 31 (0, 0))) :
    (results Try.f40 tmps).run Try.prog w = .ok (.tuple #[.agg #[y0, y1, y2, y3, y4], t]) w := by
  have c0 : w.cell? ⟨g, 0, none⟩ = some y0 := cell_of_block r 0
  have c1 : w.cell? ⟨g, 1, none⟩ = some y1 := cell_of_block r 1
  have c2 : w.cell? ⟨g, 2, none⟩ = some y2 := cell_of_block r 2
  have c3 : w.cell? ⟨g, 3, none⟩ = some y3 := cell_of_block r 3
  have c4 : w.cell? ⟨g, 4, none⟩ = some y4 := cell_of_block r 4
  have h1' : tmps[2]?.getD undef = .pointer (some ⟨g, 0, none⟩) := by simpa using h1
  have h2' : tmps[3]?.getD undef = t := by simpa using h2
  simp only [results, Try.results40]
  simp [go_sem, h1', h2', asAddr, c0, c1, c2, c3, c4]
theorem sizeP_lt (h : List UInt8) (hl : 136 ≤ h.length) : sizeP h < 8589934592 := by
  unfold sizeP numF numP
  have hd : (fld h 124 12).dropLast.length ≤ 11 := by rw [List.length_dropLast, length_fld h 124 12 (by omega)]; omega
  split
  · rename_i ha; exact val_small ha hd
  · decide
/-- The entry and the header under way. -/
structure RS (w0 w : World) (E H : Array Value) : Prop where
  ent : w.heap[w0.heap.size]? = some (.cells E 31 (0, 0))
  hdr : w.heap[w0.heap.size + 1]? = some (.cells H 53 (0, 0))
  below : Below w0.heap.size w0 w
theorem RS.up {w0 w w' : World} {E H : Array Value} (h : RS w0 w E H) (hB : Below w.heap.size w w') : RS w0 w' E H :=
  ⟨below_block hB h.ent (lt_of_heap h.ent), below_block hB h.hdr (lt_of_heap h.hdr), h.below.trans (hB.mono h.below.size)⟩
theorem RS.set {w0 w : World} {E H : Array Value} (h : RS w0 w E H) (i : Nat) (v : Value) : RS w0 (w.setCell ⟨w0.heap.size, i, none⟩ v) (E.setIfInBounds i v) H :=
  ⟨block_setCell h.ent i v, (block_setCell_other _ _ (by omega)).trans h.hdr, h.below.setCell (p := ⟨w0.heap.size, i, none⟩) (Nat.le_refl _) v⟩
theorem RS.store {w0 w w' : World} {E H H' : Array Value} (h : RS w0 w E H) (hg : w.grownBy w' (some (w0.heap.size + 1))) (hb : w'.heap[w0.heap.size + 1]? = some (.cells H' 53 (0, 0))) : RS w0 w' E H' :=
  ⟨grown_block hg h.ent (fun e => by injection e with e; omega), hb, h.below.grown hg h.below.size (fun k e => by injection e with e; omega)⟩
theorem RS.zero {w0 w : World} {e0 e1 e2 e3 e4 : Value} {H : Array Value} (h : RS w0 w #[e0, e1, e2, e3, e4] H) : RS w0 (((((w.setCell ⟨w0.heap.size, 0, none⟩ (.string ⟨#[]⟩)).setCell ⟨w0.heap.size, 1, none⟩ (.int .i64 0)).setCell ⟨w0.heap.size, 2, none⟩ (.int .i64 0)).setCell ⟨w0.heap.size, 3, none⟩ (.string ⟨#[]⟩)).setCell ⟨w0.heap.size, 4, none⟩ (.slice none 0 0)) #[str [], .int .i64 0, .int .i64 0, str [], .slice none 0 0] H :=
  ((((h.set 0 _).set 1 _).set 2 _).set 3 _).set 4 _
theorem RS.six {w0 w : World} {e0 e1 e2 e3 e4 : Value} {H : Array Value} (h : RS w0 w #[e0, e1, e2, e3, e4] H) : (w.cell? ⟨w0.heap.size, 0, none⟩ = some e0 ∧ w.cell? ⟨w0.heap.size, 1, none⟩ = some e1 ∧ w.cell? ⟨w0.heap.size, 2, none⟩ = some e2 ∧ w.cell? ⟨w0.heap.size, 3, none⟩ = some e3 ∧ w.cell? ⟨w0.heap.size, 4, none⟩ = some e4) ∧ ∀ i, w.frozen? ⟨w0.heap.size, i, none⟩ = false :=
  ⟨⟨cell_of_block h.ent 0, cell_of_block h.ent 1, cell_of_block h.ent 2, cell_of_block h.ent 3, cell_of_block h.ent 4⟩, fun i => frozen_of_block h.ent i⟩
set_option maxHeartbeats 8000000 in
set_option maxRecDepth 100000 in
theorem read_any (bs : List UInt8) (v : Value) (w : World) (hr : Rd w v bs) (hlen : bs.length ≤ 60000) : Calls Try.prog 40 #[v] w (ReadTo w bs) := by
  obtain ⟨n1, n2, n3, n4⟩ := new2 w (.cells #[.string ⟨#[]⟩, .int .i64 0, .int .i64 0, .string ⟨#[]⟩, .slice none 0 0] 31) (.cells nils 53)
  have HR := hid (hr.up n3)
  have HS : Hid (RS w _ #[.string ⟨#[]⟩, .int .i64 0, .int .i64 0, .string ⟨#[]⟩, .slice none 0 0] nils) := ⟨n1, n2, n3⟩
  obtain ⟨ao, cap, rfl, r1, r2, r3, r4⟩ := hr
  clear n1 n2 n3 n4
  obtain ⟨w1, hw1⟩ : ∃ w1, w1 = (w.alloc (.cells #[.string ⟨#[]⟩, .int .i64 0, .int .i64 0, .string ⟨#[]⟩, .slice none 0 0] 31)).alloc (.cells nils 53) := ⟨_, rfl⟩
  rw [← hw1] at HR HS
  by_cases h512 : bs.length < 512
  · have q1 : (bs.length : Int) < 512 := by omega
    have HP : Hid (readP bs = none) := if_pos h512
    clear r1 r2 r3 r4 h512
    go_enter Try.func40, Try.ntmps40
    go_wp2_with fail
    refine wp_scope_once 0 rfl ?_
    go_upto_region 4 with (fail)
    change Code.wp _ _ _ _ ((w.alloc (.cells #[.string ⟨#[]⟩, .int .i64 0, .int .i64 0, .string ⟨#[]⟩, .slice none 0 0] 31)).alloc (.cells nils 53))
    rw [← hw1]
    clear hw1
    obtain ⟨⟨d0, d1, d2, d3, d4⟩, dfr⟩ := HS.out.six
    have g0 := dfr 0
    have g1 := dfr 1
    have g2 := dfr 2
    have g3 := dfr 3
    have g4 := dfr 4
    clear dfr
    have HZ := hid HS.out.zero
    go_wp2
    go_step3
    refine ⟨rfl, ?_⟩
    go_wp2
    rw [Exit.noGoto_ret]
    refine bodyPost_ret (results_rd rfl rfl HZ.out.ent) rfl ⟨HZ.out.below, ?_⟩
    rw [HP.out]
    rfl
  · obtain ⟨ad, rfl⟩ : ∃ ad, ao = some ad := by
      cases ao with
      | none => have := r3 rfl; omega
      | some ad => exact ⟨ad, rfl⟩
    obtain ⟨b, o, rfl, hbw, -⟩ := r4 _ rfl 0 (bs.getD 0 0) (get_some (by omega))
    obtain ⟨c, rfl⟩ : ∃ c, cap = c + 512 := ⟨cap - 512, by omega⟩
    have hR : Rd w (.slice (some ⟨b, o, none⟩) bs.length (c + 512)) bs := ⟨_, _, rfl, r1, r2, r3, r4⟩
    have hby : byAt w b o bs := fun j hj => by
      obtain ⟨_, _, _, hc⟩ := hR.cell
      obtain ⟨b', o', e, hc⟩ := hc j hj
      simp only [Addr.mk.injEq, and_true] at e
      obtain ⟨rfl, rfl⟩ := e
      exact hc
    have hhd : byAt w b o (bs.take 512) := by have := hby.sub 0 512; unfold fld at this; simpa using this
    have HH := hid hhd
    have HHl : Hid ((bs.take 512).length = 512) := by unfold Hid; rw [List.length_take]; omega
    have q1 : ¬ ((bs.length : Int) < 512) := by omega
    have q2 : (512 : Int) ≤ (c : Int) + 512 := by omega
    have q3 : (512 : Int) ≤ (bs.length : Int) := by omega
    have HN5 := hid h512
    have HRe : Hid (readP bs = _) := if_neg h512
    obtain ⟨a2, hsl0, hr2⟩ := run_slice_from hR 512 (by omega)
    have hsl : ∀ W, (Instr.slice 23 (.slice (some ⟨b, o, none⟩) bs.length (c + 512)) (some (.int .i64 512)) none none).run Try.prog W = .ok (.slice a2 (bs.length - 512) (c + 512 - 512)) W := hsl0
    obtain ⟨rl, hrl⟩ : ∃ rl, rl = bs.length - 512 := ⟨_, rfl⟩
    rw [← hrl] at hsl hr2 HRe
    rw [Nat.add_sub_cancel] at hsl hr2
    have HRl : Hid ((bs.drop 512).length = rl) := by unfold Hid; rw [List.length_drop, hrl]
    have q4 : (rl : Int) ≤ 60000 := by omega
    have HR2 := hid hr2
    generalize hhdr : bs.take 512 = hd at *
    generalize bs.drop 512 = rest at *
    clear hby hhd r1 r2 r3 r4 h512 hhdr hr2 hR HR hsl0 hrl
    go_enter Try.func40, Try.ntmps40
    go_wp2_with fail
    refine wp_scope_once 0 rfl ?_
    go_upto_region 4 with (fail)
    change Code.wp _ _ _ _ ((w.alloc (.cells #[.string ⟨#[]⟩, .int .i64 0, .int .i64 0, .string ⟨#[]⟩, .slice none 0 0] 31)).alloc (.cells nils 53))
    rw [← hw1]
    clear hw1
    go_wp2_with fail
    refine (cut_any b o c w1).mono ?_
    rintro e w2 ⟨rfl, hB⟩
    replace HS := hid (HS.out.up hB)
    clear hB
    unfold hdV
    go_wp2_with (refine wpList_store_block rfl 53 (.tmp 4) (.tmp 13) rfl (w.heap.size + 1) (hdA b o) rfl rfl _ 53 HS.out.hdr rfl infoHd (hdA_one b o) ?_; intro w3 hg3 hb3 hs3; have HS3 := hid (HS.out.store hg3 hb3); have c6 : w3.cell? ⟨w.heap.size + 1, 6, none⟩ = some (sl b (o + 148) 8) := cell_of_block hb3 6; clear HS hg3 hb3 hs3)
    refine (sumOf_any (fld hd 148 8) b (o + 148) 8 w3 (length_fld _ _ _ (by rw [HHl.out]; omega)) (Nat.le_refl _) ((HH.out.up HS3.out.below).sub 148 8)).mono ?_
    rintro e w4 ⟨rfl, q, rfl⟩
    have HS4 := hid (HS3.out.up (below_drewN (Below.refl _ _) q))
    clear HS3 c6
    generalize w3.drewN q = w4 at *
    obtain ⟨sn, hsn⟩ : ∃ sn : Nat, sn = (sumF (fld hd 148 8)).1 := ⟨_, rfl⟩
    cases hsok : (sumF (fld hd 148 8)).2 with
    | false =>
      have HP : Hid (readP bs = none) := by unfold Hid; rw [HRe.out, if_pos (.inl hsok)]
      rw [← hsn]
      clear hsok hsn HRe
      obtain ⟨⟨d0, d1, d2, d3, d4⟩, dfr⟩ := HS4.out.six
      have g0 := dfr 0
      have g1 := dfr 1
      have g2 := dfr 2
      have g3 := dfr 3
      have g4 := dfr 4
      clear dfr
      have HZ := hid HS4.out.zero
      go_wp2
      go_step3
      refine ⟨rfl, ?_⟩
      go_wp2
      rw [Exit.noGoto_ret]
      refine bodyPost_ret (results_rd rfl rfl HZ.out.ent) rfl ⟨HZ.out.below, ?_⟩
      rw [HP.out]
      rfl
    | true =>
      rw [← hsn]
      rw [← hsn, hsok] at HRe
      clear hsok hsn
      have HSu := hid (sum_512 hd b o c w4 HHl.out (HH.out.up HS4.out.below))
      go_wp2_with fail
      refine HSu.out.mono ?_
      clear HSu
      rintro e w5 ⟨rfl, hB⟩
      have HS5 := hid (HS4.out.up hB)
      clear HS4 hB
      by_cases hsum : (sn : Int) = sumH hd
      · rw [if_neg (by rintro (h | h); cases h; exact h hsum)] at HRe
        have e1 : ((sn : Int) != sumH hd) = false := bne_eq_false_iff_eq.2 hsum
        have HSum := hid hsum
        clear hsum
        go_wp2_with (refine wpList_load_block rfl 53 (.tmp 4) rfl (w.heap.size + 1) rfl (hdA b o) 53 _ HS5.out.hdr _ Try.underlying53 rfl infoHd ?_)
        refine (isFormed_any hd b o w5 HHl.out (HH.out.up HS5.out.below)).mono ?_
        rintro e w6 ⟨rfl, hB⟩
        have HS6 := hid (HS5.out.up hB)
        clear HS5 hB
        cases hfo : formedP hd with
        | false =>
          have HP : Hid (readP bs = none) := by unfold Hid; rw [HRe.out, if_pos hfo]
          clear hfo HRe
          obtain ⟨⟨d0, d1, d2, d3, d4⟩, dfr⟩ := HS6.out.six
          have g0 := dfr 0
          have g1 := dfr 1
          have g2 := dfr 2
          have g3 := dfr 3
          have g4 := dfr 4
          clear dfr
          have HZ := hid HS6.out.zero
          go_wp2
          go_step3
          refine ⟨rfl, ?_⟩
          go_wp2
          rw [Exit.noGoto_ret]
          refine bodyPost_ret (results_rd rfl rfl HZ.out.ent) rfl ⟨HZ.out.below, ?_⟩
          rw [HP.out]
          rfl
        | true =>
          rw [if_neg (by rw [hfo]; decide)] at HRe
          clear hfo
          go_wp2_with (refine wpList_load_block rfl 53 (.tmp 4) rfl (w.heap.size + 1) rfl (hdA b o) 53 _ HS6.out.hdr _ Try.underlying53 rfl infoHd ?_)
          refine (entry_any hd b o w6 HHl.out (HH.out.up HS6.out.below)).mono ?_
          rintro e w7 ⟨rfl, hB⟩
          have HS7 := hid (HS6.out.up hB)
          clear HS6 hB
          have HSz : Hid (sizeP hd < 8589934592) := sizeP_lt hd (by rw [HHl.out]; omega)
          have HEn : Hid (∀ d, entP hd d = ⟨(entP hd []).name, (entP hd []).kind, (entP hd []).mode, (entP hd []).link, d⟩) := fun d => rfl
          generalize sizeP hd = sz at *
          generalize entP hd [] = en at *
          obtain ⟨⟨d0, d1, d2, d3, d4⟩, dfr⟩ := HS7.out.six
          have g0 := dfr 0
          have g1 := dfr 1
          have g2 := dfr 2
          have g3 := dfr 3
          have g4 := dfr 4
          have HS8 : Hid (RS w _ #[str en.name, .int .i64 en.kind, .int .i64 en.mode, str en.link, .slice none 0 0] (hdA b o)) := ((((HS7.out.set 0 (str en.name)).set 1 (.int .i64 en.kind)).set 2 (.int .i64 en.mode)).set 3 (str en.link)).set 4 (.slice none 0 0)
          clear dfr HS7
          go_upto_region 10 with (fail)
          clear d0 d1 d2 d3 d4 g0 g1 g2 g3 g4
          generalize ((((w7.setCell ⟨w.heap.size, 0, none⟩ (str en.name)).setCell ⟨w.heap.size, 1, none⟩ (.int .i64 en.kind)).setCell ⟨w.heap.size, 2, none⟩ (.int .i64 en.mode)).setCell ⟨w.heap.size, 3, none⟩ (str en.link)).setCell ⟨w.heap.size, 4, none⟩ (.slice none 0 0) = w8 at *
          go_wp2_with fail
          refine (filled_any sz w8 (by have := HSz.out; omega)).mono ?_
          rintro e w9 ⟨rfl, rfl⟩
          have HFi := hid (filled_any sz w9 (by have := HSz.out; omega))
          have HFb : Hid (sz ≤ filledN sz ∧ filledN sz ≤ sz + 511) := by unfold Hid filledN; omega
          have HFi2 : Hid (∀ W, Calls Try.prog 30 #[.int .i64 (sz : Nat)] W fun e w' => e = .returned (.int .i64 (filledN sz : Nat)) ∧ w' = W) := fun W => filled_any sz W (by have := HSz.out; omega)
          generalize filledN sz = F at *
          by_cases hF : F > rl
          · have HP : Hid (readP bs = none) := by unfold Hid; rw [HRe.out, if_pos (.inl hF)]
            have q5 : (F : Int) > (rl : Int) := by omega
            clear HRe HFi HSz
            obtain ⟨⟨d0, d1, d2, d3, d4⟩, dfr⟩ := HS8.out.six
            have g0 := dfr 0
            have g1 := dfr 1
            have g2 := dfr 2
            have g3 := dfr 3
            have g4 := dfr 4
            clear dfr
            have HZ := hid HS8.out.zero
            go_wp2
            go_step3
            refine ⟨rfl, ?_⟩
            go_wp2
            rw [Exit.noGoto_ret]
            refine bodyPost_ret (results_rd rfl rfl HZ.out.ent) rfl ⟨HZ.out.below, ?_⟩
            rw [HP.out]
            rfl
          · have q5 : ¬ ((F : Int) > (rl : Int)) := by omega
            obtain ⟨a3, hsl3, hr3⟩ := run_slice_rd HR2.out sz F HFb.out.1 (by rw [HRl.out]; omega)
            have HNo := hid (isNoughts_any _ _ w9 (hr3.up HS8.out.below))
            have HFl := hid (Nat.le_of_not_lt hF)
            clear hr3 hF
            go_wp2_with fail
            refine HFi.out.mono ?_
            clear HFi
            rintro e w10 ⟨rfl, rfl⟩
            go_wp2_with fail
            refine HNo.out.mono ?_
            clear HNo
            rintro e w11 ⟨rfl, rfl⟩
            cases hno : noughts ((rest.drop sz).take (F - sz)) with
            | false =>
              have HP : Hid (readP bs = none) := by unfold Hid; rw [HRe.out, if_pos (.inr hno)]
              clear HRe HSz hno
              obtain ⟨⟨d0, d1, d2, d3, d4⟩, dfr⟩ := HS8.out.six
              have g0 := dfr 0
              have g1 := dfr 1
              have g2 := dfr 2
              have g3 := dfr 3
              have g4 := dfr 4
              clear dfr
              have HZ := hid HS8.out.zero
              go_wp2
              go_step3
              refine ⟨rfl, ?_⟩
              go_wp2
              rw [Exit.noGoto_ret]
              refine bodyPost_ret (results_rd rfl rfl HZ.out.ent) rfl ⟨HZ.out.below, ?_⟩
              rw [HP.out]
              rfl
            | true =>
              have HRe2 : Hid (readP bs = _) := HRe.out.trans (if_neg (by rintro (h | h); exact absurd h (by have := HFl.out; omega); rw [hno] at h; cases h))
              clear HRe hno
              have hsz : sz ≤ rl := by have := HFl.out; have := HFb.out; omega
              have HTk := hid (Rd.take (by rw [HRl.out]; exact HR2.out) (by rw [HRl.out]; exact hsz))
              have q6 : (sz : Int) ≤ (c : Int) := by obtain ⟨ao', cap', e, x1, _⟩ := HR2.out; simp only [Value.slice.injEq] at e; obtain ⟨rfl, e2, rfl⟩ := e; omega
              have q7 : (0 : Int) ≤ (sz : Int) := by omega
              go_wp2
              have c4 : w11.drew.cell? ⟨w.heap.size, 4, none⟩ = some (.slice none 0 0) := HS8.out.six.1.2.2.2.2
              have HS9 := hid (HS8.out.up (Below.refl _ _).drew)
              clear HS8
              refine wp_region_noPanic ?_
              refine wp_region_drewL 7 (S := fun V => V.cell? ⟨w.heap.size, 4, none⟩ = some (.slice none 0 0)) (by kernel_rfl) c4 (fun hHeld => ?_)
              generalize w11.drew = w12 at *
              refine wpAnyL_take (hwt := by kernel_rfl) (i := 0) (v := ?_) rfl (by kernel_rfl) (by kernel_rfl) (by kernel_rfl) (fun _ _ _ h => h) (Or.inl ⟨by rfl, ?_⟩) (by assumption) ?_
              rotate_left
              · (intro W hSw; (try dsimp only at hSw); obtain s1 := hSw; go_simp; try with_reducible rfl)
              try simp only [List.getElem_toArray, List.getElem_cons_zero, Act.put, List.setIfInBounds_toArray, List.set_cons_zero, List.set_cons_succ]
              refine wpAnyL_take (hwt := by kernel_rfl) (i := 1) (v := ?_) rfl (by kernel_rfl) (by kernel_rfl) (by kernel_rfl) (fun _ _ _ h => h) (Or.inl ⟨by rfl, ?_⟩) (by assumption) ?_
              rotate_left
              · (intro W hSw; (try dsimp only at hSw); obtain s1 := hSw; go_simp; try with_reducible rfl)
              try simp only [List.getElem_toArray, List.getElem_cons_succ, List.getElem_cons_zero, Act.put, List.setIfInBounds_toArray, List.set_cons_zero, List.set_cons_succ]
              refine wpAnyL_take (hwt := by kernel_rfl) (i := 2) (v := ?_) rfl (by kernel_rfl) (by kernel_rfl) (by kernel_rfl) (fun _ _ _ h => h) (Or.inl ⟨by rfl, ?_⟩) (by assumption) ?_
              rotate_left
              · (intro W hSw; (try dsimp only at hSw); obtain s1 := hSw; go_simp; try with_reducible rfl)
              try simp only [List.getElem_toArray, List.getElem_cons_succ, List.getElem_cons_zero, Act.put, List.setIfInBounds_toArray, List.set_cons_zero, List.set_cons_succ]
              refine wpAnyL_take (hwt := by kernel_rfl) (i := 3) (v := ?_) rfl (by kernel_rfl) (by kernel_rfl) (by kernel_rfl) (fun _ _ _ h => h) (Or.inl ⟨by rfl, ?_⟩) (by assumption) ?_
              rotate_left
              · (intro W hSw; (try dsimp only at hSw); obtain s1 := hSw; go_simp; try with_reducible rfl)
              try simp only [List.getElem_toArray, List.getElem_cons_succ, List.getElem_cons_zero, Act.put, List.setIfInBounds_toArray, List.set_cons_zero, List.set_cons_succ]
              refine wpAnyL_take (hwt := by kernel_rfl) (i := 4) (v := ?_) rfl (by kernel_rfl) (by kernel_rfl) (by kernel_rfl) (fun _ _ _ h => h) (Or.inl ⟨by rfl, ?_⟩) (by assumption) ?_
              rotate_left
              · (intro W hSw; (try dsimp only at hSw); obtain s1 := hSw; go_simp; try with_reducible rfl)
              try simp only [List.getElem_toArray, List.getElem_cons_succ, List.getElem_cons_zero, Act.put, List.setIfInBounds_toArray, List.set_cons_zero, List.set_cons_succ]
              refine wpAnyL_one (i := 5) (by kernel_rfl) rfl (fun K hK => ?_)
              rw [if_pos (by rfl)]
              refine wp_append_bytes (.tmp 54) (.tmp 57) rfl _ (rest.take sz) rfl rfl (HTk.out.up HS9.out.below) (by rw [List.length_take]; have := HSz.out; have := HRl.out; omega) ?_
              intro dv w13 hD hB
              obtain ⟨dao, dcap, hdv, hd1, hd2, _, _⟩ := hD.rd
              obtain ⟨dl, hdl⟩ : ∃ dl, dl = (rest.take sz).length := ⟨_, rfl⟩
              rw [← hdl] at hdv hd1
              subst hdv
              have HDl := hid hdl
              clear hdl
              have HS10 := hid (HS9.out.up hB)
              have HD := hid (hD.down HS9.out.below.size)
              have hc4 := HS10.out.six.1.2.2.2.2
              have hf4 := HS10.out.six.2 4
              clear HS9 c4 hHeld hD hB
              refine hK.out _ _ (fun _ => hc4) (fun hH5 => ?_)
              have hHeld := hH5 (by decide)
              clear hK K hH5
              try simp only [List.getElem_toArray, List.getElem_cons_succ, List.getElem_cons_zero, Act.put, List.setIfInBounds_toArray, List.set_cons_zero, List.set_cons_succ]
              refine wpAnyL_take (hwt := by kernel_rfl) (i := 6) (v := ?_) rfl (by kernel_rfl) (by kernel_rfl) (by kernel_rfl) (fun _ _ _ h => h) (Or.inl ⟨by rfl, ?_⟩) (by assumption) ?_
              rotate_left
              · (intro W hSw; (try dsimp only at hSw); obtain s1 := hSw; go_simp; try with_reducible rfl)
              try simp only [List.getElem_toArray, List.getElem_cons_succ, List.getElem_cons_zero, Act.put, List.setIfInBounds_toArray, List.set_cons_zero, List.set_cons_succ]
              refine wpAnyL_one (i := 7) (by kernel_rfl) rfl (fun K hK => ?_)
              rw [if_pos (by rfl)]
              go_simp
              refine hK.out _ _ (fun hne => absurd rfl hne) (fun _ => ?_)
              clear hK K hHeld
              refine wpAnyL_done (by kernel_rfl) ?_ _
              refine NoPanic.normal ?_
              have HS11 : Hid (RS w (w13.setCell ⟨w.heap.size, 4, none⟩ (.slice dao dl dcap)) #[str en.name, .int .i64 en.kind, .int .i64 en.mode, str en.link, .slice dao dl dcap] (hdA b o)) := HS10.out.set 4 _
              have HD2 : Hid (DataU (w13.setCell ⟨w.heap.size, 4, none⟩ (.slice dao dl dcap)) w.heap.size (.slice dao dl dcap) (rest.take sz)) := HD.out.set HS10.out.ent (by decide)
              clear HS10 HD hc4 hf4
              generalize w13.setCell ⟨w.heap.size, 4, none⟩ (.slice dao dl dcap) = w14 at *
              obtain ⟨⟨d0, d1, d2, d3, d4⟩, dfr⟩ := HS11.out.six
              have HRt := hid (right_len en.name en.link (rest.take sz) en.kind en.mode dao dl dcap w14 HDl.out.symm (by omega))
              clear hd1 hd2 dfr
              go_wp2_with fail
              refine HRt.out.mono ?_
              clear HRt
              rintro e w15 ⟨rfl, hB⟩
              have HS12 := hid (HS11.out.up hB)
              have HD3 := hid (HD2.out.up hB)
              clear HS11 HD2 hB d0 d1 d2 d3 d4
              have hEn := HEn.out (rest.take sz)
              rw [hEn] at HRe2
              by_cases hrt : rightE ⟨en.name, en.kind, en.mode, en.link, rest.take sz⟩ = 0
              · rw [if_neg (fun h => h hrt)] at HRe2
                rw [hrt]
                clear hrt
                go_wp2
                have HS13 := hid (HS12.out.up (Below.refl _ _).drew)
                have HD4 := hid (HD3.out.up (Below.refl _ _).drew)
                clear HS12 HD3
                obtain ⟨t0, t1, t2, t3, t4⟩ := HS13.out.six.1
                have q8 : (F : Int) ≤ 60000 := by have := HFl.out; omega
                have hfi := HFi2.out w15.drew
                have HFi3 := hid hfi
                clear hfi HFi2
                refine wp_region_noPanic ?_
                refine wp_region_held_drew (S := fun V => V.cell? ⟨w.heap.size, 0, none⟩ = some (str en.name) ∧ V.cell? ⟨w.heap.size, 1, none⟩ = some (.int .i64 en.kind) ∧ V.cell? ⟨w.heap.size, 2, none⟩ = some (.int .i64 en.mode) ∧ V.cell? ⟨w.heap.size, 3, none⟩ = some (str en.link) ∧ V.cell? ⟨w.heap.size, 4, none⟩ = some (.slice dao dl dcap)) (by kernel_rfl) ⟨t0, t1, t2, t3, t4⟩ (fun hHeld => ?_)
                generalize w15.drew = w16 at *
                refine wpAnyH_take (i := 0) (v := ?_) rfl (by kernel_rfl) (by kernel_rfl) (by kernel_rfl) (fun _ _ _ h => h) (Or.inl ⟨by rfl, ?_⟩) (by assumption) ?_
                rotate_left
                · (intro W hSw; (try dsimp only at hSw); obtain ⟨s0, s1, s2, s3, s4⟩ := hSw; go_simp; try with_reducible rfl)
                try simp only [List.getElem_toArray, List.getElem_cons_zero, Act.put, List.setIfInBounds_toArray, List.set_cons_zero, List.set_cons_succ]
                refine wpAnyH_take (i := 1) (v := ?_) rfl (by kernel_rfl) (by kernel_rfl) (by kernel_rfl) (fun _ _ _ h => h) (Or.inl ⟨by rfl, ?_⟩) (by assumption) ?_
                rotate_left
                · (intro W hSw; (try dsimp only at hSw); obtain ⟨s0, s1, s2, s3, s4⟩ := hSw; go_simp; try with_reducible rfl)
                try simp only [List.getElem_toArray, List.getElem_cons_succ, List.getElem_cons_zero, Act.put, List.setIfInBounds_toArray, List.set_cons_zero, List.set_cons_succ]
                refine wpAnyH_ready (rs := [2]) (by kernel_rfl) (by simp) (AllReadyH.cons rfl (fun K hK => ?_) AllReadyH.nil)
                rw [if_pos (by rfl)]
                go_simp
                refine HFi3.out.mono ?_
                clear HFi3
                rintro e w17 ⟨rfl, h17⟩
                obtain rfl := h17.symm
                go_wp2_with fail
                refine hK.out _ _ hHeld (fun hHeld => ?_)
                clear hK K
                try simp only [List.getElem_toArray, List.getElem_cons_succ, List.getElem_cons_zero, Act.put, List.setIfInBounds_toArray, List.set_cons_zero, List.set_cons_succ]
                refine wpAnyH_take (i := 3) (v := ?_) rfl (by kernel_rfl) (by kernel_rfl) (by kernel_rfl) (fun _ _ _ h => h) (Or.inl ⟨by rfl, ?_⟩) (by assumption) ?_
                rotate_left
                · (intro W hSw; (try dsimp only at hSw); obtain ⟨s0, s1, s2, s3, s4⟩ := hSw; go_simp; try with_reducible rfl)
                try simp only [List.getElem_toArray, List.getElem_cons_succ, List.getElem_cons_zero, Act.put, List.setIfInBounds_toArray, List.set_cons_zero, List.set_cons_succ]
                refine wpAnyH_ready (rs := [4]) (by kernel_rfl) (by simp) (AllReadyH.cons rfl (fun K hK => ?_) AllReadyH.nil)
                rw [if_pos (by rfl)]
                have g0 := HS13.out.six.2 0
                have g1 := HS13.out.six.2 1
                have g2 := HS13.out.six.2 2
                have g3 := HS13.out.six.2 3
                have g4 := HS13.out.six.2 4
                go_simp
                have k0 := HS13.out.set 0 (str en.name)
                have k1 := k0.set 1 (.int .i64 en.kind)
                have k2 := k1.set 2 (.int .i64 en.mode)
                have k3 := k2.set 3 (str en.link)
                have HS14 : Hid (RS w _ #[str en.name, .int .i64 en.kind, .int .i64 en.mode, str en.link, .slice dao dl dcap] (hdA b o)) := k3.set 4 (.slice dao dl dcap)
                have HD5 := hid (((((HD4.out.set (i := 0) (u := str en.name) HS13.out.ent (by decide)).set (i := 1) (u := .int .i64 en.kind) k0.ent (by decide)).set (i := 2) (u := .int .i64 en.mode) k1.ent (by decide)).set (i := 3) (u := str en.link) k2.ent (by decide)).set (i := 4) (u := .slice dao dl dcap) k3.ent (by decide))
                clear k0 k1 k2 k3 HS13 HD4 hHeld t0 t1 t2 t3 t4 g0 g1 g2 g3 g4
                refine hK.out _ _ HS14.out.six.1 (fun hHeld => ?_)
                clear hK K
                generalize ((((w16.setCell ⟨w.heap.size, 0, none⟩ (str en.name)).setCell ⟨w.heap.size, 1, none⟩ (.int .i64 en.kind)).setCell ⟨w.heap.size, 2, none⟩ (.int .i64 en.mode)).setCell ⟨w.heap.size, 3, none⟩ (str en.link)).setCell ⟨w.heap.size, 4, none⟩ (.slice dao dl dcap) = w18 at *
                try simp only [List.getElem_toArray, List.getElem_cons_succ, List.getElem_cons_zero, Act.put, List.setIfInBounds_toArray, List.set_cons_zero, List.set_cons_succ]
                refine wpAnyH_take (i := 5) (v := ?_) rfl (by kernel_rfl) (by kernel_rfl) (by kernel_rfl) (fun _ _ _ h => h) (Or.inl ⟨by rfl, ?_⟩) (by assumption) ?_
                rotate_left
                · (intro W hSw; (try dsimp only at hSw); obtain ⟨s0, s1, s2, s3, s4⟩ := hSw; go_simp; try with_reducible rfl)
                try simp only [List.getElem_toArray, List.getElem_cons_succ, List.getElem_cons_zero, Act.put, List.setIfInBounds_toArray, List.set_cons_zero, List.set_cons_succ]
                refine wpAnyH_done (by kernel_rfl) ?_ _
                refine NoPanic.normal ?_
                clear hHeld
                go_wp2
                refine bodyPost_ret (results_rd rfl rfl HS14.out.ent) rfl ⟨HS14.out.below, ?_⟩
                rw [HRe2.out]
                have hw : IntKind.i64.wrap (512 + (F : Int)) = ((512 + F : Nat) : Int) := by rw [IntKind.wrap_i64]; omega
                exact ⟨_, congrArg (fun z : Int => Ending.returned (.tuple #[.agg #[str en.name, .int .i64 en.kind, .int .i64 en.mode, str en.link, .slice dao dl dcap], .int .i64 z])) hw, HD5.out⟩
              · have HP : Hid (readP bs = none) := by unfold Hid; rw [HRe2.out, if_pos hrt]
                have e1 : (rightE ⟨en.name, en.kind, en.mode, en.link, rest.take sz⟩ != 0) = true := bne_iff_ne.2 hrt
                clear hrt HRe2 hEn HEn
                obtain ⟨⟨d0, d1, d2, d3, d4⟩, dfr⟩ := HS12.out.six
                have g0 := dfr 0
                have g1 := dfr 1
                have g2 := dfr 2
                have g3 := dfr 3
                have g4 := dfr 4
                clear dfr
                have HZ := hid HS12.out.zero
                go_wp2
                go_step3
                refine ⟨rfl, ?_⟩
                go_wp2
                rw [Exit.noGoto_ret]
                refine bodyPost_ret (results_rd rfl rfl HZ.out.ent) rfl ⟨HZ.out.below, ?_⟩
                rw [HP.out]
                rfl
      · have HP : Hid (readP bs = none) := by unfold Hid; rw [HRe.out, if_pos (.inr hsum)]
        have e1 : ((sn : Int) != sumH hd) = true := bne_iff_ne.2 hsum
        clear hsum HRe
        obtain ⟨⟨d0, d1, d2, d3, d4⟩, dfr⟩ := HS5.out.six
        have g0 := dfr 0
        have g1 := dfr 1
        have g2 := dfr 2
        have g3 := dfr 3
        have g4 := dfr 4
        clear dfr
        have HZ := hid HS5.out.zero
        go_wp2
        go_step3
        refine ⟨rfl, ?_⟩
        go_wp2
        rw [Exit.noGoto_ret]
        refine bodyPost_ret (results_rd rfl rfl HZ.out.ent) rfl ⟨HZ.out.below, ?_⟩
        rw [HP.out]
        rfl
end Go.Proofs.Ytdfnhgkabaikaaa
