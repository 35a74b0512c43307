/- entry: what a header's fields tell. -/
import Derived.Test.YtdfnhgkabaikaaaTForm
import Derived.Test.YtdfnhgkabaikaaaTSmall
import Derived.Test.YtdfnhgkabaikaaaTRight
import Derived.Deep.Cut
namespace Go.Proofs.Ytdfnhgkabaikaaa
open Go.RowKit
theorem infoEn : (Try.prog.info? 31).map (·.size) = some 5 := by kernel_rfl
/-- The entry under way. -/
structure EntSt (b o : Nat) (w0 w : World) (nm : List UInt8) (k m : Int) (lk : List UInt8) : Prop where
  hdr : w.heap[w0.heap.size]? = some (.cells (hdA b o) 53 (0, 0))
  ent : w.heap[w0.heap.size + 1]? = some (.cells #[str nm, .int .i64 k, .int .i64 m, str lk, .slice none 0 0] 31 (0, 0))
  below : Below w0.heap.size w0 w
theorem EntSt.up {b o : Nat} {w0 w w' : World} {nm lk : List UInt8} {k m : Int} (h : EntSt b o w0 w nm k m lk) (hB : Below w.heap.size w w') : EntSt b o w0 w' nm k m lk :=
  ⟨below_block hB h.hdr (lt_of_heap h.hdr), below_block hB h.ent (lt_of_heap h.ent), h.below.trans (hB.mono h.below.size)⟩
theorem EntSt.set {b o : Nat} {w0 w : World} {nm lk nm2 lk2 : List UInt8} {k m k2 m2 : Int} (h : EntSt b o w0 w nm k m lk) (i : Nat) (v : Value) (hv : (#[str nm, .int .i64 k, .int .i64 m, str lk, .slice none 0 0] : Array Value).setIfInBounds i v = #[str nm2, .int .i64 k2, .int .i64 m2, str lk2, .slice none 0 0]) : EntSt b o w0 (w.setCell ⟨w0.heap.size + 1, i, none⟩ v) nm2 k2 m2 lk2 :=
  ⟨(block_setCell_other _ _ (by omega)).trans h.hdr, by rw [block_setCell h.ent, hv], h.below.setCell (p := ⟨w0.heap.size + 1, i, none⟩) (by show w0.heap.size ≤ w0.heap.size + 1; omega) v⟩
theorem EntSt.six {b o : Nat} {w0 w : World} {nm lk : List UInt8} {k m : Int} (h : EntSt b o w0 w nm k m lk) : w.cell? ⟨w0.heap.size + 1, 0, none⟩ = some (str nm) ∧ w.cell? ⟨w0.heap.size + 1, 1, none⟩ = some (.int .i64 k) ∧ w.cell? ⟨w0.heap.size + 1, 2, none⟩ = some (.int .i64 m) ∧ w.cell? ⟨w0.heap.size + 1, 3, none⟩ = some (str lk) ∧ w.cell? ⟨w0.heap.size + 1, 4, none⟩ = some (.slice none 0 0) :=
  ⟨cell_of_block h.ent 0, cell_of_block h.ent 1, cell_of_block h.ent 2, cell_of_block h.ent 3, cell_of_block h.ent 4⟩
theorem EntSt.fr {b o : Nat} {w0 w : World} {nm lk : List UInt8} {k m : Int} (h : EntSt b o w0 w nm k m lk) (i : Nat) : w.frozen? ⟨w0.heap.size + 1, i, none⟩ = false := frozen_of_block h.ent i
theorem byAt.up' {b o : Nat} {h : List UInt8} {w0 w : World} {nm lk : List UInt8} {k m : Int} {bb oo : Nat} {u : Value} {i : Nat} (hb : byAt w b o h) (_ : EntSt bb oo w0 w nm k m lk) (hne : b < w0.heap.size) : byAt (w.setCell ⟨w0.heap.size + 1, i, none⟩ u) b o h := fun j hj => by
  have := hb j hj
  exact (World.cell?_of_block (w := w) (a := ⟨b, o + j, none⟩) (block_setCell_other (w := w) (b := w0.heap.size + 1) (k := b) i u (by omega))).trans this
set_option maxRecDepth 100000 in
theorem results_ent {w : World} {tmps : Array Value} {g : Nat} {y0 y1 y2 y3 y4 t : Value} (h1 : tmps.getD 2 undef = .pointer (some ⟨g, 0, none⟩)) (h2 : tmps.getD 3 undef = t) (r : w.heap[g]? = some (.cells #[y0, y1, y2, y3, y4] 31 (0, 0))) :
    (results Try.f47 tmps).run Try.prog w = .ok (.tuple #[.agg #[y0, y1, y2, y3, y4], t]) w := by
  have c0 : w.cell? ⟨g, 0, none⟩ = some y0 := cell_of_block r 0
  have c1 : w.cell? ⟨g, 1, none⟩ = some y1 := cell_of_block r 1
  have c2 : w.cell? ⟨g, 2, none⟩ = some y2 := cell_of_block r 2
  have c3 : w.cell? ⟨g, 3, none⟩ = some y3 := cell_of_block r 3
  have c4 : w.cell? ⟨g, 4, none⟩ = some y4 := cell_of_block r 4
  have h1' : tmps[2]?.getD undef = .pointer (some ⟨g, 0, none⟩) := by simpa using h1
  have h2' : tmps[3]?.getD undef = t := by simpa using h2
  simp only [results, Try.results47]
  simp [go_sem, h1', h2', asAddr, c0, c1, c2, c3, c4]
theorem text_len (h : List UInt8) (o n : Nat) : (textF (fld h o n)).1.length ≤ n := by
  unfold textF fld
  refine Nat.le_trans (List.Sublist.length_le (List.takeWhile_sublist _)) ?_
  rw [List.length_take]; omega
theorem cat_str (p s : List UInt8) : (⟨p.toArray⟩ : ByteArray) ++ ⟨#[47]⟩ ++ ⟨s.toArray⟩ = ⟨(p ++ 47 :: s).toArray⟩ := by
  apply ByteArray.ext
  simp [ByteArray.data_append]
set_option maxHeartbeats 4000000 in
set_option maxRecDepth 100000 in
theorem entry_any (h : List UInt8) (b o : Nat) (w : World) (hl : h.length = 512) (hb : byAt w b o h) :
    Calls Try.prog 47 #[hdV b o] w fun e w' => e = .returned (.tuple #[enV (entP h []) (.slice none 0 0), .int .i64 (sizeP h : Nat)]) ∧ Below w.heap.size w w' := by
  have HL := hid hl
  have hbw : b < w.heap.size := lt_of_cell (hb 0 (by omega))
  obtain ⟨n1, n2, n3, n4⟩ := new2 w (.cells (hdA b o) 53) (.cells #[.string ⟨#[]⟩, .int .i64 0, .int .i64 0, .string ⟨#[]⟩, .slice none 0 0] 31)
  have E0 : EntSt b o w _ [] 0 0 [] := ⟨n1, n2, n3⟩
  have h0 := hb.up n3
  clear n1 n2 n3 n4 hb
  unfold hdV
  go_enter Try.func47, Try.ntmps47
  go_upto_region 1 with (fail)
  generalize (w.alloc (.cells (hdA b o) 53)).alloc (.cells #[.string ⟨#[]⟩, .int .i64 0, .int .i64 0, .string ⟨#[]⟩, .slice none 0 0] 31) = w1 at *
  -- the kind
  have c7 : w1.cell? ⟨w.heap.size, 7, none⟩ = some (sl b (o + 156) 1) := cell_of_block E0.hdr 7
  obtain ⟨x, hx⟩ : ∃ x, x = h.getD 156 0 := ⟨_, rfl⟩
  have k7 : w1.cell? ⟨b, o + 156, none⟩ = some (B x) := by rw [hx]; exact h0 156 (by omega)
  have HX := hid hx
  have f1 := E0.fr 1
  have g1 := E0.six.2.1
  have HE0 := hid E0
  have H0 := hid h0
  clear E0 h0 hl hx
  go_wp2_with fail
  refine (kindOf_any x w1).mono ?_
  rintro e w1' ⟨rfl, rfl⟩
  clear c7 k7
  have E1 : EntSt b o w (w1'.setCell ⟨w.heap.size + 1, 1, none⟩ (.int .i64 (kindP x))) [] (kindP x) 0 [] := HE0.out.set 1 _ rfl
  have h1 := H0.out.up' (u := .int .i64 (kindP x)) HE0.out (i := 1) hbw
  go_upto_region 2 with (fail)
  clear HE0 H0 f1 g1
  generalize w1'.setCell ⟨w.heap.size + 1, 1, none⟩ (.int .i64 (kindP x)) = w2 at *
  have c1 : w2.cell? ⟨w.heap.size, 1, none⟩ = some (sl b (o + 100) 8) := cell_of_block E1.hdr 1
  have HC : Hid (Calls Try.prog 49 #[sl b (o + 100) 8] w2 _) := number_at HL.out h1 0
  have HE1 := hid E1
  have H1 := hid h1
  clear E1 h1
  go_wp2_with fail
  refine HC.out.mono ?_
  clear HC c1
  rintro e w2' ⟨rfl, q, rfl⟩
  have E2a : EntSt b o w (w2.drewN q) [] (kindP x) 0 [] := HE1.out.up (below_drewN (Below.refl _ _) q)
  have h2a : byAt (w2.drewN q) b o h := H1.out
  clear HE1 H1
  generalize w2.drewN q = w3 at *
  obtain ⟨m, hm⟩ : ∃ m : Int, m = (((numF (fld h (offN 0) (lenN 0 + 1))).1 : Nat) : Int) := ⟨_, rfl⟩
  rw [← hm]
  have HM := hid hm
  clear hm
  have f2 := E2a.fr 2
  have g2 := E2a.six.2.2.1
  have E2 : EntSt b o w (w3.setCell ⟨w.heap.size + 1, 2, none⟩ (.int .i64 m)) [] (kindP x) m [] := E2a.set 2 _ rfl
  have h2 := h2a.up' (u := .int .i64 m) E2a (i := 2) hbw
  have HE2 := hid E2
  have H2 := hid h2
  clear E2 h2 E2a h2a
  go_upto_region 3 with (fail)
  clear f2 g2
  generalize w3.setCell ⟨w.heap.size + 1, 2, none⟩ (.int .i64 m) = w4 at *
  have c4 : w4.cell? ⟨w.heap.size, 0, none⟩ = some (sl b (o) 100) := cell_of_block HE2.out.hdr 0
  have HC : Hid (Calls Try.prog 51 #[sl b (o) 100] w4 _) := text_at HL.out H2.out 0
  go_wp2_with fail
  refine HC.out.mono ?_
  clear HC c4
  rintro e w4a ⟨rfl, hB⟩
  have E3a := HE2.out.up hB
  have h3a := H2.out.up hB
  clear HE2 H2 hB
  obtain ⟨nm, hnm⟩ : ∃ s, s = (textF (fld h (offT 0) (lenT 0))).1 := ⟨_, rfl⟩
  rw [← hnm]
  have HNm := hid hnm
  clear hnm
  have f3 := E3a.fr 0
  have g3 := E3a.six.1
  have E3 : EntSt b o w (w4a.setCell ⟨w.heap.size + 1, 0, none⟩ (str nm)) nm (kindP x) m [] := E3a.set 0 _ rfl
  have h3 := h3a.up' (u := str nm) E3a (i := 0) hbw
  have HE3 := hid E3
  have H3 := hid h3
  clear E3 h3 E3a h3a
  go_upto_region 4 with (fail)
  clear f3 g3
  generalize w4a.setCell ⟨w.heap.size + 1, 0, none⟩ (str nm) = w5 at *
  have c5 : w5.cell? ⟨w.heap.size, 8, none⟩ = some (sl b (o + 157) 100) := cell_of_block HE3.out.hdr 8
  have HC : Hid (Calls Try.prog 51 #[sl b (o + 157) 100] w5 _) := text_at HL.out H3.out 1
  go_wp2_with fail
  refine HC.out.mono ?_
  clear HC c5
  rintro e w5a ⟨rfl, hB⟩
  have E4a := HE3.out.up hB
  have h4a := H3.out.up hB
  clear HE3 H3 hB
  obtain ⟨lk, hlk⟩ : ∃ s, s = (textF (fld h (offT 1) (lenT 1))).1 := ⟨_, rfl⟩
  rw [← hlk]
  have HLk := hid hlk
  clear hlk
  have f4 := E4a.fr 3
  have g4 := E4a.six.2.2.2.1
  have E4 : EntSt b o w (w5a.setCell ⟨w.heap.size + 1, 3, none⟩ (str lk)) nm (kindP x) m lk := E4a.set 3 _ rfl
  have h4 := h4a.up' (u := str lk) E4a (i := 3) hbw
  have HE4 := hid E4
  have H4 := hid h4
  clear E4 h4 E4a h4a
  go_upto_region 5 with (fail)
  clear f4 g4
  generalize w5a.setCell ⟨w.heap.size + 1, 3, none⟩ (str lk) = w6 at *
  have c6 : w6.cell? ⟨w.heap.size, 14, none⟩ = some (sl b (o + 345) 155) := cell_of_block HE4.out.hdr 14
  have HC : Hid (Calls Try.prog 51 #[sl b (o + 345) 155] w6 _) := text_at HL.out H4.out 4
  go_wp2_with fail
  refine HC.out.mono ?_
  clear HC c6
  rintro e w7 ⟨rfl, hB⟩
  have HE5 := hid (HE4.out.up hB)
  have H5 := hid (H4.out.up hB)
  clear HE4 H4 hB
  obtain ⟨pf, hpf⟩ : ∃ s, s = (textF (fld h (offT 4) (lenT 4))).1 := ⟨_, rfl⟩
  rw [← hpf]
  have HP := hid hpf
  clear hpf
  by_cases hp0 : pf = []
  · subst hp0
    have c4 : w7.cell? ⟨w.heap.size, 4, none⟩ = some (sl b (o + 124) 12) := cell_of_block HE5.out.hdr 4
    have HC : Hid (Calls Try.prog 49 #[sl b (o + 124) 12] w7 _) := number_at HL.out H5.out 3
    go_wp2_with fail
    refine HC.out.mono ?_
    clear HC c4
    rintro e w8 ⟨rfl, q, rfl⟩
    have HE6 := hid (HE5.out.up (below_drewN (Below.refl _ _) q))
    clear HE5 H5
    generalize w7.drewN q = w8 at *
    obtain ⟨d0, d1, d2, d3, d4⟩ := HE6.out.six
    have g0 := HE6.out.fr 0
    have g1 := HE6.out.fr 1
    have g2 := HE6.out.fr 2
    have g3 := HE6.out.fr 3
    have g4 := HE6.out.fr 4
    have HEnd := hid (((((HE6.out.set 0 (str nm) rfl).set 1 (.int .i64 (kindP x)) rfl).set 2 (.int .i64 m) rfl).set 3 (str lk) rfl).set 4 (.slice none 0 0) rfl)
    go_wp2
    refine bodyPost_ret (results_ent rfl rfl HEnd.out.ent) rfl ⟨?_, HEnd.out.below⟩
    have hN : nameP h = nm := by unfold nameP; rw [if_pos (show (textF (fld h 345 155)).1 = [] from HP.out.symm), HNm.out]; rfl
    unfold entP enV
    simp only [hN]
    rw [HLk.out, HM.out, HX.out]
    rfl
  · have hpe : pf.isEmpty = false := by cases pf with | nil => exact absurd rfl hp0 | cons _ _ => rfl
    have c4 : w7.cell? ⟨w.heap.size, 4, none⟩ = some (sl b (o + 124) 12) := cell_of_block HE5.out.hdr 4
    have g0 := HE5.out.fr 0
    have d0 := HE5.out.six.1
    have l1 : pf.length ≤ 155 := by rw [HP.out]; exact text_len _ _ _
    have l2 : nm.length ≤ 100 := by rw [HNm.out]; exact text_len _ _ _
    have l3 : ¬ (9223372036854775807 < pf.length + 1) := by omega
    have l4 : ¬ (9223372036854775807 < pf.length + 1 + nm.length) := by omega
    clear l1 l2
    go_upto_region 8 with (fail)
    clear l3 l4 g0 d0
    have E6 : EntSt b o w (w7.setCell ⟨w.heap.size + 1, 0, none⟩ (.string ((⟨pf.toArray⟩ : ByteArray) ++ ⟨#[47]⟩ ++ ⟨nm.toArray⟩))) (pf ++ 47 :: nm) (kindP x) m lk := HE5.out.set 0 _ (by rw [cat_str]; rfl)
    have h6 := H5.out.up' (u := .string ((⟨pf.toArray⟩ : ByteArray) ++ ⟨#[47]⟩ ++ ⟨nm.toArray⟩)) HE5.out (i := 0) hbw
    have HE6 := hid E6
    have H6 := hid h6
    clear E6 h6 HE5 H5 c4
    generalize w7.setCell ⟨w.heap.size + 1, 0, none⟩ (.string ((⟨pf.toArray⟩ : ByteArray) ++ ⟨#[47]⟩ ++ ⟨nm.toArray⟩)) = w8 at *
    have c4 : w8.cell? ⟨w.heap.size, 4, none⟩ = some (sl b (o + 124) 12) := cell_of_block HE6.out.hdr 4
    have HC : Hid (Calls Try.prog 49 #[sl b (o + 124) 12] w8 _) := number_at HL.out H6.out 3
    go_wp2_with fail
    refine HC.out.mono ?_
    clear HC c4
    rintro e w9 ⟨rfl, q, rfl⟩
    have HE7 := hid (HE6.out.up (below_drewN (Below.refl _ _) q))
    clear HE6 H6
    generalize w8.drewN q = w9 at *
    have HN : Hid (nameP h = pf ++ 47 :: nm) := by unfold Hid nameP; rw [if_neg (show ¬ (textF (fld h 345 155)).1 = [] from fun e => hp0 (HP.out.trans e)), HNm.out, HP.out]; rfl
    clear hp0 hpe
    generalize pf ++ 47 :: nm = s at *
    obtain ⟨d0, d1, d2, d3, d4⟩ := HE7.out.six
    have g0 := HE7.out.fr 0
    have g1 := HE7.out.fr 1
    have g2 := HE7.out.fr 2
    have g3 := HE7.out.fr 3
    have g4 := HE7.out.fr 4
    have HEnd := hid (((((HE7.out.set 0 (str s) rfl).set 1 (.int .i64 (kindP x)) rfl).set 2 (.int .i64 m) rfl).set 3 (str lk) rfl).set 4 (.slice none 0 0) rfl)
    go_wp2
    refine bodyPost_ret (results_ent rfl rfl HEnd.out.ent) rfl ⟨?_, HEnd.out.below⟩
    unfold entP enV
    simp only [HN.out]
    rw [HLk.out, HM.out, HX.out]
    rfl
end Go.Proofs.Ytdfnhgkabaikaaa
