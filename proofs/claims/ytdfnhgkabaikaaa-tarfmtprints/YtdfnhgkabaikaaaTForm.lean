/- isFormed. -/
import Derived.Test.YtdfnhgkabaikaaaTHead
namespace Go.Proofs.Ytdfnhgkabaikaaa
open Go.RowKit
def okN (h : List UInt8) (k : Nat) : Bool := (numF (fld h (offN k) (lenN k + 1))).2
def okT (h : List UInt8) (k : Nat) : Bool := (textF (fld h (offT k) (lenT k))).2
theorem formed_is (h : List UInt8) : formedP h = (okN h 0 && (okN h 1 && (okN h 2 && (okN h 3 && (okN h 4 && (okN h 5 && (okN h 6 && (okT h 0 && (okT h 1 && (okT h 2 && (okT h 3 && (okT h 4 && (decide (fld h 257 8 = signB) && noughts (fld h 500 12)))))))))))))) := rfl
theorem formed_noN {h : List UInt8} {k : Nat} (hk : k < 7) (e : okN h k = false) : formedP h = false := by
  rw [formed_is]
  rcases k with _ | _ | _ | _ | _ | _ | _ | k <;> first | (simp only [e, Bool.false_and, Bool.and_false]) | omega
theorem formed_noT {h : List UInt8} {k : Nat} (hk : k < 5) (e : okT h k = false) : formedP h = false := by
  rw [formed_is]
  rcases k with _ | _ | _ | _ | _ | k <;> first | (simp only [e, Bool.false_and, Bool.and_false]) | omega
theorem formed_all {h : List UInt8} (h1 : ∀ k, k < 7 → okN h k = true) (h2 : ∀ k, k < 5 → okT h k = true) : formedP h = (decide (fld h 257 8 = signB) && noughts (fld h 500 12)) := by
  rw [formed_is, h1 0 (by omega), h1 1 (by omega), h1 2 (by omega), h1 3 (by omega), h1 4 (by omega), h1 5 (by omega), h1 6 (by omega), h2 0 (by omega), h2 1 (by omega), h2 2 (by omega), h2 3 (by omega), h2 4 (by omega)]
  rfl
theorem lenN_le (k : Nat) : lenN k ≤ 11 := by unfold lenN; split <;> omega
theorem offN_le (k : Nat) : offN k + lenN k ≤ 400 := by rcases k with _ | _ | _ | _ | _ | _ | k <;> simp [offN, lenN]
theorem lenT_le (k : Nat) : lenT k ≤ 155 ∧ offT k + lenT k ≤ 500 := by rcases k with _ | _ | _ | _ | k <;> simp [offT, lenT]
theorem number_at {h : List UInt8} {b o : Nat} {w : World} (hl : h.length = 512) (hb : byAt w b o h) (k : Nat) : Calls Try.prog 49 #[sl b (o + offN k) (lenN k + 1)] w fun e w' => e = .returned (.tuple #[.int .i64 ((numF (fld h (offN k) (lenN k + 1))).1 : Nat), .bool (okN h k)]) ∧ ∃ q, w' = w.drewN q :=
  number_f _ b (o + offN k) (lenN k + 1) (lenN k) w (length_fld _ _ _ (by have := offN_le k; omega)) (lenN_le k) (Nat.le_refl _) (hb.sub _ _)
theorem text_at {h : List UInt8} {b o : Nat} {w : World} (hl : h.length = 512) (hb : byAt w b o h) (k : Nat) : Calls Try.prog 51 #[sl b (o + offT k) (lenT k)] w fun e w' => e = .returned (.tuple #[str (textF (fld h (offT k) (lenT k))).1, .bool (okT h k)]) ∧ Below w.heap.size w w' :=
  text_any _ b (o + offT k) (lenT k) (lenT k) w (length_fld _ _ _ (by have := lenT_le k; omega)) (Nat.le_refl _) (by have := lenT_le k; omega) (hb.sub _ _)
theorem bool_not {x : Bool} : (!x) = true ↔ x = false := by cases x <;> simp
set_option maxHeartbeats 4000000 in
set_option maxRecDepth 100000 in
theorem isFormed_any (h : List UInt8) (b o : Nat) (w : World) (hl : h.length = 512) (hb : byAt w b o h) :
    Calls Try.prog 46 #[hdV b o] w fun e w' => e = .returned (.bool (formedP h)) ∧ Below w.heap.size w w' := by
  have HL := hid hl
  have hB := (Below.refl w.heap.size w).alloc (Nat.le_refl _) (.cells (hdA b o) 53)
  have hbl := block_new w (.cells (hdA b o) 53)
  have HB := hid hB
  have H := hid (hb.up hB)
  have HBl := hid hbl
  clear hB hb hbl hl
  unfold hdV
  go_enter Try.func46, Try.ntmps46
  go_wp2_with (refine wpList_load_block rfl 53 (.tmp 1) rfl w.heap.size rfl (hdA b o) 53 _ HBl.out _ Try.underlying53 rfl infoHd ?_)
  generalize w.alloc (.cells (hdA b o) 53) = w1 at *
  refine (numbers_any b o w1).mono ?_
  rintro e w2 ⟨rfl, hn2, hB2⟩
  have H2 := hid (H.out.up hB2)
  have HN2 := hid hn2
  have HBl2 := hid (below_block hB2 HBl.out (lt_of_heap HBl.out))
  have HB2 := hid (HB.out.trans (hB2.mono HB.out.size))
  have hlt1 := lt_of_heap HBl.out
  have HLt1 := hid hlt1
  clear hn2 hB2 H HBl HB hlt1
  generalize w1.heap.size + 1 = g at *
  go_wp2
  go_loopw [14] (fun i wr => ∃ k : Nat, k ≤ 7 ∧ i = .int .i64 k ∧ Hid (∀ j, j < k → okN h j = true) ∧ ∃ q, wr = w2.drewN q) (fun i _ => 7 - (intOf i).toNat)
  case atStart => exact ⟨0, by omega, rfl, fun j hj => by omega, 0, rfl⟩
  case round =>
    obtain ⟨k, hk, rfl, hA, q, rfl⟩ := hrel
    by_cases hlt : k < 7
    · have hk0 : (0 : Int) ≤ (k : Int) := by omega
      have hk1 : (k : Int) < 7 := by omega
      have c1 : (w2.drewN q).cell? ⟨g, k, none⟩ = some (sl b (o + offN k) (lenN k + 1)) := (cell_of_block HN2.out k).trans (numsA_at b o k hlt)
      have HC : Hid (Calls Try.prog 49 #[sl b (o + offN k) (lenN k + 1)] (w2.drewN q) _) := number_at HL.out (H2.out.drewN (q := q)) k
      cases hx : okN h k with
      | true =>
        rw [hx] at HC
        have HA : Hid (∀ j, j < k + 1 → okN h j = true) := fun j hj => by
          by_cases e : j = k
          · rw [e]; exact hx
          · exact hA.out j (by omega)
        clear hx hA
        go_wp2_with fail
        refine HC.out.mono ?_
        rintro e w3 ⟨rfl, q2, rfl⟩
        go_wp2
        exact ⟨⟨k + 1, by omega, by go_num, HA, q + q2, by simp [World.drewN]⟩, by simp [intOf]; omega⟩
      | false =>
        rw [hx] at HC
        have HE := hid (formed_noN hlt hx)
        clear hx hA
        go_wp2_with fail
        refine HC.out.mono ?_
        rintro e w3 ⟨rfl, q2, rfl⟩
        go_wp2
        go_ret
        exact ⟨by rw [HE.out]; rfl, below_drewN HB2.out _⟩
    · obtain rfl : k = 7 := by omega
      have HB3 := hid (below_drewN HB2.out q)
      have H3 : Hid (byAt (w2.drewN q) b o h) := H2.out
      have HBl3 : Hid ((w2.drewN q).heap[w.heap.size]? = some (.cells (hdA b o) 53 (0, 0))) := HBl2.out
      clear HB2 H2 HBl2 HN2
      generalize w2.drewN q = w3 at *
      go_wp2_with (refine wpList_load_block rfl 53 (.tmp 1) rfl w.heap.size rfl (hdA b o) 53 _ HBl3.out _ Try.underlying53 rfl infoHd ?_)
      refine (texts_any b o w3).mono ?_
      rintro e w4 ⟨rfl, hn2, hB2⟩
      have H4 := hid (H3.out.up hB2)
      have HN4 := hid hn2
      have HBl4 := hid (below_block hB2 HBl3.out (lt_of_heap HBl3.out))
      have HB4 := hid (HB3.out.trans (hB2.mono HB3.out.size))
      clear hn2 hB2 H3 HBl3 HB3
      generalize w3.heap.size + 1 = g2 at *
      go_wp2
      go_loopw [29] (fun i wr => ∃ k : Nat, k ≤ 5 ∧ i = .int .i64 k ∧ Hid (∀ j, j < k → okT h j = true) ∧ Hid (Below w4.heap.size w4 wr)) (fun i _ => 5 - (intOf i).toNat)
      case atStart => exact ⟨0, by omega, rfl, (fun j hj => by omega), Below.refl _ _⟩
      case round =>
        obtain ⟨k, hk, rfl, hT, hBr⟩ := hrel
        by_cases hlt : k < 5
        · have hk0 : (0 : Int) ≤ (k : Int) := by omega
          have hk1 : (k : Int) < 5 := by omega
          have c1 : wr.cell? ⟨g2, k, none⟩ = some (sl b (o + offT k) (lenT k)) := (cell_of_block (below_block hBr.out HN4.out (lt_of_heap HN4.out)) k).trans (textsA_at b o k hlt)
          have HC : Hid (Calls Try.prog 51 #[sl b (o + offT k) (lenT k)] wr _) := text_at HL.out (H4.out.up hBr.out) k
          cases hx : okT h k with
          | true =>
            rw [hx] at HC
            have HA : Hid (∀ j, j < k + 1 → okT h j = true) := fun j hj => by
              by_cases e : j = k
              · rw [e]; exact hx
              · exact hT.out j (by omega)
            clear hx hT
            go_wp2_with fail
            refine HC.out.mono ?_
            rintro e w5 ⟨rfl, hB5⟩
            have HB5 := hid (hBr.out.trans (hB5.mono hBr.out.size))
            clear hB5
            go_wp2
            exact ⟨⟨k + 1, by omega, by go_num, HA, HB5⟩, by simp [intOf]; omega⟩
          | false =>
            rw [hx] at HC
            have HE := hid (formed_noT hlt hx)
            clear hx hT
            go_wp2_with fail
            refine HC.out.mono ?_
            rintro e w5 ⟨rfl, hB5⟩
            have HB5 := hid (HB4.out.trans ((hBr.out.trans (hB5.mono hBr.out.size)).mono HB4.out.size))
            clear hB5
            go_wp2
            go_ret
            exact ⟨by rw [HE.out]; rfl, HB5.out⟩
        · obtain rfl : k = 5 := by omega
          have HE := hid (formed_all hA.out hT.out)
          have HB5 := hid (HB4.out.trans (hBr.out.mono HB4.out.size))
          have hbl := below_block hBr.out HBl4.out (lt_of_heap HBl4.out)
          have c9 : wr.cell? ⟨w.heap.size, 9, none⟩ = some (sl b (o + 257) 8) := cell_of_block hbl 9
          have c15 : wr.cell? ⟨w.heap.size, 15, none⟩ = some (sl b (o + 500) 12) := cell_of_block hbl 15
          have hby := H4.out.up hBr.out
          have hcv := run_str ((hby.sub 257 8).rd (length_fld h 257 8 (by rw [HL.out]; omega)) (Nat.le_refl _) (by omega))
          have HNo := hid (isNoughts_any _ _ wr ((hby.sub 500 12).rd (length_fld h 500 12 (by rw [HL.out]; omega)) (Nat.le_refl 12) (by omega)))
          clear hbl hby hA hT H4 HN4 HBl4 HB4
          by_cases hs : fld h 257 8 = signB
          · rw [decide_eq_true hs] at HE
            rw [hs] at hcv
            have hcv2 : (convert 23 9 (sl b (o + 257) 8)).run Try.prog wr = .ok (.string ⟨#[117, 115, 116, 97, 114, 0, 48, 48]⟩) wr := hcv
            clear hs hcv
            go_wp2_with fail
            refine HNo.out.mono ?_
            rintro e w6 ⟨rfl, rfl⟩
            go_wp2
            go_ret
            exact ⟨by rw [HE.out]; rfl, HB5.out⟩
          · rw [decide_eq_false hs] at HE
            have hne : (fld h 257 8 == [117, 115, 116, 97, 114, 0, 48, 48]) = false := beq_eq_false_iff_ne.2 hs
            generalize fld h 257 8 = f at *
            clear hs
            go_wp2
            go_ret
            exact ⟨by rw [HE.out]; rfl, HB5.out⟩
end Go.Proofs.Ytdfnhgkabaikaaa
