/- TarfmtAgain's walk. -/
import Derived.Test.YtdfnhgkabaikaaaTBackW
namespace Go.Proofs.Ytdfnhgkabaikaaa
open Go.RowKit
theorem readP_right {bs : List UInt8} {e : EN} {n : Nat} (h : readP bs = some (e, n)) : rightE e = 0 := by
  unfold readP at h
  split at h
  · cases h
  · split at h
    · cases h
    · split at h
      · cases h
      · split at h
        · cases h
        · split at h
          · cases h
          · rename_i hr
            injection h with h
            injection h with h1 h2
            rw [← h1]
            exact Classical.not_not.1 hr
/-- What is parsed is right. -/
theorem parse_right : ∀ (f : Nat) (bs : List UInt8) (at_ : Nat) (acc es : List EN) (m : Nat), parseF f bs at_ acc = (some es, m) → (∀ e ∈ acc, rightE e = 0) → acc.length ≤ 256 → (∀ e ∈ es, rightE e = 0) ∧ es.length ≤ 256
  | 0, _, _, _, _, _, h, _, _ => by cases h
  | f + 1, bs, at_, acc, es, m, h, ha, hl => by
    unfold parseF at h
    split at h
    · injection h with h1 h2
      injection h1 with h1
      subst h1
      exact ⟨ha, hl⟩
    · split at h
      · cases h
      · rename_i e n hq
        split at h
        · cases h
        · refine parse_right f _ _ _ es m h (fun x hx => ?_) (by rw [List.length_append]; simp; omega)
          rcases List.mem_append.1 hx with hx | hx
          · exact ha x hx
          · rw [List.mem_singleton.1 hx]
            exact readP_right hq
/-- What Parse tells, in short. -/
theorem parse_to (bs : List UInt8) (v : Value) (w : World) (hr : Rd w v bs) : Calls Try.prog 17 #[v] w fun e w' => Below w.heap.size w w' ∧ ((∃ er at_ : Int, er ≠ 0 ∧ e = .returned (.tuple #[.slice none 0 0, .int .i64 er, .int .i64 at_])) ∨
    ∃ (acc : List (EN × Value)) (la : Option Addr) (lc : Nat), (∀ i (hi : i < acc.length), rightE acc[i].1 = 0) ∧ acc.length ≤ 256 ∧ e = .returned (.tuple #[.slice la acc.length lc, .int .i64 0, .int .i64 0]) ∧ entsAt w' la acc) := by
  obtain ⟨ao, cap, rfl, -⟩ := id hr
  refine (parse_any bs ao cap w hr).mono ?_
  rintro e w' ⟨hB, h2⟩
  refine ⟨hB, ?_⟩
  split at h2
  · exact .inl ⟨6, 0, by decide, h2⟩
  · split at h2
    · exact .inl ⟨3, _, by decide, h2⟩
    · rename_i hp
      obtain ⟨acc, lv, hac, rfl, hrow, hdat⟩ := h2
      obtain ⟨la, lc, rfl, hea, -, -, -⟩ := ents_of_row hrow hdat
      have h3 := parse_right _ _ _ _ _ _ hp (fun e he => by simp at he) (by simp)
      rw [← hac] at h3
      refine .inr ⟨acc, la, lc, fun i hi => h3.1 _ (List.mem_map.2 ⟨acc[i], List.getElem_mem hi, rfl⟩), by simpa using h3.2, rfl, hea⟩
set_option maxHeartbeats 2000000 in
set_option maxRecDepth 100000 in
theorem again_walk (bs : List UInt8) (v : Value) (w : World) (hr : Rd w v bs) :
    Calls Try.prog 5 #[v] w fun e w' => e = .returned (.bool true) ∧ Below w.heap.size w w' := by
  have HP := hid (parse_to bs v w hr)
  clear hr
  go_enter Try.func5, Try.ntmps5
  go_wp2_with fail
  refine HP.out.mono ?_
  clear HP
  rintro e w1 ⟨hB1, ⟨er, at_, hE, rfl⟩ | ⟨acc, la, lc, hrt, h256, rfl, hea⟩⟩
  · have hne : (er != 0) = true := bne_iff_ne.2 hE
    have HB := hid hB1
    clear hB1 hE
    go_wp2_with fail
    refine (tlive_any w1).mono ?_
    rintro e w2 ⟨rfl, hB2⟩
    have HB2 : Hid (Below w.heap.size w w2) := HB.out.trans (hB2.mono HB.out.size)
    clear hB2 HB
    go_wp2
    go_ret
    exact ⟨rfl, HB2.out⟩
  · have HB := hid hB1
    have HE := hid hea
    have HR := hid hrt
    have HL := hid h256
    have HP := hid (print_any acc la lc w1 hea (by omega))
    clear hB1 hea hrt h256
    go_wp2_with fail
    refine HP.out.mono ?_
    clear HP
    rintro e w2 h2
    obtain ⟨hB2, ⟨er, hE, rfl⟩ | ⟨g, n, hg, rfl, hT⟩⟩ := print_to h2
    · have h6 : er = 6 := by
        cases hE with
        | bad k hk hb hn => exact absurd (HR.out k hk) hn
        | long => rfl
      subst h6
      have HB2 : Hid (Below w.heap.size w w2) := HB.out.trans (hB2.mono HB.out.size)
      clear hB2 HB h2 HE HR HL hE
      go_wp2_with fail
      refine (tlive_any w2).mono ?_
      rintro e w3 ⟨rfl, hB3⟩
      have HB3 : Hid (Below w.heap.size w w3) := HB2.out.trans (hB3.mono HB2.out.size)
      clear hB3 HB2
      go_wp2
      go_ret
      exact ⟨rfl, HB3.out⟩
    · have HB2 : Hid (Below w.heap.size w w2) := HB.out.trans (hB2.mono HB.out.size)
      have HE2 := hid (HE.out.up hB2)
      have HT := hid hT
      clear hB2 HB h2 HE HR hg hT
      go_wp2_with fail
      refine HT.out.parse.mono ?_
      rintro e w3 ⟨hB3, acc3, la3, lc3, hac3, rfl, hea3⟩
      have HB3 : Hid (Below w.heap.size w w3) := HB2.out.trans (hB3.mono HB2.out.size)
      have HE3 := hid (HE2.out.up hB3)
      have HA := hid hac3
      have HF := hid hea3
      clear hB3 HB2 HT hac3 hea3 HE2
      go_wp2_with fail
      refine (tlive_any w3).mono ?_
      rintro e w4 ⟨rfl, hB4⟩
      have HB4 : Hid (Below w.heap.size w w4) := HB3.out.trans (hB4.mono HB3.out.size)
      have HE4 := hid (HE3.out.up hB4)
      have HF4 := hid (HF.out.up hB4)
      clear hB4 HB3 HE3 HF
      go_wp2_with fail
      refine (fsameAll_true acc acc3 la la3 lc lc3 w4 HE4.out HF4.out HA.out.symm (by have := HL.out; omega)).mono ?_
      rintro e w5 ⟨rfl, hB5⟩
      have HB5 : Hid (Below w.heap.size w w5) := HB4.out.trans (hB5.mono HB4.out.size)
      clear hB5 HB4 HE4 HF4 HA HL
      go_wp2
      go_ret
      exact ⟨rfl, HB5.out⟩
end Go.Proofs.Ytdfnhgkabaikaaa
