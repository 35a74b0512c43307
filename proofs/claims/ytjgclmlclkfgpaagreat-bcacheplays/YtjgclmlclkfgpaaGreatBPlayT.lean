/- A cache and the reference's: what both tell. -/
import Derived.Test.YtjgclmlclkfgpaaGreatBPlayC
namespace Go.Proofs.YtjgclmlclkfgpaaGreat
open Go.RowKit Go.Maps
section
variable {w0 w w' : World} {c q size N o u : Nat} {P : Nat → Prop}
theorem JAt.cached (h : JAt w0 w c q size N o u P) :
    Calls Tryz.prog 11 #[.pointer (some ⟨c, 0, none⟩)] w fun e w1 => ∃ a l cp, e = .returned (.slice a (l : Nat) cp) ∧ JAt w0 w1 c q size N o u P ∧ Calls Tryz.prog 12 #[.pointer (some ⟨q, 0, none⟩)] w1 fun e2 w2 => ∃ a2 cp2, e2 = .returned (.slice a2 l cp2) ∧ JAt w0 w2 c q size N o u P ∧
      Calls Tryz.prog 10 #[.slice a l cp, .slice a2 l cp2] w2 fun e3 w3 => e3 = .returned (.bool true) ∧ Below w2.heap.size w2 w3 := by
  have h' := h
  obtain ⟨L, C, m, r, fv, lv, vs, Rd, B, R, h, -, -, -⟩ := h
  refine (bcached_any w h.at_).mono ?_
  rintro e w1 ⟨v, ts, rfl, hp, hr, hrow, hb⟩
  obtain rfl := h.like.cached hp hr
  obtain ⟨a, cp, rfl, hi⟩ := ints_of_row hrow
  have hj := h.below hb
  refine ⟨a, R.cs.length, cp, rfl, h'.below hb, (r4cached_any w1 hj.r4).mono ?_⟩
  rintro e w2 ⟨a2, cp2, rfl, hi2, hb2⟩
  have := same_ints R.cs R.cs a a2 cp cp2 w2 (hi.below hb2) hi2 (by have := h.r4.few.2; omega)
  rw [decide_eq_true rfl] at this
  exact ⟨a2, cp2, rfl, (h'.below hb).below hb2, this⟩
theorem JAt.dirty (h : JAt w0 w c q size N o u P) :
    Calls Tryz.prog 13 #[.pointer (some ⟨c, 0, none⟩)] w fun e w1 => ∃ a l cp, e = .returned (.slice a (l : Nat) cp) ∧ JAt w0 w1 c q size N o u P ∧ Calls Tryz.prog 14 #[.pointer (some ⟨q, 0, none⟩)] w1 fun e2 w2 => ∃ a2 cp2, e2 = .returned (.slice a2 l cp2) ∧ JAt w0 w2 c q size N o u P ∧
      Calls Tryz.prog 10 #[.slice a l cp, .slice a2 l cp2] w2 fun e3 w3 => e3 = .returned (.bool true) ∧ Below w2.heap.size w2 w3 := by
  have h' := h
  obtain ⟨L, C, m, r, fv, lv, vs, Rd, B, R, h, -, -, -⟩ := h
  have hpg := h.pages
  have hfl := h.firstLen
  have hf4 : (refOf C.S).first.length ≤ 4096 := by rw [hfl]; exact h.at_.four
  have hfs : C.size + 1 ≤ (refOf C.S).first.length := by rw [hfl]; exact h.at_.fits
  refine (bdirty_any w h.at_).mono ?_
  rintro e w1 ⟨v, rfl, hrow, -, hb⟩
  obtain ⟨a, cp, rfl, hi⟩ := ints_of_row hrow
  have hj := h.below hb
  have hd := r4dirty_any w1 hj.r4 hj.rl hf4 hfs
  rw [hpg, h.like.keys] at hd
  refine ⟨a, C.dirtyKeys.length, cp, rfl, h'.below hb, hd.mono ?_⟩
  rintro e w2 ⟨a2, cp2, rfl, hi2, hb2⟩
  have := same_ints C.dirtyKeys C.dirtyKeys a a2 cp cp2 w2 (hi.below hb2) hi2 (by have := h.room; omega)
  rw [decide_eq_true rfl] at this
  exact ⟨a2, cp2, rfl, (h'.below hb).below hb2, this⟩
theorem JAt.room (h : JAt w0 w c q size N o u P) :
    Calls Tryz.prog 15 #[.pointer (some ⟨c, 0, none⟩)] w fun e w1 => ∃ k : Int, e = .returned (.int .i64 k) ∧ JAt w0 w1 c q size N o u P ∧ Calls Tryz.prog 16 #[.pointer (some ⟨q, 0, none⟩)] w1 fun e2 w2 => e2 = .returned (.int .i64 k) ∧ JAt w0 w2 c q size N o u P := by
  have h' := h
  obtain ⟨L, C, m, r, fv, lv, vs, Rd, B, R, h, -, -, -⟩ := h
  refine (broom_any w h.at_).mono ?_
  rintro e w1 ⟨rfl, hb⟩
  have hj := h.below hb
  refine ⟨_, rfl, h'.below hb, (r4room_any w1 hj.r4 hj.rl).mono ?_⟩
  rintro e w2 ⟨rfl, hb2⟩
  exact ⟨by rw [h.like.len], (h'.below hb).below hb2⟩
end
end Go.Proofs.YtjgclmlclkfgpaaGreat
