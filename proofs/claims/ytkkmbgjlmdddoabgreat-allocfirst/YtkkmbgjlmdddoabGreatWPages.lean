/- A deed's pages, handed to Commit. -/
import Derived.Test.YtkkmbgjlmdddoabGreatDeedA
import Derived.Test.YtkkmbgjlmdddoabGreatWPlain
import Derived.Test.YtkkmbgjlmdddoabGreatWDeeds
namespace Go.Proofs.YtkkmbgjlmdddoabGreat
open Go.RowKit
def deedPs (s : Bool) (ns : List Int) (bs : Nat → Nat) (m : Nat) : List PageS := (List.range m).map (fun j => ⟨ns.getD j 0, some ⟨bs j, 0, none⟩, plen s j, 512⟩)
theorem length_deedPs (s : Bool) (ns : List Int) (bs : Nat → Nat) (m : Nat) : (deedPs s ns bs m).length = m := by simp [deedPs]
theorem deedPs_at (s : Bool) (ns : List Int) (bs : Nat → Nat) (m j : Nat) (h : j < (deedPs s ns bs m).length) : (deedPs s ns bs m)[j] = ⟨ns.getD j 0, some ⟨bs j, 0, none⟩, plen s j, 512⟩ := by simp [deedPs]
theorem deedAny_pages {s : Bool} {ns : List Int} {m : Nat} {x : UInt8} {K : Nat} {w' : World} {e : Ending} (h : DeedAny s ns m x K w' e) :
    ∃ pa cap bs, e = .returned (.slice pa m cap) ∧ pagesAt w' pa (deedPs s ns bs m) ∧ (∀ j, j < m → K ≤ bs j ∧ ownB w' (bs j) (rowX x j)) ∧ ∀ ad, pa = some ad → K < ad.block := by
  obtain ⟨v, bs, rfl, hrow, hb⟩ := h
  by_cases h0 : 0 < m
  · obtain ⟨g, cap, rfl, h1, h2⟩ := hrow.form h0
    refine ⟨some ⟨g, 0, none⟩, cap, bs, rfl, fun j hj => ⟨g, 0, rfl, fun i hi => ?_⟩, hb, fun ad e => by cases e; exact (hrow.lt g rfl).1⟩
    rw [length_deedPs] at hi
    obtain ⟨a, b⟩ := pageCellsS_at s ns bs m i hi
    have c0 := hrow.cellAt (i * 2) (by omega)
    have c1 := hrow.cellAt (i * 2 + 1) (by omega)
    rw [deedPs_at]
    rw [a] at c0
    rw [b] at c1
    refine ⟨?_, ?_⟩
    · rw [Nat.zero_add]; exact c0
    · rw [Nat.zero_add]; exact c1
  · obtain rfl : m = 0 := by omega
    rcases Joins.ownsRow_forms hrow with ⟨rfl, -⟩ | ⟨g, cap, rfl⟩
    · exact ⟨none, 0, bs, rfl, fun j hj => by simp [deedPs] at hj, hb, fun ad e => by cases e⟩
    · exact ⟨some ⟨g, 0, none⟩, cap, bs, rfl, fun j hj => by simp [deedPs] at hj, hb, fun ad e => by cases e; exact (hrow.lt g rfl).1⟩
section
variable {p : Nat} {d : DL} {S : DiskS} {size rec : Nat} {F : Nat → Prop}
/-- Commit of a deed's pages. -/
theorem commit_deed (s : Bool) (ns : List Int) (m : Nat) (x : UInt8) (bs : Nat → Nat) (pa : Option Addr) (pc : Nat) (w : World) (K : Nat) (h : LogIn w p d S size rec F) (hF : ∀ i, F i → i < K) (hK : K ≤ w.heap.size) (hs : size + 1 ≤ S.safe.length) (hp : pagesAt w pa (deedPs s ns bs m))
    (hb : ∀ j, j < m → K ≤ bs j ∧ ownB w (bs j) (rowX x j)) (ho : S.ops.length ≤ 800000) :
    Calls Tryz.prog 46 #[.pointer (some ⟨p, 0, none⟩), .slice pa m pc] w fun e w' => e = .returned (.int .i64 (comErr (pagesS S size) size (deedPs s ns bs m))) ∧ ∃ d', LogIn w' p d' (comS S size (deedPs s ns bs m) (rowX x)) size rec (fun i => F i ∨ (w.heap.size ≤ i ∧ i < w'.heap.size)) ∧ Keeps F w w' := by
  have := commit_any (deedPs s ns bs m) pa pc (rowX x) w h (fun i hi => Nat.lt_of_lt_of_le (hF i hi) hK) hs hp (fun j hj _ => by
    rw [deedPs_at]
    rw [length_deedPs] at hj
    obtain ⟨h1, h2⟩ := hb j hj
    exact ⟨⟨bs j, 0, none⟩, rfl, h2.at, length_rowX x j, fun hf => by have : bs j < K := hF _ hf; omega⟩) ho
  rw [length_deedPs] at this
  exact this
end
end Go.Proofs.YtkkmbgjlmdddoabGreat
