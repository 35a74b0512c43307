/- A map that is opened again from its disk. -/
import Derived.Test.YtkkmbgjlmdddoaaGreatBaseH
import Derived.Test.YtkkmbgjlmdddoaaGreatBaseG
namespace Go.Proofs.YtkkmbgjlmdddoaaGreat
open Go.RowKit
section
variable {w wr : World} {c m r : Nat} {P : Nat → Prop} {size N k : Nat} {Lp Li : List Bool} {t : Nat}
theorem ino6016 : inoS (superL 60 16) = 16 := by decide +kernel
theorem dk_zero {N : Nat} {D : Int → Bool} {C : CS} (h : (dkD N D).length ≤ 0) (e : C.dirtyKeys = dkD N D) : C.dirtyKeys = [] := by
  rw [e]; exact List.length_eq_zero_iff.1 (by omega)
/-- Log, Disk, Open, New and Open, one behind the other. -/
theorem PrAt.again (h : PrAt w wr c m r P size N k Lp Li 0 t) (ht : t ≤ 200) (hs : 1 ≤ size) (hino : inoS (superL N k) = k) :
    ∃ p, Calls Tryz.prog 19 #[.pointer (some ⟨c, 0, none⟩)] wr (fun e w2 => e = .returned (.pointer (some ⟨p, 0, none⟩)) ∧ w2 = wr) ∧
      Calls Tryz.prog 20 #[.pointer (some ⟨p, 0, none⟩)] wr fun e w2 => ∃ q, e = .returned (.pointer (some ⟨q, 0, none⟩)) ∧
        Calls Tryz.prog 18 #[.pointer (some ⟨q, 0, none⟩), .int .i64 size] w2 fun e w3 => ∃ s, e = .returned (.tuple #[.pointer (some ⟨s, 0, none⟩), .int .i64 0]) ∧
          Calls Tryz.prog 21 #[.pointer (some ⟨s, 0, none⟩), .int .i64 2] w3 fun e w4 => ∃ c5, e = .returned (.tuple #[.pointer (some ⟨c5, 0, none⟩), .int .i64 0]) ∧
            Calls Tryz.prog 22 #[.pointer (some ⟨c5, 0, none⟩)] w4 fun e w5 => ∃ m5, e = .returned (.tuple #[.pointer (some ⟨m5, 0, none⟩), .int .i64 0]) ∧ PrAt w w5 c5 m5 r (fun _ => False) size N k Lp Li 0 (t + 1) := by
  obtain ⟨F, g, cp, gi, ci, Pg, Cm, D, o, u, h⟩ := h
  obtain ⟨L, C, hp⟩ := h.pc
  have hd0 := dk_zero h.dirt hp.keys
  have h3 := hp.at_
  have hpg := h3.pages
  have hfi := h3.fits
  have hsz := hp.sz
  have hnn := hp.nn
  have hop := hp.ops
  have hoo := h.ops
  have hmy := h.may
  unfold mayP at hmy
  have hlen : C.S.safe.length = 1 + size + N := by unfold pagesS at hpg; omega
  have hsee : ∀ j, j < N → secL C.S (1 + size + j) = Pg j := fun j hj => by
    have h1 := h3.comSee (by rw [hd0]; simp) j (by omega)
    unfold CS.com at h1
    rw [if_pos hd0, hp.pg j hj, hsz] at h1
    exact h1
  have hrl := h.ref.lt
  have hgl := h.ref.gp
  have hil := h.ref.gl
  have hw0 := h.out.size
  refine ⟨L.p, blog_any wr h3, (log_disk wr h3.log (by omega)).mono ?_⟩
  rintro e w2 ⟨hb2, d2, rfl, hC2, hf2⟩
  refine ⟨d2.p, rfl, (open_any d2 C.S (fun i => d2.cutFoot C.S.waits i) size w2 (.inl ⟨hC2, fun _ h => h⟩) (by omega) hs (by rw [hlen]; omega) (fun n hn => hp.made.sec n hn)).mono ?_⟩
  rintro e w3 ⟨hb3, ho3⟩
  have hns := headNums_ok (size := size) (N := pagesS C.S size) hp.quiet.2 (by unfold pagesS; omega)
  rcases ho3 with ⟨hno, -⟩ | ⟨ns, s, d3, hso, rfl, hs3, hL3⟩
  · rw [hns] at hno; cases hno
  obtain rfl : [] = ns := Option.some.inj (hns.symm.trans hso)
  have hoS : openS C.S size [] = C.S := rfl
  rw [hoS] at hL3
  have hsl := lt_of_heap hL3.heap
  refine ⟨s, rfl, (bnew_ok s d3 _ size _ 2 (by omega) (by omega) w3 hL3 (fun i hi => Nat.lt_trans hi.2 hsl) (by omega)).mono ?_⟩
  rintro e w4 ⟨hb4, c5, L5, rfl, hc5, hdv5, hF5, hft5, hC5⟩
  have hW2 := hb2.size
  have hW3 := hb3.size
  have hW4 := hb4.size
  have hfo : ∀ i, L5.foot c5 i → w2.heap.size ≤ i := fun i hi => by
    rcases hft5 i hi with h | h
    · exact h.1
    · omega
  have hB4 : Below wr.heap.size wr w4 := (hb2.trans (hb3.mono hW2)).trans (hb4.mono (by omega))
  have hpN : pagesS C.S size = N := by rw [← hsz, ← hpg]; exact hnn
  have hp4 : Pc w4 c5 (fun i => L5.foot c5 i) size N Pg Pg (fun _ => false) o 0 := by
    rw [hpN] at hC5
    exact ⟨L5, _, hC5, rfl, rfl, hp.made, hop, Nat.le_refl _, fun j hj => hsee j hj, fun j hj => hsee j hj, fun _ => rfl, by rw [CS.dirtyKeys_none rfl]; simp, fun i hi => hi, fun i hi => hC5.footLt i hi, lt_of_heap hC5.log.heap, hp.quiet⟩
  have hr4 := h.ref.below hB4
  have hO4 := h.out.trans (hB4.mono hw0)
  refine ⟨c5, rfl, (aOpen_any (by omega) (by omega) hp4).mono ?_⟩
  rintro e w5 ⟨hk5, hp5, hx⟩
  rw [h.b0, hino] at hx
  rcases hx with ⟨hno, -⟩ | ⟨-, -, m5, hm5, hF5', hmb5, rfl⟩
  · exact absurd ⟨h.may, rfl⟩ hno
  have hnF : ∀ i, i < wr.heap.size → ¬ L5.foot c5 i := fun i hi hf => by have := hfo i hf; omega
  exact ⟨m5, rfl, _, g, cp, gi, ci, Pg, Pg, _, o, _, hO4.trans (hk5.below hO4.size (fun i hi => by have := hfo i hi; omega)), fun i hi => by have := hfo i hi; omega, hF5', hmb5, hp5, hr4.keep hk5 (hnF r hrl) (hnF g hgl) (hnF gi hil), ⟨hnF r hrl, hnF g hgl, hnF gi hil⟩, h.newr, h.lp, h.li, h.b0, h.b1, h.b2, h.may, h.n5, by rw [dkD_none]; simp, by omega, by omega, fun i hi => hi.elim⟩
end
end Go.Proofs.YtkkmbgjlmdddoaaGreat
