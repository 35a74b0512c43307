/- A log stays when blocks are written that are not its own: told by what lies in them. -/
import Derived.Test.YtjgclmlclkfgpaaGreatBaseD
import Derived.Test.YtjgclmlclkfgpaaGreatBaseC
namespace Go.Proofs.YtjgclmlclkfgpaaGreat
open Go.RowKit
theorem AnyAt.keepN {w w' : World} {d : DL} {S : DiskS} {F G : Nat → Prop} (h : AnyAt w d S F) (hF : ∀ i, F i → ¬ G i) (hop : ∀ ad o, w.cell? ad = some (encOp o) → ¬ G ad.block) (hst : ∀ ad s, w.cell? ad = some (.string s) → ¬ G ad.block) (k : Keeps G w w') : AnyAt w' d S F := by
  rcases h with ⟨h, hf⟩ | ⟨h, hf⟩
  · refine .inl ⟨?_, hf⟩
    have hne : ∀ i, d.cutFoot S.waits i → ¬ G i := fun i hi => hF i (hf i hi)
    obtain ⟨h1, ⟨a, e1, e2, e3⟩, ⟨ad, c, e4, e5, e6⟩, h4⟩ := h
    refine ⟨h1.keep k (hne _ (.inl rfl)) (fun i hi => hne i (.inr hi)), ⟨a, e1, e2, fun q hq => ⟨fun j u hu => ?_, Nat.lt_of_lt_of_le (e3 q hq).2 k.size⟩⟩, ⟨ad, c, e4, fun j s hj => ?_, e6⟩, h4⟩
    · have hc := (e3 q hq).1 j u hu
      rw [List.getElem?_map] at hu
      cases ho : S.ops[j]? with
      | none => rw [ho] at hu; cases hu
      | some o =>
        rw [ho] at hu
        obtain rfl := Option.some.inj hu
        exact k.cell hc (hop _ o hc)
    · exact k.cell (e5 j s hj) (hst _ _ (e5 j s hj))
  · refine .inr ⟨?_, hf⟩
    have hne : ∀ i, d.foot S.waits i → ¬ G i := fun i hi => hF i (hf i hi)
    refine h.keep k hne (fun i hi e => ?_)
    obtain ⟨ad, c, e4, e5, e6⟩ := h.first
    have hpos : 0 < S.first.length := by rw [h.flen]; exact h.plates.pos
    have hc := e5 0 S.first[0] (List.getElem?_eq_getElem hpos)
    have h1 := hst _ _ hc
    rw [add_block] at h1
    rw [e4] at hi
    exact h1 ((Option.some.inj hi).symm ▸ e)
theorem LogIn.keepN {w w' : World} {p : Nat} {d : DL} {S : DiskS} {size rec : Nat} {F G : Nat → Prop} (h : LogIn w p d S size rec F) (hp : ¬ G p) (hF : ∀ i, F i → ¬ G i) (hop : ∀ ad o, w.cell? ad = some (encOp o) → ¬ G ad.block) (hst : ∀ ad s, w.cell? ad = some (.string s) → ¬ G ad.block) (k : Keeps G w w') : LogIn w' p d S size rec F :=
  ⟨k.heap h.heap hp, h.disk.keepN hF hop hst k, h.off⟩
theorem cell_map {w : World} {b : Nat} {es : Array MapEntry} {c : Nat} (h : w.heap[b]? = some (.map es c)) {ad : Addr} {v : Value} (hc : w.cell? ad = some v) : ad.block ≠ b := fun e => by
  have hp := plain_addr hc
  rw [hp, e] at hc
  simp [World.cell?, h] at hc
end Go.Proofs.YtjgclmlclkfgpaaGreat
