/- A disk stays when a block of bytes that is not its own is written. -/
import Derived.Test.YtjgclmlclkfgpaaGreatBaseD
import Derived.Test.YtjgclmlclkfgpaaGreatBaseC
namespace Go.Proofs.YtjgclmlclkfgpaaGreat
open Go.RowKit
theorem ownB.not {w : World} {b : Nat} {L : List UInt8} {ad : Addr} {v : Value} (h : ownB w b L) (hc : w.cell? ad = some v) (hv : ∀ n, v ≠ .int .u8 n) : ad.block ≠ b := fun e => by
  have hp := plain_addr hc
  rw [hp, e, cell_of_block h] at hc
  simp only [List.getElem?_toArray, List.getElem?_map] at hc
  cases hq : L[ad.off]? with
  | none => rw [hq] at hc; cases hc
  | some x =>
    rw [hq] at hc
    exact hv _ (Option.some.inj hc).symm
theorem encOp_not (o : OpS) (n : Int) : encOp o ≠ .int .u8 n := by cases o <;> simp [encOp]
theorem AnyAt.keepB {w w' : World} {d : DL} {S : DiskS} {F : Nat → Prop} {b : Nat} {L : List UInt8} (h : AnyAt w d S F) (hb : ownB w b L) (hF : ¬ F b) (k : Keeps (fun i => i = b) w w') : AnyAt w' d S F := by
  rcases h with ⟨h, hf⟩ | ⟨h, hf⟩
  · refine .inl ⟨?_, hf⟩
    have hne : ∀ i, d.cutFoot S.waits i → ¬ i = b := fun i hi e => hF (e ▸ hf i hi)
    obtain ⟨h1, ⟨a, e1, e2, e3⟩, ⟨ad, c, e4, e5, e6⟩, h4⟩ := h
    refine ⟨h1.keep k (hne _ (.inl rfl)) (fun i hi => hne i (.inr hi)), ⟨a, e1, e2, fun q hq => ⟨fun j u hu => ?_, Nat.lt_of_lt_of_le (e3 q hq).2 k.size⟩⟩, ⟨ad, c, e4, fun j s hj => ?_, e6⟩, h4⟩
    · refine k.cell ((e3 q hq).1 j u hu) (hb.not ((e3 q hq).1 j u hu) ?_)
      rw [List.getElem?_map] at hu
      cases ho : S.ops[j]? with
      | none => rw [ho] at hu; cases hu
      | some o => rw [ho] at hu; obtain rfl := Option.some.inj hu; exact encOp_not o
    · exact k.cell (e5 j s hj) (hb.not (e5 j s hj) (fun n => by simp))
  · refine .inr ⟨?_, hf⟩
    have hne : ∀ i, d.foot S.waits i → ¬ i = b := fun i hi e => hF (e ▸ hf i hi)
    refine h.keep k hne (fun i hi e => ?_)
    obtain ⟨ad, c, e4, e5, e6⟩ := h.first
    have hpos : 0 < S.first.length := by rw [h.flen]; exact h.plates.pos
    have hc := e5 0 S.first[0] (List.getElem?_eq_getElem hpos)
    have h1 := hb.not hc (fun n => by simp)
    rw [add_block] at h1
    rw [e4] at hi
    exact h1 ((Option.some.inj hi).trans e)
theorem LogIn.keepB {w w' : World} {p : Nat} {d : DL} {S : DiskS} {size rec : Nat} {F : Nat → Prop} {b : Nat} {L : List UInt8} (h : LogIn w p d S size rec F) (hb : ownB w b L) (hF : ¬ F b) (k : Keeps (fun i => i = b) w w') : LogIn w' p d S size rec F := by
  refine ⟨k.heap h.heap (fun e => ?_), h.disk.keepB hb hF k, h.off⟩
  have e2 : p = b := e
  have h1 := h.heap
  rw [e2, hb] at h1
  simp only [Option.some.injEq, Obj.cells.injEq] at h1
  exact absurd h1.2.1 (by decide)
end Go.Proofs.YtjgclmlclkfgpaaGreat
