/- A cache stays when a block of numbers or bools is written that is none of its own. -/
import Derived.Test.YtkkmbgjlmdddoabGreatAlPc
namespace Go.Proofs.YtkkmbgjlmdddoabGreat
open Go.RowKit Go.Maps
/-- A block of numbers or bools, or of a map of the reference's. -/
def offN (w : World) (b : Nat) : Prop := ∃ cs t fr, w.heap[b]? = some (.cells cs t fr) ∧ (t = 3 ∨ t = 4 ∨ t = 88) ∧ ∀ v ∈ cs.toList, (∃ n, v = .int .i64 n) ∨ (∃ x, v = .bool x) ∨ ∃ a n c, v = .slice a n c
theorem offN.not {w : World} {b : Nat} {ad : Addr} {v : Value} (h : offN w b) (hc : w.cell? ad = some v) (hv : (∀ n, v ≠ .int .i64 n) ∧ (∀ x, v ≠ .bool x) ∧ ∀ a n c, v ≠ .slice a n c) : ad.block ≠ b := fun e => by
  obtain ⟨cs, t, fr, hb, -, hk⟩ := h
  have hp := plain_addr hc
  rw [hp, e, cell_of_block hb] at hc
  have hm : v ∈ cs.toList := by
    obtain ⟨h1, h2⟩ := Array.getElem?_eq_some_iff.1 hc
    rw [← h2]; simp
  rcases hk v hm with ⟨n, rfl⟩ | ⟨x, rfl⟩ | ⟨a, n, c, rfl⟩
  · exact hv.1 n rfl
  · exact hv.2.1 x rfl
  · exact hv.2.2 a n c rfl
theorem offN.noMap {w : World} {b : Nat} (h : offN w b) (e : Array MapEntry) (k : Nat) : w.heap[b]? ≠ some (.map e k) := fun hm => by
  obtain ⟨cs, t, fr, hb, -⟩ := h
  rw [hb] at hm; cases hm
theorem offN.type {w : World} {b : Nat} (h : offN w b) {cs : Array Value} {t : TypeId} {fr : Nat × Nat} (hm : w.heap[b]? = some (.cells cs t fr)) : t = 3 ∨ t = 4 ∨ t = 88 := by
  obtain ⟨cs', t', fr', hb, ht, -⟩ := h
  rw [hb] at hm
  simp only [Option.some.injEq, Obj.cells.injEq] at hm
  rw [← hm.2.1]; exact ht
theorem offN_bools {w : World} {b : Nat} {L : List Bool} (h : w.heap[b]? = some (.cells (L.map Value.bool).toArray 4 (0, 0))) : offN w b := by
  refine ⟨_, _, _, h, .inr (.inl rfl), fun v hv => .inr (.inl ?_)⟩
  simp only [List.mem_map] at hv
  obtain ⟨x, -, rfl⟩ := hv
  exact ⟨x, rfl⟩
theorem offN_ints {w : World} {b : Nat} {L : List Int} {fr : Nat × Nat} (h : w.heap[b]? = some (.cells (L.map (fun n => Value.int .i64 n)).toArray 3 fr)) : offN w b := by
  refine ⟨_, _, _, h, .inl rfl, fun v hv => .inl ?_⟩
  simp only [List.mem_map] at hv
  obtain ⟨n, -, rfl⟩ := hv
  exact ⟨n, rfl⟩
theorem AnyAt.keepY {w w' : World} {d : DL} {S : DiskS} {F : Nat → Prop} {b : Nat} (h : AnyAt w d S F) (hb : offN w b) (hF : ¬ F b) (k : Keeps (fun i => i = b) w w') : AnyAt w' d S F := by
  rcases h with ⟨h, hf⟩ | ⟨h, hf⟩
  · refine .inl ⟨?_, hf⟩
    have hne : ∀ i, d.cutFoot S.waits i → ¬ i = b := fun i hi e => hF (e ▸ hf i hi)
    obtain ⟨h1, ⟨a, e1, e2, e3⟩, ⟨ad, c, e4, e5, e6⟩, h4⟩ := h
    refine ⟨h1.keep k (hne _ (.inl rfl)) (fun i hi => hne i (.inr hi)), ⟨a, e1, e2, fun q hq => ⟨fun j u hu => ?_, Nat.lt_of_lt_of_le (e3 q hq).2 k.size⟩⟩, ⟨ad, c, e4, fun j s hj => ?_, e6⟩, h4⟩
    · refine k.cell ((e3 q hq).1 j u hu) (hb.not ((e3 q hq).1 j u hu) ?_)
      rw [List.getElem?_map] at hu
      cases ho : S.ops[j]? with
      | none => rw [ho] at hu; cases hu
      | some o => rw [ho] at hu; obtain rfl := Option.some.inj hu; cases o <;> simp [encOp]
    · exact k.cell (e5 j s hj) (hb.not (e5 j s hj) (by simp))
  · refine .inr ⟨?_, hf⟩
    have hne : ∀ i, d.foot S.waits i → ¬ i = b := fun i hi e => hF (e ▸ hf i hi)
    refine h.keep k hne (fun i hi e => ?_)
    obtain ⟨ad, c, e4, e5, e6⟩ := h.first
    have hpos : 0 < S.first.length := by rw [h.flen]; exact h.plates.pos
    have hc := e5 0 S.first[0] (List.getElem?_eq_getElem hpos)
    have h1 := hb.not hc (by simp)
    rw [add_block] at h1
    rw [e4] at hi
    exact h1 ((Option.some.inj hi).trans e)
theorem LogIn.keepY {w w' : World} {p : Nat} {d : DL} {S : DiskS} {size rec : Nat} {F : Nat → Prop} {b : Nat} (h : LogIn w p d S size rec F) (hb : offN w b) (hF : ¬ F b) (k : Keeps (fun i => i = b) w w') : LogIn w' p d S size rec F := by
  refine ⟨k.heap h.heap (fun e => ?_), h.disk.keepY hb hF k, h.off⟩
  have e2 : p = b := e
  have h1 := h.heap
  rw [e2] at h1
  exact absurd (hb.type h1) (by decide)
theorem CacheAt.keepY {w w' : World} {c : Nat} {L : CLay} {C : CS} (h : CacheAt w c L C) {b : Nat} (hg : offN w b) (hF : ¬ L.F b) (k : Keeps (fun i => i = b) w w') : CacheAt w' c L C := by
  obtain ⟨es, kk, hm⟩ := h.dmap
  obtain ⟨es', kk', hu⟩ := h.umap
  have hmap : ∀ m e k0, w.heap[m]? = some (.map e k0) → m ≠ b := fun m e k0 hm e1 => by
    subst e1
    exact hg.noMap _ _ hm
  exact {
    heap := k.heap h.heap (fun e => by
      have e1 : c = b := e
      have h1 := h.heap
      rw [e1] at h1
      exact absurd (hg.type h1) (by decide))
    log := h.log.keepY hg hF k
    lt := fun i hi => Nat.lt_of_lt_of_le (h.lt i hi) k.size
    dirty := h.dirty.keep k (hmap _ _ _ hm)
    bytes := fun n v hv => by
      obtain ⟨g', cap, bs, h1, h2, h3, h4, h5⟩ := h.bytes n v hv
      subst h2
      refine ⟨g', cap, bs, h1, rfl, fun j hj => k.cell (h3 j hj) (hg.not (h3 j hj) (by simp)), h4, h5⟩
    clean := h.clean
    used := h.used.keep k (hmap _ _ _ hu)
    offc := h.offc
    offd := h.offd
    offu := h.offu
    ne := h.ne
    pages := h.pages
    fits := h.fits
    few := h.few
    ub := h.ub }
section
variable {w w' : World} {c : Nat} {F : Nat → Prop} {size N : Nat} {Pg Cm : Nat → List UInt8} {D : Int → Bool} {o u : Nat}
theorem Pc.keepY (h : Pc w c F size N Pg Cm D o u) {b : Nat} (hg : offN w b) (hF : ¬ F b) (k : Keeps (fun i => i = b) w w') : Pc w' c F size N Pg Cm D o u := by
  obtain ⟨L, C, h⟩ := h
  exact ⟨L, C, h.at_.keepY hg (fun hf => hF (h.foot _ (.inl hf))) k, h.sz, h.nn, h.made, h.ops, h.uses, h.pg, h.cm, h.dirty, h.room, h.foot, fun i hi => Nat.lt_of_lt_of_le (h.lt i hi) k.size, Nat.lt_of_lt_of_le h.p0 k.size, h.quiet⟩
end
end Go.Proofs.YtkkmbgjlmdddoabGreat
