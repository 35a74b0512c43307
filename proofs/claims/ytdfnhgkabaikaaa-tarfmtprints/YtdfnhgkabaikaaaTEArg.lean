/- Entries that were handed in. -/
import Derived.Test.YtdfnhgkabaikaaaTArg
namespace Go.Proofs.Ytdfnhgkabaikaaa
open Go.ChangeShapes Go.WideShapes Go.ChangeAt Go.RowKit
theorem add_off (a : Addr) (j : Nat) : (a.add j).off = a.off + j := by
  unfold Addr.add; split <;> simp_all
theorem add_block' (a : Addr) (j : Nat) : (a.add j).block = a.block := by
  unfold Addr.add; split <;> simp_all
theorem list_of {α : Type} {P : Nat → α → Prop} : ∀ n : Nat, (∀ i, i < n → ∃ x, P i x) → ∃ l : List α, l.length = n ∧ ∀ i (hi : i < l.length), P i l[i]
  | 0, _ => ⟨[], rfl, fun i hi => by simp at hi⟩
  | n + 1, h => by
    obtain ⟨l, hl, hp⟩ := list_of n (fun i hi => h i (by omega))
    obtain ⟨x, hx⟩ := h n (by omega)
    refine ⟨l ++ [x], by simp [hl], fun i hi => ?_⟩
    by_cases e : i < l.length
    · rw [List.getElem_append_left e]; exact hp i e
    · have e2 : i = n := by simp at hi; omega
      subst e2
      rw [List.getElem_append_right (by omega)]
      simpa [hl] using hx
/-- Bytes within something that was handed in. -/
theorem bytes_trod {H : Type} {enc : TypeId × Value → H} {W : World} {v : Value} {y : DataW H × List MemPlace} {fuel : Nat} (h : DataW.trod enc Try.prog W 0 (fun _ => true) true fuel 23 [v] = some y) : ∃ bs, Rd W v bs := by
  rcases open_ints Try.underlying23 Try.underlying5 cells5 h with ⟨hcs, hx⟩ | ⟨a, len0, cap0, zs, hcs, _, hl, hm, hz, hx, hcell, hwz⟩
  · simp only [List.cons.injEq, and_true] at hcs
    subst hcs
    exact ⟨[], Rd.nil W⟩
  · simp only [List.cons.injEq, and_true] at hcs
    subst hcs
    simp only [if_true] at hz
    have hlen : ((zs.take len0).map fun n => UInt8.ofNat n.toNat).length = len0 := by simp; omega
    refine ⟨(zs.take len0).map fun n => UInt8.ofNat n.toNat, ⟨some a, cap0, by rw [hlen], by rw [hlen]; exact hl, by unfold maxLen at hm; omega, (fun h => by cases h), fun ad hadd j x hj => ?_⟩⟩
    cases hadd
    have hjl : j < len0 := by have := (List.getElem?_eq_some_iff.1 hj).1; omega
    have hc := hcell j (by omega)
    have hjz : j < zs.length := by omega
    rw [List.getElem?_map, List.getElem?_take_of_lt hjl, List.getElem?_eq_getElem hjz] at hj
    simp only [Option.map_some, Option.some.injEq] at hj
    have hb := bounds_u8 (hwz zs[j] (List.getElem_mem hjz))
    have hg : zs.getD j 0 = zs[j] := by rw [List.getD_eq_getElem?_getD, List.getElem?_eq_getElem hjz]; rfl
    have hV : zs[j] = V x := by
      rw [← hj]; unfold V; rw [UInt8.toNat_ofNat']; omega
    have h0 := plain_addr (hcell 0 (by omega))
    rw [Addr.add, if_pos rfl] at h0
    rw [hg, hV] at hc
    rw [h0, Addr.add_mid] at hc
    exact ⟨a.block, a.off, h0, lt_of_cell hc, hc⟩
theorem cellsE : Try.prog.cellsOf 31 = 5 := by kernel_rfl
theorem bytesOfE : Try.prog.bytesOf 31 = 72 := by kernel_rfl
def enCells (p : EN × Value) : List Value := [str p.1.name, .int .i64 p.1.kind, .int .i64 p.1.mode, str p.1.link, p.2]
set_option maxRecDepth 100000 in
/-- The cells of an entry. -/
theorem entry_of {H : Type} {enc : TypeId × Value → H} {W : World} {fuel : Nat} {cs : List Value} {y : DataW H × List MemPlace} (hl : cs.length = 5) (h : DataW.trod enc Try.prog W 0 (fun _ => true) true fuel 31 cs = some y) : ∃ p : EN × Value, cs = enCells p ∧ Rd W p.2 p.1.data := by
  obtain ⟨xs, n, _, rfl, _, hlen, hf⟩ := DataW.trod_struct Try.underlying31 h
  match cs, hl, xs, hlen with
  | [c0, c1, c2, c3, c4], _, [y0, y1, y2, y3, y4], _ =>
    obtain ⟨v0, e0, _⟩ := DataW.trod_string Try.underlying9 (hf 0 _ rfl)
    obtain ⟨v1, e1, _⟩ := DataW.trod_int Try.underlying29 (hf 1 _ rfl)
    obtain ⟨v2, e2, _⟩ := DataW.trod_int Try.underlying3 (hf 2 _ rfl)
    obtain ⟨v3, e3, _⟩ := DataW.trod_string Try.underlying9 (hf 3 _ rfl)
    have f0 : c0 = .string v0 := by simpa [show Try.prog.cellsOf 9 = 1 by kernel_rfl] using e0
    have f1 : c1 = .int .i64 v1 := by simpa [show Try.prog.cellsOf 29 = 1 by kernel_rfl] using e1
    have f2 : c2 = .int .i64 v2 := by simpa [show Try.prog.cellsOf 3 = 1 by kernel_rfl] using e2
    have f3 : c3 = .string v3 := by simpa [show Try.prog.cellsOf 9 = 1 by kernel_rfl] using e3
    have h4 := hf 4 _ rfl
    have h4' : DataW.trod enc Try.prog W 0 (fun _ => true) true n 23 [c4] = some y4 := by simpa [show Try.prog.cellsOf 23 = 1 by kernel_rfl] using h4
    obtain ⟨bs, hR⟩ := bytes_trod h4'
    subst f0 f1 f2 f3
    exact ⟨(⟨v0.data.toList, v1, v2, v3.data.toList, bs⟩, c4), by simp [enCells, str], hR⟩
/-- One entry in memory. -/
theorem entry_cells {H : Type} {enc : TypeId × Value → H} {W : World} {a : Addr} {m : Nat} {y : DataW H × List MemPlace} (h : (W.cells? 0 a 5).bind (DataW.trod enc Try.prog W 0 (fun _ => true) true m 31) = some y) :
    ∃ p : EN × Value, a = ⟨a.block, a.off, none⟩ ∧ W.rangeAt a.block a.off (enCells p) ∧ Rd W p.2 p.1.data := by
  obtain ⟨cs, hcs, hf⟩ := Option.bind_eq_some_iff.1 h
  obtain ⟨_, hl, hc⟩ := World.cells?_some hcs
  obtain ⟨p, rfl, hR⟩ := entry_of hl hf
  have c0 := hc 0 (by omega)
  rw [List.getElem?_eq_getElem (by omega)] at c0
  have hp := plain_addr c0
  rw [Addr.add, if_pos rfl] at hp
  refine ⟨p, hp, fun j v hj => ?_, hR⟩
  have hjl : j < 5 := by have := (List.getElem?_eq_some_iff.1 hj).1; rw [hl] at this; exact this
  have := hc j hjl
  rw [hj, hp, Addr.add_mid] at this
  exact this
set_option maxRecDepth 100000 in
/-- Entries that were handed in. -/
theorem ents_open {H : Type} {enc : TypeId × Value → H} {W : World} {base : Nat} {v : Value} {d : DataW H} {p : List MemPlace} (hok : Value.okWide Try.prog W .any base 22 v) (h : DataW.Trod enc Try.prog W 0 (fun _ => true) true 22 v d p) :
    ∃ (l : List (EN × Value)) (a : Option Addr) (c : Nat), v = .slice a l.length c ∧ entsAt W a l ∧ l.length ≤ c ∧ c ≤ 9223372036854775807 ∧ (a = none → c = 0) ∧ ((d = .nil ∧ l = []) ∨ ∃ el sp, d = .slice el sp ∧ el.length = l.length) := by
  obtain ⟨a0, len, cap, rfl⟩ := okWide_slice Try.underlying22 hok
  obtain ⟨fuel, hf⟩ := h
  rcases DataW.trod_slice Try.underlying22 hf with ⟨hcs, hx⟩ | ⟨a, len', cap', elems, rest, n, _, hcs, hx, _, hl, hm, hel, hcell, _, _⟩
  · simp only [Value.cells, List.cons.injEq, and_true, Value.slice.injEq] at hcs
    obtain ⟨rfl, rfl, rfl⟩ := hcs
    simp only [Prod.mk.injEq] at hx
    obtain ⟨rfl, rfl⟩ := hx
    exact ⟨[], none, 0, rfl, fun j hj => by simp at hj, by simp, by omega, fun _ => rfl, .inl ⟨rfl, rfl⟩⟩
  · simp only [Value.cells, List.cons.injEq, and_true, Value.slice.injEq] at hcs
    obtain ⟨rfl, rfl, rfl⟩ := hcs
    have hex : ∀ i, i < len → ∃ p : EN × Value, (a.add (i * 5)) = ⟨a.block, a.off + i * 5, none⟩ ∧ W.rangeAt a.block (a.off + i * 5) (enCells p) ∧ Rd W p.2 p.1.data := fun i hi => by
      have h1 := hcell i hi
      rw [cellsE, List.getElem?_eq_getElem (by omega)] at h1
      obtain ⟨D, hp, c0, hR⟩ := entry_cells h1
      rw [add_block', add_off] at hp c0
      exact ⟨D, hp, c0, hR⟩
    obtain ⟨l, hdl, hP⟩ := list_of len hex
    simp only [Prod.mk.injEq] at hx
    obtain ⟨rfl, -⟩ := hx
    refine ⟨l, some a, cap, by rw [hdl], fun j hj => ?_, by omega, by unfold maxLen at hm; omega, (fun h => by cases h), .inr ⟨_, _, rfl, ?_⟩⟩
    · have ha : a = ⟨a.block, a.off, none⟩ := by
        have := (hP 0 (by omega)).1
        rw [Nat.zero_mul, Addr.add, if_pos rfl, Nat.add_zero] at this
        exact this
      exact ⟨a.block, a.off, by rw [← ha], lt_of_cell ((hP j hj).2.1 0 _ rfl), (hP j hj).2.1, (hP j hj).2.2⟩
    · rw [List.length_map]; omega
theorem ents_reach {H : Type} {ts : List TypeId} {ds : List (DataW H)} {j : Nat} {d : DataW H} {l : List (EN × Value)} (h : (DataW.weightsEach Try.prog ts ds).all (· ≤ reachBytes) = true) (ht : ts[j]? = some 22) (hd : ds[j]? = some d)
    (hb : (d = .nil ∧ l = []) ∨ ∃ el sp, d = .slice el sp ∧ el.length = l.length) : l.length ≤ 1954687338212 := by
  rcases hb with ⟨_, rfl⟩ | ⟨el, sp, rfl, hl⟩
  · simp
  · have := sized_slice h ht hd Try.underlying22
    rw [bytesOfE] at this
    simp only [reachBytes] at this
    omega
end Go.Proofs.Ytdfnhgkabaikaaa
