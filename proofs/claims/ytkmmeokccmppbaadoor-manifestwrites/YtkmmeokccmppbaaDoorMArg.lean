/- From a walk to a row; a manifest, and bytes, that were handed in. -/
import Derived.Test.YtkmmeokccmppbaaDoorRows
import Derived.Test.YtkmmeokccmppbaaDoorMSame
import Derived.OpenShut
import Derived.Lib.SmallJoins
import Derived.SizedLaws
namespace Go.Proofs.YtkmmeokccmppbaaDoor
open Go.ChangeShapes Go.WideShapes Go.ChangeAt Go.RowKit
theorem own : ownKnob Tryd.prog.godebug = none := by kernel_rfl
theorem laidOut : laidOutB Tryd.prog = true := by kernel_rfl
theorem cellsH : Tryd.prog.cellsOf 26 = 32 := by kernel_rfl
theorem cellsM : Tryd.prog.cellsOf 24 = 3 := by kernel_rfl
/-- What was read before the call reads so behind it. -/
theorem trodAll_below {H : Type} {enc : TypeId × Value → H} {P : Program} (hl : laidOutB P = true) {W W' : World} (hb : Below W.heap.size W W') : ∀ (ts : List TypeId) (vs : List Value) (ds : List (DataW H)) (ps : List MemPlace),
    (∀ t ∈ ts, P.readableRec t = true ∧ t < P.types.size) → DataW.TrodAll enc P W 0 (fun _ => true) true ts vs ds ps → (∀ x ∈ ps, x.block < W.heap.size) → DataW.TrodAll enc P W' 0 (fun b => decide (b < W.heap.size)) true ts vs ds ps
  | [], vs, ds, ps, _, h, _ => by cases vs <;> cases ds <;> simp [DataW.TrodAll] at h ⊢; exact h
  | t :: ts, vs, ds, ps, hr, h, hlt => by
    obtain ⟨v, vs', d, ds', p, q, rfl, rfl, rfl, h1, h2⟩ := trodAll_cons h
    exact trodAll_cons_mk (Below.trod hl (hr t (by simp)).1 (hr t (by simp)).2 h1 hb (fun x hx => hlt x (by simp [hx])))
      (trodAll_below hl hb ts vs' ds' q (fun t' ht' => hr t' (by simp [ht'])) h2 (fun x hx => hlt x (by simp [hx])))
/-- The end of a law: it returned true, and has made new memory at most. -/
theorem post_law {H : Type} {enc : TypeId × Value → H} {f : Func} {s : ChangeSpec} {W W' : World} {args : Array Value} {ds gs : List (DataW H)} {before : List MemPlace}
    (hW : DataW.Whole enc Tryd.prog f.params.toList s.vars false W args.toList ds gs before) (hv : s.vars = []) (hres : f.resultTypes = #[4]) (hfn : (s.fn H (ds ++ gs)) = { results := [.lit (.bool true)], args := ds })
    (hr : ∀ t ∈ f.params.toList, Tryd.prog.readableRec t = true ∧ t < Tryd.prog.types.size) (hb : Below W.heap.size W W') : s.post enc Tryd.prog f false true false false W args (.bool true) W' := by
  have hW' := hW
  obtain ⟨p, q, hA, hV, rfl, _, _⟩ := hW
  refine ⟨ds, gs, p ++ q, [], p, [], hW', ?_, ?_, ?_, hb.frame _, fun h => by cases h⟩
  · rw [hfn, hres]
    exact trodAll_cons_mk (shut_bool Tryd.underlying4 true) trodAll_mk0
  · rw [hfn]
    exact trodAll_below laidOut hb _ _ _ _ hr hA (fun x hx => by simpa using hW'.lt x (by simp [hx]))
  · rw [hfn, hv]; exact rfl
theorem plain_addr {w : World} {a : Addr} {x : Value} (h : w.cell? a = some x) : a = ⟨a.block, a.off, none⟩ := by
  obtain ⟨b, o, s⟩ := a
  cases s with
  | none => rfl
  | some q =>
    unfold World.cell? at h
    cases hq : w.heap[b]? with
    | none => simp [hq] at h
    | some ob => cases ob <;> simp [hq] at h
theorem add_off (a : Addr) (j : Nat) : (a.add j).off = a.off + j := by
  unfold Addr.add; split <;> simp_all
theorem add_block' (a : Addr) (j : Nat) : (a.add j).block = a.block := by
  unfold Addr.add; split <;> simp_all
theorem bytes_of_cells : ∀ cs : List Value, (∀ (i : Nat) v, cs[i]? = some v → ∃ x : UInt8, v = B x) → ∃ h : List UInt8, cs = h.map B
  | [], _ => ⟨[], rfl⟩
  | c :: cs, hc => by
    obtain ⟨x, hx⟩ := hc 0 c rfl
    obtain ⟨h, hh⟩ := bytes_of_cells cs (fun i v hv => hc (i + 1) v hv)
    exact ⟨x :: h, by rw [hx, hh]; rfl⟩
/-- One layer in memory. -/
theorem layer_cells {H : Type} {enc : TypeId × Value → H} {W : World} {sp : Nat → Bool} {held : Bool} {a : Addr} {m : Nat} {y : DataW H × List MemPlace} (h : (W.cells? 0 a 32).bind (DataW.trod enc Tryd.prog W 0 sp held m 26) = some y) :
    ∃ l : List UInt8, l.length = 32 ∧ a = ⟨a.block, a.off, none⟩ ∧ W.rangeAt a.block a.off (l.map B) := by
  obtain ⟨cs, hcs, hf⟩ := Option.bind_eq_some_iff.1 h
  obtain ⟨_, hl, hc⟩ := World.cells?_some hcs
  obtain ⟨xs, m', rfl, hx, hxl, hn, he⟩ := DataW.trod_array Tryd.underlying26 hf
  simp only [cells5, Nat.mul_one] at he
  obtain ⟨l, hh⟩ := bytes_of_cells cs (fun i v hv => by
    have hi : i < cs.length := (List.getElem?_eq_some_iff.1 hv).1
    have h1 := he i (by omega)
    have hxi : xs[i]? = some xs[i] := List.getElem?_eq_getElem (by omega)
    rw [hxi, List.drop_eq_getElem_cons hi, List.take_succ_cons, List.take_zero] at h1
    obtain ⟨n, hc, _, hw⟩ := DataW.trod_int Tryd.underlying5 h1
    have hb := bounds_u8 hw
    have hv' : v = cs[i] := by
      rw [List.getElem?_eq_getElem hi] at hv
      exact (Option.some.inj hv).symm
    simp only [List.cons.injEq, and_true] at hc
    refine ⟨UInt8.ofNat n.toNat, ?_⟩
    have hV : V (UInt8.ofNat n.toNat) = n := by unfold V; rw [UInt8.toNat_ofNat']; omega
    rw [hv', hc]
    show _ = Value.int .u8 (V _)
    rw [hV])
  subst hh
  rw [List.length_map] at hl
  have c0 := hc 0 (by simp)
  rw [List.getElem?_eq_getElem (by simp; omega)] at c0
  have hp := plain_addr c0
  rw [Addr.add, if_pos rfl] at hp
  refine ⟨l, hl, hp, fun j v hj => ?_⟩
  have hjl : j < (l.map B).length := (List.getElem?_eq_some_iff.1 hj).1
  have := hc j (by simpa [hl] using hjl)
  rw [hj, hp, Addr.add_mid] at this
  exact this
theorem list_of {α : Type} {P : Nat → α → Prop} : ∀ n : Nat, (∀ i, i < n → ∃ x, P i x) → ∃ l : List α, l.length = n ∧ ∀ i (hi : i < l.length), P i l[i]
  | 0, _ => ⟨[], rfl, fun i hi => by simp at hi⟩
  | n + 1, h => by
    obtain ⟨l, hl, hp⟩ := list_of n (fun i hi => h i (by omega))
    obtain ⟨x, hx⟩ := h n (by omega)
    refine ⟨l ++ [x], by simp [hl], fun i hi => ?_⟩
    by_cases e : i < l.length
    · rw [List.getElem_append_left e]; exact hp i e
    · have e2 : i = n := by simp at hi; omega
      subst e2
      rw [List.getElem_append_right (by omega)]
      simpa [hl] using hx
theorem layers_trod {H : Type} {enc : TypeId × Value → H} {W : World} {v : Value} {y : DataW H × List MemPlace} {fuel : Nat} (hf : DataW.trod enc Tryd.prog W 0 (fun _ => true) true fuel 22 [v] = some y) :
    ∃ (ls : List (List UInt8)) (a : Option Addr) (c : Nat), v = .slice a ls.length c ∧ layersAt W a ls ∧ ls.length ≤ 9223372036854775807 ∧ ls.length ≤ c ∧ c ≤ 9223372036854775807 ∧ (a = none → c = 0) := by
  rcases DataW.trod_slice Tryd.underlying22 hf with ⟨hcs, hx⟩ | ⟨a, len', cap', elems, rest, n, _, hcs, hx, _, hl, hm, hel, hcell, _, _⟩
  · simp only [List.cons.injEq, and_true] at hcs
    subst hcs
    exact ⟨[], none, 0, rfl, layersAt_nil _ _, by simp, by simp, by omega, fun _ => rfl⟩
  · simp only [List.cons.injEq, and_true] at hcs
    subst hcs
    have hex : ∀ i, i < len' → ∃ l : List UInt8, l.length = 32 ∧ a.add (i * 32) = ⟨a.block, a.off + i * 32, none⟩ ∧ W.rangeAt a.block (a.off + i * 32) (l.map B) := fun i hi => by
      have h1 := hcell i hi
      rw [cellsH, List.getElem?_eq_getElem (by omega)] at h1
      obtain ⟨l, hl32, hp, hr⟩ := layer_cells h1
      rw [add_block', add_off] at hp hr
      exact ⟨l, hl32, hp, hr⟩
    obtain ⟨ls, hdl, hP⟩ := list_of len' hex
    have ha : 0 < len' → a = ⟨a.block, a.off, none⟩ := fun h0 => by
      have := (hP 0 (by omega)).2.1
      rw [Nat.zero_mul, Addr.add, if_pos rfl, Nat.add_zero] at this
      exact this
    refine ⟨ls, some a, cap', by rw [hdl], ⟨fun l hl => ?_, fun i hi => ?_⟩, ?_, by omega, ?_, fun h => by cases h⟩
    · obtain ⟨i, hi, rfl⟩ := List.getElem_of_mem hl
      exact (hP i hi).1
    · refine ⟨a.block, a.off, by rw [← ha (by omega)], ?_, (hP i hi).2.2⟩
      have h1 := (hP i hi).1
      exact lt_of_cell ((hP i hi).2.2 0 (B (ls[i])[0]) (by rw [List.getElem?_map, List.getElem?_eq_getElem (by omega)]; rfl))
    · unfold maxLen at hm; omega
    · unfold maxLen at hm; omega
/-- A manifest that was handed in. -/
theorem manifest_open {H : Type} {enc : TypeId × Value → H} {W : World} {r : Reach} {b0 : Nat} {v : Value} {d : DataW H} {p : List MemPlace} (hv : Value.okWide Tryd.prog W r b0 24 v) (h : DataW.Trod enc Tryd.prog W 0 (fun _ => true) true 24 v d p) :
    ∃ (m : MS) (la : Option Addr) (lc : Nat), v = .agg #[str m.os, str m.arch, .slice la m.ls.length lc] ∧ layersAt W la m.ls ∧ m.ls.length ≤ 9223372036854775807 ∧ m.ls.length ≤ lc ∧ lc ≤ 9223372036854775807 ∧ (la = none → lc = 0) := by
  obtain ⟨v0, v1, v2, y0, y1, y2, k, rfl, _, _, h0, h1, h2⟩ := Joins.open_agg3 Tryd.underlying24 (by kernel_rfl) cellsM hv h
  obtain ⟨s0, e0, _⟩ := DataW.trod_string Tryd.underlying9 h0
  obtain ⟨s1, e1, _⟩ := DataW.trod_string Tryd.underlying9 h1
  obtain ⟨ls, a, c, rfl, hl, hn, hc, hm, ha⟩ := layers_trod h2
  simp only [List.cons.injEq, and_true] at e0 e1
  subst e0 e1
  refine ⟨⟨s0.data.toList, s1.data.toList, ls⟩, a, c, ?_, hl, hn, hc, hm, ha⟩
  simp [str]
theorem bytesOfU : Tryd.prog.bytesOf 5 = 1 := by kernel_rfl
/-- Bytes that were handed in. -/
theorem bytes_open {H : Type} {enc : TypeId × Value → H} {W : World} {base : Nat} {v : Value} {d : DataW H} {p : List MemPlace} (hok : Value.okWide Tryd.prog W .any base 27 v) (h : DataW.Trod enc Tryd.prog W 0 (fun _ => true) true 27 v d p) :
    ∃ bs, Rd W v bs ∧ ((d = .nil ∧ bs = []) ∨ ∃ el sp, d = .slice el sp ∧ el.length = bs.length) := by
  obtain ⟨a0, len0, cap0, rfl⟩ := okWide_slice Tryd.underlying27 hok
  obtain ⟨fuel, h⟩ := h
  rcases open_ints Tryd.underlying27 Tryd.underlying5 cells5 h with ⟨hcs, hx⟩ | ⟨a, len, cap, zs, hcs, _, hl, hm, hz, hx, hcell, hwz⟩
  · simp only [Value.cells, List.cons.injEq, and_true, Prod.mk.injEq, Value.slice.injEq] at hcs hx
    obtain ⟨rfl, rfl, rfl⟩ := hcs
    obtain ⟨rfl, rfl⟩ := hx
    exact ⟨[], Rd.nil W, .inl ⟨rfl, rfl⟩⟩
  · simp only [Value.cells, List.cons.injEq, and_true, Prod.mk.injEq, Value.slice.injEq] at hcs hx
    obtain ⟨rfl, rfl, rfl⟩ := hcs
    obtain ⟨rfl, rfl⟩ := hx
    simp only [if_true] at hz
    have hlen : ((zs.take len0).map fun n => UInt8.ofNat n.toNat).length = len0 := by simp; omega
    refine ⟨(zs.take len0).map fun n => UInt8.ofNat n.toNat, ⟨some a, cap0, by rw [hlen], by rw [hlen]; exact hl, by unfold maxLen at hm; omega, (fun h => by cases h), fun ad hadd j x hj => ?_⟩, .inr ⟨_, _, rfl, by simp [lits]⟩⟩
    cases hadd
    have hjl : j < len0 := by have := (List.getElem?_eq_some_iff.1 hj).1; omega
    have hc := hcell j (by omega)
    have hjz : j < zs.length := by omega
    rw [List.getElem?_map, List.getElem?_take_of_lt hjl, List.getElem?_eq_getElem hjz] at hj
    simp only [Option.map_some, Option.some.injEq] at hj
    have hb := bounds_u8 (hwz zs[j] (List.getElem_mem hjz))
    have hg : zs.getD j 0 = zs[j] := by rw [List.getD_eq_getElem?_getD, List.getElem?_eq_getElem hjz]; rfl
    have hV : zs[j] = V x := by
      rw [← hj]; unfold V; rw [UInt8.toNat_ofNat']; omega
    have h0 := plain_addr (hcell 0 (by omega))
    rw [Addr.add, if_pos rfl] at h0
    rw [hg, hV] at hc
    rw [h0, Addr.add_mid] at hc
    exact ⟨a.block, a.off, h0, lt_of_cell hc, hc⟩
/-- How long they may be, by the form's own reach. -/
theorem bytes_reach {H : Type} {ts : List TypeId} {ds : List (DataW H)} {j : Nat} {d : DataW H} {bs : List UInt8} (h : (DataW.weightsEach Tryd.prog ts ds).all (· ≤ reachBytes) = true) (ht : ts[j]? = some 27) (hd : ds[j]? = some d)
    (hb : (d = .nil ∧ bs = []) ∨ ∃ el sp, d = .slice el sp ∧ el.length = bs.length) : bs.length ≤ 140737488351232 := by
  rcases hb with ⟨_, rfl⟩ | ⟨el, sp, rfl, hl⟩
  · simp
  · have := sized_slice h ht hd Tryd.underlying27
    rw [bytesOfU] at this
    simp only [reachBytes] at this
    omega
end Go.Proofs.YtkmmeokccmppbaaDoor
