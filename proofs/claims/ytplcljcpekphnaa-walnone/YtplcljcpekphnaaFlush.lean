/- plates.do at a flush, disk.Disk.Flush: what is read is safe, nothing waits. -/
import Derived.Test.YtplcljcpekphnaaImage
namespace Go.Proofs.Ytplcljcpekphnaa
open Go.RowKit Go.Maps
/-- What is safe when some sectors are still to come. -/
def mixS (safe : List ByteArray) (waits : Int → List ByteArray) (left : Lit → Bool) : List ByteArray :=
  (List.range safe.length).map (fun n : Nat => if left (.int .i64 (n : Int)) then safe.getD n ⟨#[]⟩ else seenS safe waits (n : Int))
theorem length_mixS (safe : List ByteArray) (waits : Int → List ByteArray) (left : Lit → Bool) : (mixS safe waits left).length = safe.length := by simp [mixS]
theorem mixS_start {w : World} {L : PL} {safe : List ByteArray} {waits : Int → List ByteArray} {B : Nat} (h : PlatesIn w L safe waits B) : mixS safe waits (Maps.has L.D) = safe := by
  apply List.ext_getElem (length_mixS _ _ _)
  intro n h1 h2
  simp only [mixS, List.getElem_map, List.getElem_range]
  by_cases hw : waits (n : Int) = []
  · rw [h.absent _ hw]; simp [seenS, hw, h2]
  · rw [h.there _ hw]; simp [h2]
theorem mixS_end (safe : List ByteArray) (waits : Int → List ByteArray) (left : Lit → Bool) (h : ∀ kl, left kl = false) : mixS safe waits left = (List.range safe.length).map (fun n : Nat => seenS safe waits (n : Int)) := by
  unfold mixS
  refine List.map_congr_left (fun n _ => ?_)
  rw [h]; rfl
theorem mixS_step (safe : List ByteArray) (waits : Int → List ByteArray) (left : Lit → Bool) (x : Int) (h0 : 0 ≤ x) :
    mixS safe waits (fun z => left z && !z.sameKey (.int .i64 x)) = (mixS safe waits left).set x.toNat (seenS safe waits x) := by
  apply List.ext_getElem (by simp [length_mixS])
  intro n h1 h2
  rw [List.getElem_set]
  simp only [mixS, List.getElem_map, List.getElem_range]
  by_cases e : x.toNat = n
  · have ex : (n : Int) = x := by omega
    rw [if_pos e, ex]
    simp [Lit.sameKey]
  · have ex : ¬ (n : Int) = x := by omega
    rw [if_neg e]
    simp [Lit.sameKey, ex]
theorem seen_mix (safe : List ByteArray) (waits : Int → List ByteArray) (other : List ByteArray) (x : Int) (h : waits x ≠ []) : seenS other waits x = seenS safe waits x := by
  simp [seenS, h]
theorem PlatesIn.store {w : World} {L : PL} {safe : List ByteArray} {waits : Int → List ByteArray} {B : Nat} (h : PlatesIn w L safe waits B) (k : Nat) (s : ByteArray) : PlatesIn (w.setCell ⟨L.g, k, none⟩ (.string s)) L (safe.set k s) waits B := by
  obtain ⟨es, mc, hmb⟩ := map_block h.mapOwn
  obtain ⟨gc, hgb, _⟩ := row_block h.safeRow
  have hmg : L.m ≠ L.g := fun e => by rw [e, hgb] at hmb; cases hmb
  obtain ⟨h1, h2⟩ := h.safeRow.stored k (.string s)
  have K : Keeps (fun i => i = L.g) w (w.setCell ⟨L.g, k, none⟩ (.string s)) := Keeps.of_grown h2 (fun i e => (Option.some.inj e).symm)
  have hl : (safe.set k s).length = safe.length := by simp
  refine ⟨?_, K.map h.mapOwn hmg, h.absent, h.there, h.held, fun n hn => K.row (h.rows n hn) (fun i hi => by rw [← Option.some.inj hi]; exact h.off n hn), h.off, h.apart, h.len, fun n hn => by rw [hl]; exact h.dom n hn, by rw [hl]; exact h.pos, by rw [hl]; exact h.most⟩
  rw [hl]
  simpa [strs, List.map_set] using h1
theorem PlatesIn.moreB {w : World} {L : PL} {safe : List ByteArray} {waits : Int → List ByteArray} {B B' : Nat} (h : PlatesIn w L safe waits B) (hB : B ≤ B') : PlatesIn w L safe waits B' :=
  ⟨h.safeRow, h.mapOwn.mono hB, h.absent, h.there, h.held, h.rows, h.off, h.apart, fun n => Nat.le_trans (h.len n) hB, h.dom, h.pos, h.most⟩
theorem run_clear {w : World} {m : Nat} {es : Array MapEntry} {clock : Nat} (hb : w.heap[m]? = some (.map es clock)) : ∃ w', (∀ ty, (Builtin.clear_ #[57] ty #[.map (some m)]).run Try.prog w = .ok (.tuple #[]) w') ∧ w'.heap[m]? = some (.map #[] clock) ∧ w.grownBy w' (some m) := by
  refine ⟨{ w with heap := w.heap.setIfInBounds m (.map #[] clock) }, fun ty => ?_, ?_, ⟨rfl, rfl, rfl, by simp, fun k _ hk => ?_⟩⟩
  · simp [Builtin.clear_, run_underlying Try.underlying57, MapKept.run_getObj_map hb, MapKept.run_setObj_map _ hb, Result.andThen]
  · simp [lt_of_heap hb]
  · have hne : m ≠ k := fun e => hk (by rw [e])
    simp [hne]
theorem PlatesIn.cleared {w w' : World} {L : PL} {safe : List ByteArray} {waits : Int → List ByteArray} {B clock : Nat} (h : PlatesIn w L safe waits B) (hm : w'.heap[L.m]? = some (.map #[] clock)) (hg : w.grownBy w' (some L.m)) : PlatesIn w' { L with D := .map [] } safe (fun _ => []) 0 := by
  obtain ⟨es, mc, hmb⟩ := map_block h.mapOwn
  obtain ⟨gc, hgb, _⟩ := row_block h.safeRow
  have hmg : L.g ≠ L.m := fun e => by rw [← e, hgb] at hmb; cases hmb
  exact ⟨h.safeRow.kept hg (.inr (fun e => hmg (by simpa [Value.ownBlock] using e))), ⟨#[], clock, hm, ⟨by simp, MapKept.stamped_empty _, by simp⟩, Nat.le_refl _, rfl⟩, fun _ _ => rfl, fun n hn => absurd rfl hn, fun n hn => absurd rfl hn, fun n hn => absurd rfl hn, fun n hn => absurd rfl hn, fun n n' hn => absurd rfl hn, fun n => Nat.le_refl _, fun n hn => absurd rfl hn, h.pos, h.most⟩
theorem assert_flush_no (W : World) (v : Value) : (Instr.typeAssert (.iface 92 v) 107 90 true).run Try.prog W = .ok (.tuple #[.agg #[.int .i64 0, .string ⟨#[]⟩], .bool false]) W := by kernel_rfl
theorem assert_flush (W : World) (v : Value) : (Instr.typeAssert (.iface 92 v) 107 92 true).run Try.prog W = .ok (.tuple #[v, .bool true]) W := by kernel_rfl
set_option maxRecDepth 100000 in
set_option maxHeartbeats 2000000 in
theorem do_flush (p : Nat) (fv ov : Value) (L : PL) (safe : List ByteArray) (waits : Int → List ByteArray) (B : Nat) (w : World)
    (hp : w.heap[p]? = some (.cells #[fv, ov, .slice (some ⟨L.g, 0, none⟩) safe.length L.cap, .map (some L.m)] 61 (0, 0))) (h : PlatesIn w L safe waits B) :
    Calls Try.prog 57 #[.pointer (some ⟨p, 2, none⟩), .iface 92 (.agg #[])] w fun e w' => e = .returned (.tuple #[]) ∧
      PlatesIn w' { L with D := .map [] } ((List.range safe.length).map (fun n : Nat => seenS safe waits (n : Int))) (fun _ => []) 0 ∧ Keeps (L.foot waits) w w' := by
  have c3 : w.cell? ⟨p, 3, none⟩ = some (.map (some L.m)) := by rw [cell_of_block hp]; rfl
  have hta := assert_flush_no
  have htb := assert_flush
  have HP := hid hp
  have H := hid h
  have hplt := lt_of_heap hp
  clear hp h
  go_enter Try.func57, Try.ntmps57
  go_wp2_with (first
    | (at_range; refine wpList_range_own _ rfl (.tmp 34) 57 rfl 3 55 (int_keyed Try.underlying3) Try.underlying57 selfElem L.m B L.D rfl (H.out.mapOwn.alloc _) ?_; intro w0 hrg0 hg0 hs0)
    | go_in)
  go_frame
  have HFt : Hid (∀ i, L.foot waits i → i < w.heap.size) := fun i hi => H.out.foot_lt hi
  have HPF := hid (H.out.foot_other HP.out (by decide))
  have hKa : Keeps (fun i => i = L.g) w w0 := (Keeps.of_below ((Below.refl _ _).alloc (Nat.le_refl _) _)).grown hg0 (fun i e => by cases e)
  have HK0 := hid hKa
  have HPl0 : Hid (PlatesIn w0 L (mixS safe waits (Maps.has L.D)) waits B) := by
    have h1 : PlatesIn w0 L safe waits B := H.out.keep (G := fun _ => False) ((Keeps.of_below ((Below.refl _ _).alloc (Nat.le_refl _) _)).grown hg0 (fun i e => by cases e)) (fun _ _ e => e)
    show PlatesIn w0 L _ waits B
    rw [mixS_start H.out]; exact h1
  have HRg0 := hid hrg0
  have hr0 : (w.alloc (.cells #[] 92)).heap.size = w.heap.size + 1 := by simp
  rw [hr0] at HRg0 ⊢
  clear hrg0 hg0 hs0 hKa hr0 hta htb c3
  have HHas : Hid (∀ x, Maps.has L.D (.int .i64 x) = true → waits x ≠ []) := fun x hx e => by rw [H.out.absent x e] at hx; cases hx
  have HDom := hid H.out.dom
  have HMost := hid H.out.most
  clear H
  go_loopw [6] (fun _ wr => ∃ (left : Lit → Bool) (cnt : Nat), Hid (wr.ranges Try.prog 3 selfElem L.m (w.heap.size + 1) B L.D left cnt) ∧ Hid (PlatesIn wr L (mixS safe waits left) waits B) ∧ Hid (Keeps (fun i => i = L.g) w wr)) (fun _ wr => wr.rangeLeft L.m (w.heap.size + 1))
  case atStart => exact ⟨_, _, HRg0, HPl0, HK0⟩
  case round =>
    obtain ⟨left, cnt, hrg, hPl, hK⟩ := hrel
    clear HRg0 HPl0 HK0
    have hpr := hK.out.heap HP.out (fun e => HPF.out (.inl e))
    have HPr := hid hpr
    clear hpr
    go_wp2_with (first
      | (at_next; refine wpList_next_ranges _ rfl (.tmp 35) rfl 3 (int_keyed Try.underlying3) selfElem encZ id (fun key kl hk => by obtain ⟨x, hx, _⟩ := Maps.keyOf_i64 Try.underlying3 hk; exact ⟨x, hx⟩) (fun v _ _ => ⟨v, rfl⟩) L.m (w.heap.size + 1) B _ _ _ rfl hrg.out ?_ ?_)
      | go_in)
    · -- nothing is left
      intro hc0 hl0
      obtain ⟨es, clock, hmb⟩ := map_block hPl.out.mapOwn
      obtain ⟨w9, hclear, hm9, hg9⟩ := run_clear hmb
      have c3 : wr.cell? ⟨p, 3, none⟩ = some (.map (some L.m)) := by rw [cell_of_block HPr.out]; rfl
      have HC := hid (hPl.out.cleared hm9 hg9)
      have HM := hid (mixS_end safe waits left hl0)
      have HKe : Hid (Keeps (L.foot waits) w w9) := (hK.out.mono (fun i e => .inl e)).grown hg9 (fun i e => .inl (.inr (.inl (Option.some.inj e).symm)))
      clear hm9 hg9 hmb hl0 hc0 hrg hPl hK HPr
      go_wp2
      go_end0
      refine ⟨rfl, ?_, HKe.out⟩
      have := HC.out
      rwa [HM.out] at this
    · -- a sector has come
      intro x c kl yd yp w2 cnt2 hkey hlk hv hat hrg2 hlt hg2 hs2 hen
      obtain ⟨x', ex, rfl, _⟩ := Maps.keyOf_i64 Try.underlying3 hkey
      obtain rfl : x = x' := encZ_inj ex
      have hne : waits x ≠ [] := HHas.out x (has_true_of_atKey hat)
      obtain ⟨hx0, hx1⟩ := HDom.out x hne
      have hPl2 : PlatesIn w2 L (mixS safe waits left) waits B := hPl.out.keep (Keeps.of_grown hg2 (fun i e => e)) (fun i hi e => by have := HFt.out i hi; have := Option.some.inj e; omega)
      have hK2 : Keeps (fun i => i = L.g) w w2 := hK.out.grown hg2 (fun i e => .inr (by have := Option.some.inj e; omega))
      have hp2 := hK2.heap HP.out (fun e => HPF.out (.inl e))
      have HP2 := hid hp2
      have hml := length_mixS safe waits left
      have hmx := HMost.out
      have HSeen := hid (seen_any p L (mixS safe waits left) waits B x w2.drew (by rw [hml]; exact cell_of_block hp2 2) (cell_of_block hp2 3) (hPl2.keep (G := fun _ => False) (Keeps.refl _ _).drew (fun _ _ e => e)) hx0 (by rw [hml]; exact hx1))
      rw [seen_mix safe waits (mixS safe waits left) x hne] at HSeen
      have HSt := hid (fun s => hPl2.store x.toNat s)
      have HPl2 := hid hPl2
      have HK2 := hid hK2
      have HRg := hid hrg2
      have HMs := hid (mixS_step safe waits left x hx0)
      have HLt : Hid (cnt2 < cnt) := hlt
      have HGm : Hid (L.m ≠ L.g) := fun e => by
        obtain ⟨es, mc, hmb⟩ := map_block hPl2.mapOwn
        obtain ⟨gc, hgb, _⟩ := row_block hPl2.safeRow
        rw [e, hgb] at hmb; cases hmb
      have HGl : Hid (L.g < w.heap.size) := HFt.out _ (.inl rfl)
      have hxt : x.toNat < (mixS safe waits left).length := by rw [hml]; omega
      obtain ⟨old, cl⟩ : ∃ o, w2.cell? ⟨L.g, x.toNat, none⟩ = some o := ⟨.string ((mixS safe waits left)[x.toNat]), by
        rw [hPl2.safeRow.cellAt _ (by omega)]; simp [hxt]⟩
      have fl : w2.frozen? ⟨L.g, x.toNat, none⟩ = false := hPl2.safeRow.frozenAt _
      clear hPl2 hK2 hp2 hrg2 hkey hlk hv hat hlt hs2 hne hPl HPr hxt ex
      generalize seenS safe waits x = s at *
      go_wp2
      refine wp_region_noPanic ?_
      refine wp_region_held_drew (S := fun W => W.cell? ⟨p, 2, none⟩ = some (.slice (some ⟨L.g, 0, none⟩) safe.length L.cap)) (by kernel_rfl) (cell_of_block HP2.out 2) (fun hHeld => ?_)
      refine wpAnyH_take (i := 0) (v := ?_) rfl (by kernel_rfl) (by kernel_rfl) (by kernel_rfl) (fun _ _ _ h => h) (Or.inl ⟨by rfl, ?_⟩) (by assumption) ?_
      rotate_left
      · (intro W hSw; (try dsimp only at hSw); go_simp; try with_reducible rfl)
      try simp only [List.getElem_toArray, List.getElem_cons_zero, Act.put, List.setIfInBounds_toArray, List.set_cons_zero, List.set_cons_succ]
      refine wpAnyH_take (i := 1) (v := ?_) rfl (by kernel_rfl) (by kernel_rfl) (by kernel_rfl) (fun _ _ _ h => h) (Or.inl ⟨by rfl, ?_⟩) (by assumption) ?_
      rotate_left
      · (intro W hSw; (try dsimp only at hSw); go_simp; try with_reducible rfl)
      try simp only [List.getElem_toArray, List.getElem_cons_succ, List.getElem_cons_zero, Act.put, List.setIfInBounds_toArray, List.set_cons_zero, List.set_cons_succ]
      refine wpAnyH_take (i := 2) (v := ?_) rfl (by kernel_rfl) (by kernel_rfl) (by kernel_rfl) (fun _ _ _ h => h) (Or.inl ⟨by rfl, ?_⟩) (by assumption) ?_
      rotate_left
      · (intro W hSw; (try dsimp only at hSw); go_simp; try with_reducible rfl)
      try simp only [List.getElem_toArray, List.getElem_cons_succ, List.getElem_cons_zero, Act.put, List.setIfInBounds_toArray, List.set_cons_zero, List.set_cons_succ]
      refine wpAnyH_take (i := 3) (v := ?_) rfl (by kernel_rfl) (by kernel_rfl) (by kernel_rfl) (fun _ _ _ h => h) (Or.inl ⟨by rfl, ?_⟩) (by assumption) ?_
      rotate_left
      · (intro W hSw; (try dsimp only at hSw); go_simp; try with_reducible rfl)
      try simp only [List.getElem_toArray, List.getElem_cons_succ, List.getElem_cons_zero, Act.put, List.setIfInBounds_toArray, List.set_cons_zero, List.set_cons_succ]
      refine wpAnyH_take (i := 4) (v := ?_) rfl (by kernel_rfl) (by kernel_rfl) (by kernel_rfl) (fun _ _ _ h => h) (Or.inl ⟨by rfl, ?_⟩) (by assumption) ?_
      rotate_left
      · (intro W hSw; (try dsimp only at hSw); go_simp; try with_reducible rfl)
      try simp only [List.getElem_toArray, List.getElem_cons_succ, List.getElem_cons_zero, Act.put, List.setIfInBounds_toArray, List.set_cons_zero, List.set_cons_succ]
      refine wpAnyH_take (i := 5) (v := ?_) rfl (by kernel_rfl) (by kernel_rfl) (by kernel_rfl) (fun _ _ _ h => h) (Or.inl ⟨by rfl, ?_⟩) (by assumption) ?_
      rotate_left
      · (intro W hSw; (try dsimp only at hSw); go_simp; try with_reducible rfl)
      try simp only [List.getElem_toArray, List.getElem_cons_succ, List.getElem_cons_zero, Act.put, List.setIfInBounds_toArray, List.set_cons_zero, List.set_cons_succ]
      refine wpAnyH_take (i := 6) (v := ?_) rfl (by kernel_rfl) (by kernel_rfl) (by kernel_rfl) (fun _ _ _ h => h) (Or.inl ⟨by rfl, ?_⟩) (by assumption) ?_
      rotate_left
      · (intro W hSw; (try dsimp only at hSw); go_simp; try with_reducible rfl)
      try simp only [List.getElem_toArray, List.getElem_cons_succ, List.getElem_cons_zero, Act.put, List.setIfInBounds_toArray, List.set_cons_zero, List.set_cons_succ]
      refine wpAnyH_ready (rs := [7]) (by kernel_rfl) (by simp) (AllReadyH.cons rfl (fun K hK => ?_) AllReadyH.nil)
      rw [if_pos (by rfl)]
      go_simp
      refine HSeen.out.mono ?_
      clear HSeen
      rintro e w9 ⟨rfl, h9⟩
      obtain rfl := h9.symm
      go_wp2_with fail
      refine hK.out _ _ hHeld (fun hHeld => ?_)
      clear hK K
      try simp only [List.getElem_toArray, List.getElem_cons_succ, List.getElem_cons_zero, Act.put, List.setIfInBounds_toArray, List.set_cons_zero, List.set_cons_succ]
      refine wpAnyH_take (i := 8) (v := ?_) rfl (by kernel_rfl) (by kernel_rfl) (by kernel_rfl) (fun _ _ _ h => h) (Or.inl ⟨by rfl, ?_⟩) (by assumption) ?_
      rotate_left
      · (intro W hSw; (try dsimp only at hSw); go_simp; try with_reducible rfl)
      try simp only [List.getElem_toArray, List.getElem_cons_succ, List.getElem_cons_zero, Act.put, List.setIfInBounds_toArray, List.set_cons_zero, List.set_cons_succ]
      refine wpAnyH_ready (rs := [9]) (by kernel_rfl) (by simp) (AllReadyH.cons rfl (fun K hK => ?_) AllReadyH.nil)
      rw [if_pos (by rfl)]
      unfold Oper.wp
      go_simp
      have HPg : Hid (p ≠ L.g) := fun e => HPF.out (.inl e)
      have hgs := grown_setCell (grown_refl w2 (some L.g)) x.toNat (.string s)
      have HR3 := hid (HRg.out.kept hgs (fun e => HGm.out (Option.some.inj e)) (fun e => by have := HGl.out; have := Option.some.inj e; omega))
      have HP3 : Hid (PlatesIn (w2.setCell ⟨L.g, x.toNat, none⟩ (.string s)) L (mixS safe waits (fun z => left z && !z.sameKey (.int .i64 x))) waits B) := by
        show PlatesIn _ L _ waits B
        rw [HMs.out]; exact HSt.out s
      have HK3 := hid (HK2.out.grown hgs (fun i e => .inl (Option.some.inj e).symm))
      clear hgs HSt HMs HK2 HPl2 cl fl
      have hp3 : (w2.setCell ⟨L.g, x.toNat, none⟩ (.string s)).heap[p]? = some (.cells #[fv, ov, .slice (some ⟨L.g, 0, none⟩) safe.length L.cap, .map (some L.m)] 61 (0, 0)) := by rw [block_setCell_other _ _ HPg.out]; exact HP2.out
      have hq3 : (w2.setCell ⟨L.g, x.toNat, none⟩ (.string s)).drew.cell? ⟨p, 2, none⟩ = some (.slice (some ⟨L.g, 0, none⟩) safe.length L.cap) := cell_of_block hp3 2
      refine hK.out _ _ hq3 (fun hHeld => ?_)
      clear hp3 hq3
      clear hK K hHeld
      generalize w2.setCell ⟨L.g, x.toNat, none⟩ (.string s) = w3 at *
      refine wpAnyH_done (by kernel_rfl) ?_ _
      refine NoPanic.normal ?_
      go_wp2
      refine ⟨⟨(fun z => left z && !z.sameKey (.int .i64 x)), cnt2, HR3.out, HP3.out.keep (G := fun _ => False) (Keeps.refl _ _).drew (fun _ _ e => e), HK3.out.drew⟩, ?_⟩
      have h1 : w3.drew.rangeLeft L.m (w.heap.size + 1) = cnt2 := HR3.out.left_eq
      rw [h1, hrg.out.left_eq]
      exact HLt.out
end Go.Proofs.Ytplcljcpekphnaa
