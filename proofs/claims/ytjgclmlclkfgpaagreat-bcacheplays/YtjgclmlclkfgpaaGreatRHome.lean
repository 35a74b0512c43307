/- The reference's home. -/
import Derived.Test.YtjgclmlclkfgpaaGreatRSet
namespace Go.Proofs.YtjgclmlclkfgpaaGreat
open Go.RowKit
/-- The reference behind the first j pages were brought home. -/
def rhomeTo (R : RefS) (size : Nat) (ns : List Nat) (bs : Nat → List UInt8) (j : Nat) : RefS := ⟨R.first, R.l ++ (List.range j).map (fun i => ⟨false, (size : Int) + 1 + (ns.getD i 0 : Nat), bs i⟩)⟩
theorem rhomeTo_len (R : RefS) (size : Nat) (ns : List Nat) (bs : Nat → List UInt8) (j : Nat) : (rhomeTo R size ns bs j).l.length = R.l.length + j := by simp [rhomeTo]
theorem rhomeTo_succ (R : RefS) (size : Nat) (ns : List Nat) (bs : Nat → List UInt8) (j : Nat) (hj : j < ns.length) (hx : size + 1 + ns[j] < R.first.length) (h5 : (bs j).length = 512) : (rhomeTo R size ns bs j).put ((size : Int) + 1 + (ns[j] : Nat)) (bs j) = rhomeTo R size ns bs (j + 1) := by
  have e : errR (rhomeTo R size ns bs j) ((size : Int) + 1 + (ns[j] : Nat)) (bs j) = 0 := by
    rw [errR, if_neg (not_not_intro ⟨by omega, by show _ < ((R.first.length : Nat) : Int); omega⟩), if_neg (not_not_intro h5)]
  rw [RefS.put, if_pos e]
  simp [rhomeTo, RefS.did, List.range_succ, hj]
/-- What the log has stays while pages are brought home. -/
theorem rhomeTo_at (R : RefS) (size : Nat) (ns : List Nat) (bs : Nat → List UInt8) (k : Nat) (hk : k ≤ size) : ∀ j, (atL (rhomeTo R size ns bs j) (R.l.length + j))[k]? = (atL R R.l.length)[k]?
  | 0 => by
    rw [Nat.add_zero, atL_congr (rhomeTo R size ns bs 0) R rfl R.l.length (fun i hi => by simp [rhomeTo])]
  | j + 1 => by
    have ih := rhomeTo_at R size ns bs k hk j
    rw [← Nat.add_assoc, atL_succ]
    have e : (rhomeTo R size ns bs (j + 1)).l[R.l.length + j]? = some ⟨false, (size : Int) + 1 + (ns.getD j 0 : Nat), bs j⟩ := by
      simp [rhomeTo, List.range_succ]
    rw [e]
    simp only [Bool.false_eq_true, if_false]
    rw [List.getElem?_set_ne (by omega), atL_congr (rhomeTo R size ns bs (j + 1)) (rhomeTo R size ns bs j) rfl (R.l.length + j) (fun i hi => ?_)]
    · exact ih
    · have h1 : i < (rhomeTo R size ns bs j).l.length := by rw [rhomeTo_len]; exact hi
      have h2 : (rhomeTo R size ns bs (j + 1)).l = (rhomeTo R size ns bs j).l ++ [⟨false, (size : Int) + 1 + (ns.getD j 0 : Nat), bs j⟩] := by simp [rhomeTo, List.range_succ]
      rw [h2, List.getElem?_append_left h1]
theorem okR_home {R : RefS} (h : okR R) (size : Nat) (ns : List Nat) (bs : Nat → List UInt8) (hx : ∀ n ∈ ns, size + 1 + n < R.first.length) (h5 : ∀ i, i < ns.length → (bs i).length = 512) (j : Nat) (hj : j ≤ ns.length) : okR (rhomeTo R size ns bs j) := by
  refine ⟨h.1, h.2.1, fun o ho hf => ?_⟩
  rcases List.mem_append.1 ho with ho | ho
  · exact h.2.2 o ho hf
  · obtain ⟨i, hi, rfl⟩ := List.mem_map.1 ho
    have hi' := List.mem_range.1 hi
    have := hx (ns[i]'(by omega)) (List.getElem_mem _)
    refine ⟨by simp only; omega, ?_, h5 i (by omega)⟩
    show (size : Int) + 1 + ((ns.getD i 0 : Nat) : Int) < ((R.first.length : Nat) : Int)
    rw [List.getD_eq_getElem?_getD, List.getElem?_eq_getElem (by omega), Option.getD_some]
    omega
/-- The reference behind pages were brought home. -/
def rhomeR (R : RefS) (size : Nat) (ns : List Nat) (bs : Nat → List UInt8) : RefS := ((((rhomeTo R size ns bs ns.length).did ⟨true, 0, []⟩).put 0 (headS [])).did ⟨true, 0, []⟩)
theorem moreOf_trans {Rd : Nat → Prop} {w w1 w2 : World} (h1 : w.heap.size ≤ w1.heap.size) (h2 : w1.heap.size ≤ w2.heap.size) (i : Nat) (h : moreOf (moreOf Rd w w1) w1 w2 i) : moreOf Rd w w2 i := by
  rcases h with (h | h) | h
  · exact .inl h
  · exact .inr (by omega)
  · exact .inr (by omega)
theorem RLogIn.more {w w' : World} {q r : Nat} {fv lv : Value} {vs : List Value} {Rd : Nat → Prop} {R : RefS} {size rec : Nat} (h : RLogIn w q r fv lv vs Rd R size rec) (k : Below w.heap.size w w') : RLogIn w' q r fv lv vs (moreOf Rd w w') R size rec := by
  have hq := lt_of_heap h.heap
  have hr := lt_of_heap h.disk.heap
  refine ⟨below_block k h.heap hq, (h.disk.later w').below k, fun i hi => ?_, fun hi => ?_, h.ne⟩
  · rcases hi with hi | hi
    · have := h.rd i hi; have := k.size; omega
    · exact hi.2
  · rcases hi with hi | hi
    · exact h.off hi
    · omega
/-- A log of the reference behind its disk did something. -/
theorem RLogIn.did {w w' : World} {q r : Nat} {fv lv lv' : Value} {vs vs' : List Value} {Rd : Nat → Prop} {R R' : RefS} {size rec : Nat} (h : RLogIn w q r fv lv vs Rd R size rec) (h' : RefIn w' r fv lv' vs' (moreOf Rd w w') R') (k : Keeps (fun i => i = r) w w') : RLogIn w' q r fv lv' vs' (moreOf Rd w w') R' size rec := by
  have hq := lt_of_heap h.heap
  refine ⟨k.heap h.heap (fun e => h.ne e), h', fun i hi => ?_, fun hi => ?_, h.ne⟩
  · rcases hi with hi | hi
    · have := h.rd i hi; have := k.size; omega
    · exact hi.2
  · rcases hi with hi | hi
    · exact h.off hi
    · omega
theorem RLogIn.moreRd {w : World} {q r : Nat} {fv lv : Value} {vs : List Value} {Rd Rd' : Nat → Prop} {R : RefS} {size rec : Nat} (h : RLogIn w q r fv lv vs Rd R size rec) (hR : ∀ i, Rd i → Rd' i) (hr : ¬ Rd' r) (hq : ¬ Rd' q) (hl : ∀ i, Rd' i → i < w.heap.size) : RLogIn w q r fv lv vs Rd' R size rec := ⟨h.heap, h.disk.moreRd hR hr, hl, hq, h.ne⟩
theorem RLogIn.next {w w1 w2 : World} {q r : Nat} {fv lv lv' : Value} {vs vs' : List Value} {Rd : Nat → Prop} {R R' : RefS} {size rec : Nat} (h : RLogIn w2 q r fv lv vs (moreOf (moreOf Rd w w1) w1 w2) R size rec) (h0 : RLogIn w q r fv lv' vs' Rd R' size rec) (h1 : w.heap.size ≤ w1.heap.size) (h2 : w1.heap.size ≤ w2.heap.size) : RLogIn w2 q r fv lv vs (moreOf Rd w w2) R size rec := by
  have hq := lt_of_heap h0.heap
  have hr := lt_of_heap h0.disk.heap
  refine h.moreRd (moreOf_trans h1 h2) (fun hi => ?_) (fun hi => ?_) (fun i hi => ?_)
  · rcases hi with hi | hi
    · exact h0.disk.rd hi
    · omega
  · rcases hi with hi | hi
    · exact h0.off hi
    · omega
  · rcases hi with hi | hi
    · have := h0.rd i hi; omega
    · exact hi.2
set_option maxRecDepth 100000 in
set_option maxHeartbeats 2000000 in
theorem rhome_any (q r : Nat) (fv lv : Value) (vs : List Value) (Rd : Nat → Prop) (R : RefS) (size rec : Nat) (ns : List Nat) (bs : Nat → List UInt8) (a : Option Addr) (c : Nat) (w : World) (h : RLogIn w q r fv lv vs Rd R size rec) (hR : okR R) (hm : R.l.length ≤ 800000) (hns : intsAt w a (natsZ ns)) (ha : ∀ ad, a = some ad → ad.block ≠ r) (hl : ns.length ≤ 100) (hl2 : ns.length ≤ size)
    (hx : ∀ n ∈ ns, size + 1 + n < R.first.length) (hb : ∀ i, i < ns.length → (atL R R.l.length)[1 + i]? = some (bs i)) (h5 : ∀ i, i < ns.length → (bs i).length = 512) :
    Calls Tryz.prog 78 #[.pointer (some ⟨q, 0, none⟩), .slice a ns.length c] w fun e w' => e = .returned (.tuple #[]) ∧ ∃ lv' vs', RLogIn w' q r fv lv' vs' (moreOf Rd w w') (rhomeR R size ns bs) size rec ∧ Keeps (fun i => i = r) w w' := by
  have H := hid h
  have HN := hid hns
  have HX := hid hx
  have HB := hid hb
  have H5 := hid h5
  have HR := hid hR
  have HA := hid ha
  have hqw := lt_of_heap h.heap
  have hf := hR.1
  have hsz : ns.length = 0 ∨ size + 1 < 4096 := by
    rcases Nat.eq_zero_or_pos ns.length with e | e
    · exact .inl e
    · have := hx ns[0] (List.getElem_mem e); exact .inr (by omega)
  clear h hns hx hb h5 hR ha
  go_enter Tryz.func78, Tryz.ntmps78
  go_wp2
  go_loopw [4] (fun i wr => ∃ (j : Nat) (lvj : Value) (vsj : List Value), j ≤ ns.length ∧ i = .int .i64 j ∧ Hid (RLogIn wr q r fv lvj vsj (moreOf Rd w wr) (rhomeTo R size ns bs j) size rec) ∧ Hid (Keeps (fun i => i = r) w wr)) (fun i _ => ns.length - (intOf i).toNat)
  case atStart => exact ⟨0, lv, vs, by omega, rfl, by
    have e : rhomeTo R size ns bs 0 = R := by simp [rhomeTo]
    unfold Hid
    rw [e]
    exact H.out.more (Below.refl _ _), Keeps.refl _ _⟩
  case round =>
    obtain ⟨j, lvj, vsj, hj, rfl, hL, hK⟩ := hrel
    have d0 : wr.cell? ⟨q, 0, none⟩ = some (.pointer (some ⟨r, 0, none⟩)) := cell_of_block hL.out.heap 0
    have hsr := hK.out.size
    by_cases hlt : j < ns.length
    · have hj0 : (0 : Int) ≤ (j : Int) := by omega
      have hj1 : (j : Int) < (ns.length : Int) := by omega
      have hj2 : (j : Int) < 100 := by omega
      have hjl : j < (natsZ ns).length := by simpa using hlt
      obtain ⟨b, o, rfl, hc⟩ := HN.out j hjl
      have hcj := hc j hjl
      have hbr := HA.out _ rfl
      have hcell : w.cell? ⟨b, o + j, none⟩ = some (.int .i64 (ns[j] : Nat)) := by rw [hcj]; simp
      have HCw := hid hcell
      have hnm := HX.out ns[j] (List.getElem_mem hlt)
      have h5j := H5.out j hlt
      have hok := okR_home HR.out size ns bs HX.out H5.out j hj
      have hat := rhomeTo_at R size ns bs (1 + j) (by omega) j
      rw [HB.out j hlt, ← rhomeTo_len R size ns bs j] at hat
      have hrd := rread_ok r fv lvj vsj _ _ (1 + (j : Int)) (bs j) wr hL.out.disk hok (by rw [rhomeTo_len]; omega) (by omega) (by show _ < ((R.first.length : Nat) : Int); omega) (by rw [show (1 + (j : Int)).toNat = 1 + j by omega]; exact hat) h5j
      have HRe := hid hrd
      have HSt := hid (rhomeTo_succ R size ns bs j hlt hnm h5j)
      clear hc hcj hjl hcell hok hat hrd
      generalize ns[j] = x at *
      have e1 : IntKind.i64.wrap ((size : Int) + 1) = (size : Int) + 1 := by simp [IntKind.wrap, IntKind.bits, IntKind.signed]; omega
      have e2 : IntKind.i64.wrap ((size : Int) + 1 + (x : Int)) = (size : Int) + 1 + (x : Int) := by simp [IntKind.wrap, IntKind.bits, IntKind.signed]; omega
      go_wp2_with fail
      refine HRe.out.mono ?_
      clear HRe
      rintro e w2 ⟨hb2, g, cap, rfl, hby⟩
      have hL2 := hL.out.more hb2
      have hK2 : Keeps (fun i => i = r) w w2 := hK.out.andBelow hb2
      have t0 : w2.cell? ⟨q, 0, none⟩ = some (.pointer (some ⟨r, 0, none⟩)) := cell_of_block hL2.heap 0
      have t1 : w2.cell? ⟨q, 1, none⟩ = some (.int .i64 (size : Int)) := cell_of_block hL2.heap 1
      have t2 : w2.cell? ⟨b, o + j, none⟩ = some (.int .i64 (x : Int)) := hK2.cell (ad := ⟨b, o + j, none⟩) HCw.out hbr
      have hwr := rwrite_any r fv lvj vsj _ _ ((size : Int) + 1 + (x : Int)) (bs j) (some ⟨g, 0, none⟩) 512 cap w2.drew (hL2.disk.below (Below.refl _ _).drew) (by rw [rhomeTo_len]; omega) h5j (fun k hk => by
        obtain ⟨b', o', e, hc⟩ := hby k hk
        exact ⟨b', o', e, hc⟩)
      rw [HSt.out] at hwr
      have HWr := hid hwr
      have HL2 := hid hL2
      have HK2 := hid hK2
      have hs2 := hb2.size
      clear hby hb2 hwr hL2 hK2 d0
      go_wp2
      refine wp_region_noPanic ?_
      refine wp_region_held_drew (S := fun W => W.cell? ⟨q, 0, none⟩ = some (.pointer (some ⟨r, 0, none⟩)) ∧ W.cell? ⟨q, 1, none⟩ = some (.int .i64 (size : Int)) ∧ W.cell? ⟨b, o + j, none⟩ = some (.int .i64 (x : Int))) (by kernel_rfl) ⟨t0, t1, t2⟩ (fun hHeld => ?_)
      refine wpAnyH_take (i := 0) (v := ?_) rfl (by kernel_rfl) (by kernel_rfl) (by kernel_rfl) (fun _ _ _ h => h) (Or.inl ⟨by rfl, ?_⟩) (by assumption) ?_
      rotate_left
      · (intro W hSw; (try dsimp only at hSw); obtain ⟨s1, s2, s3⟩ := hSw; go_simp; try with_reducible rfl)
      try simp only [List.getElem_toArray, List.getElem_cons_zero, Act.put, List.setIfInBounds_toArray, List.set_cons_zero, List.set_cons_succ]
      refine wpAnyH_take (i := 1) (v := ?_) rfl (by kernel_rfl) (by kernel_rfl) (by kernel_rfl) (fun _ _ _ h => h) (Or.inl ⟨by rfl, ?_⟩) (by assumption) ?_
      rotate_left
      · (intro W hSw; (try dsimp only at hSw); obtain ⟨s1, s2, s3⟩ := hSw; go_simp; try with_reducible rfl)
      try simp only [List.getElem_toArray, List.getElem_cons_succ, List.getElem_cons_zero, Act.put, List.setIfInBounds_toArray, List.set_cons_zero, List.set_cons_succ]
      refine wpAnyH_take (i := 2) (v := ?_) rfl (by kernel_rfl) (by kernel_rfl) (by kernel_rfl) (fun _ _ _ h => h) (Or.inl ⟨by rfl, ?_⟩) (by assumption) ?_
      rotate_left
      · (intro W hSw; (try dsimp only at hSw); obtain ⟨s1, s2, s3⟩ := hSw; go_simp; try with_reducible rfl)
      try simp only [List.getElem_toArray, List.getElem_cons_succ, List.getElem_cons_zero, Act.put, List.setIfInBounds_toArray, List.set_cons_zero, List.set_cons_succ]
      refine wpAnyH_take (i := 3) (v := ?_) rfl (by kernel_rfl) (by kernel_rfl) (by kernel_rfl) (fun _ _ _ h => h) (Or.inl ⟨by rfl, ?_⟩) (by assumption) ?_
      rotate_left
      · (intro W hSw; (try dsimp only at hSw); obtain ⟨s1, s2, s3⟩ := hSw; go_simp; try with_reducible rfl)
      try simp only [List.getElem_toArray, List.getElem_cons_succ, List.getElem_cons_zero, Act.put, List.setIfInBounds_toArray, List.set_cons_zero, List.set_cons_succ]
      refine wpAnyH_take (i := 4) (v := ?_) rfl (by kernel_rfl) (by kernel_rfl) (by kernel_rfl) (fun _ _ _ h => h) (Or.inl ⟨by rfl, ?_⟩) (by assumption) ?_
      rotate_left
      · (intro W hSw; (try dsimp only at hSw); obtain ⟨s1, s2, s3⟩ := hSw; go_simp; try with_reducible rfl)
      try simp only [List.getElem_toArray, List.getElem_cons_succ, List.getElem_cons_zero, Act.put, List.setIfInBounds_toArray, List.set_cons_zero, List.set_cons_succ]
      refine wpAnyH_take (i := 5) (v := ?_) rfl (by kernel_rfl) (by kernel_rfl) (by kernel_rfl) (fun _ _ _ h => h) (Or.inl ⟨by rfl, ?_⟩) (by assumption) ?_
      rotate_left
      · (intro W hSw; (try dsimp only at hSw); obtain ⟨s1, s2, s3⟩ := hSw; go_simp; try with_reducible rfl)
      try simp only [List.getElem_toArray, List.getElem_cons_succ, List.getElem_cons_zero, Act.put, List.setIfInBounds_toArray, List.set_cons_zero, List.set_cons_succ]
      refine wpAnyH_take (i := 6) (v := ?_) rfl (by kernel_rfl) (by kernel_rfl) (by kernel_rfl) (fun _ _ _ h => h) (Or.inl ⟨by rfl, ?_⟩) (by assumption) ?_
      rotate_left
      · (intro W hSw; (try dsimp only at hSw); obtain ⟨s1, s2, s3⟩ := hSw; go_simp; try with_reducible rfl)
      try simp only [List.getElem_toArray, List.getElem_cons_succ, List.getElem_cons_zero, Act.put, List.setIfInBounds_toArray, List.set_cons_zero, List.set_cons_succ]
      refine wpAnyH_take (i := 7) (v := ?_) rfl (by kernel_rfl) (by kernel_rfl) (by kernel_rfl) (fun _ _ _ h => h) (Or.inl ⟨by rfl, ?_⟩) (by assumption) ?_
      rotate_left
      · (intro W hSw; (try dsimp only at hSw); obtain ⟨s1, s2, s3⟩ := hSw; go_simp; try with_reducible rfl)
      try simp only [List.getElem_toArray, List.getElem_cons_succ, List.getElem_cons_zero, Act.put, List.setIfInBounds_toArray, List.set_cons_zero, List.set_cons_succ]
      refine wpAnyH_take (i := 8) (v := .int .i64 ((size : Int) + 1)) rfl (by kernel_rfl) (by kernel_rfl) (by kernel_rfl) (fun _ _ _ h => h) (Or.inl ⟨by rfl, ?_⟩) (by assumption) ?_
      · (intro W hSw; (try dsimp only at hSw); obtain ⟨s1, s2, s3⟩ := hSw; go_simp; try first | with_reducible rfl | go_num | (rw [if_pos (by assumption)]; simp only [*]) | simp only [*])
      try simp only [List.getElem_toArray, List.getElem_cons_succ, List.getElem_cons_zero, Act.put, List.setIfInBounds_toArray, List.set_cons_zero, List.set_cons_succ]
      refine wpAnyH_take (i := 9) (v := ?_) rfl (by kernel_rfl) (by kernel_rfl) (by kernel_rfl) (fun _ _ _ h => h) (Or.inl ⟨by rfl, ?_⟩) (by assumption) ?_
      rotate_left
      · (intro W hSw; (try dsimp only at hSw); obtain ⟨s1, s2, s3⟩ := hSw; go_simp; try with_reducible rfl)
      try simp only [List.getElem_toArray, List.getElem_cons_succ, List.getElem_cons_zero, Act.put, List.setIfInBounds_toArray, List.set_cons_zero, List.set_cons_succ]
      refine wpAnyH_take (i := 10) (v := ?_) rfl (by kernel_rfl) (by kernel_rfl) (by kernel_rfl) (fun _ _ _ h => h) (Or.inl ⟨by rfl, ?_⟩) (by assumption) ?_
      rotate_left
      · (intro W hSw; (try dsimp only at hSw); obtain ⟨s1, s2, s3⟩ := hSw; go_simp; try with_reducible rfl)
      try simp only [List.getElem_toArray, List.getElem_cons_succ, List.getElem_cons_zero, Act.put, List.setIfInBounds_toArray, List.set_cons_zero, List.set_cons_succ]
      refine wpAnyH_take (i := 11) (v := ?_) rfl (by kernel_rfl) (by kernel_rfl) (by kernel_rfl) (fun _ _ _ h => h) (Or.inl ⟨by rfl, ?_⟩) (by assumption) ?_
      rotate_left
      · (intro W hSw; (try dsimp only at hSw); obtain ⟨s1, s2, s3⟩ := hSw; go_simp; try with_reducible rfl)
      try simp only [List.getElem_toArray, List.getElem_cons_succ, List.getElem_cons_zero, Act.put, List.setIfInBounds_toArray, List.set_cons_zero, List.set_cons_succ]
      refine wpAnyH_take (i := 12) (v := ?_) rfl (by kernel_rfl) (by kernel_rfl) (by kernel_rfl) (fun _ _ _ h => h) (Or.inl ⟨by rfl, ?_⟩) (by assumption) ?_
      rotate_left
      · (intro W hSw; (try dsimp only at hSw); obtain ⟨s1, s2, s3⟩ := hSw; go_simp; try with_reducible rfl)
      try simp only [List.getElem_toArray, List.getElem_cons_succ, List.getElem_cons_zero, Act.put, List.setIfInBounds_toArray, List.set_cons_zero, List.set_cons_succ]
      refine wpAnyH_take (i := 13) (v := .int .i64 ((size : Int) + 1 + (x : Int))) rfl (by kernel_rfl) (by kernel_rfl) (by kernel_rfl) (fun _ _ _ h => h) (Or.inl ⟨by rfl, ?_⟩) (by assumption) ?_
      · (intro W hSw; (try dsimp only at hSw); obtain ⟨s1, s2, s3⟩ := hSw; go_simp; try first | with_reducible rfl | go_num | (rw [if_pos (by assumption)]; simp only [*]) | simp only [*])
      try simp only [List.getElem_toArray, List.getElem_cons_succ, List.getElem_cons_zero, Act.put, List.setIfInBounds_toArray, List.set_cons_zero, List.set_cons_succ]
      refine wpAnyH_take (i := 14) (v := ?_) rfl (by kernel_rfl) (by kernel_rfl) (by kernel_rfl) (fun _ _ _ h => h) (Or.inl ⟨by rfl, ?_⟩) (by assumption) ?_
      rotate_left
      · (intro W hSw; (try dsimp only at hSw); obtain ⟨s1, s2, s3⟩ := hSw; go_simp; try with_reducible rfl)
      try simp only [List.getElem_toArray, List.getElem_cons_succ, List.getElem_cons_zero, Act.put, List.setIfInBounds_toArray, List.set_cons_zero, List.set_cons_succ]
      refine wpAnyH_ready (rs := [15]) (by kernel_rfl) (by simp) (AllReadyH.cons rfl (fun K hKK => ?_) AllReadyH.nil)
      rw [if_pos (by rfl)]
      go_simp
      refine HWr.out.mono ?_
      clear HWr
      rintro e w3 ⟨rfl, lv3, vs3, hR3, hK3⟩
      have hK3' : Keeps (fun i => i = r) w2 w3 := (Keeps.of_below (Below.refl _ w2).drew).trans hK3 (fun i e => .inl e)
      have hL3 := HL2.out.did hR3 hK3'
      have hs3 := hK3'.size
      have hK13 : Keeps (fun i => i = r) w w3 := HK2.out.trans hK3' (fun i e => .inl e)
      have u0 : w3.cell? ⟨q, 0, none⟩ = some (.pointer (some ⟨r, 0, none⟩)) := cell_of_block hL3.heap 0
      have u1 : w3.cell? ⟨q, 1, none⟩ = some (.int .i64 (size : Int)) := cell_of_block hL3.heap 1
      have u2 : w3.cell? ⟨b, o + j, none⟩ = some (.int .i64 (x : Int)) := hK13.cell (ad := ⟨b, o + j, none⟩) HCw.out hbr
      have HL3 := hid ((hL3.next (w := wr) hL.out hs2 hs3).next H.out hsr (by omega))
      have HK13 := hid hK13
      clear hR3 hK3 hL3 hK3' hK13
      go_wp2_with fail
      refine hKK.out _ _ ⟨u0, u1, u2⟩ (fun hHeld => ?_)
      clear hKK K
      refine wpAnyH_done (by kernel_rfl) ?_ _
      refine NoPanic.normal ?_
      clear hHeld
      go_wp2
      exact ⟨⟨j + 1, lv3, vs3, by omega, by go_num, HL3, HK13⟩, by simp [intOf]; omega⟩
    · obtain rfl : j = ns.length := by omega
      have hge : ¬ ((ns.length : Int) < (ns.length : Int)) := by omega
      have HLen := hid (rhomeTo_len R size ns bs ns.length)
      have HFl := hid (rflush_any r fv lvj vsj _ _ wr hL.out.disk (by rw [HLen.out]; omega))
      go_wp2_with fail
      refine HFl.out.mono ?_
      clear HFl
      rintro e w2 ⟨rfl, lv2, vs2, hR2, hK2⟩
      have hL2 := (hL.out.did hR2 hK2).next H.out hsr hK2.size
      have hK12 := hK.out.trans hK2 (fun i e => .inl e)
      have hs2 := hK2.size
      have HSt := hid (rset_any q r fv lv2 vs2 _ _ size rec [] none 0 w2 hL2 (by simp only [RefS.did, List.length_append, List.length_singleton]; rw [HLen.out]; omega) (fun k hk => by simp [natsZ] at hk) (by decide) (fun n hn => by simp at hn))
      have HL2 := hid hL2
      have HK2 := hid hK12
      clear hR2 hK2 hL2 hK12 d0
      go_wp2_with fail
      refine HSt.out.mono ?_
      clear HSt
      rintro e w3 ⟨rfl, lv3, vs3, hL3, hK3⟩
      have HL3 := hid (hL3.next H.out (by omega) hK3.size)
      have HK3 := hid (HK2.out.trans hK3 (fun i e => .inl e))
      clear hL3 hK3
      go_wp2
      go_returns
      exact ⟨rfl, lv3, vs3, HL3.out, HK3.out⟩
end Go.Proofs.YtjgclmlclkfgpaaGreat
