/- write: all of these pages, or none. -/
import Derived.Test.YtkkmbgjlmdddoabGreatAlMap
import Derived.Test.YtkkmbgjlmdddoabGreatBinS
namespace Go.Proofs.YtkkmbgjlmdddoabGreat
open Go.RowKit Go.Maps
/-- A page that is handed over to be written: its number, where its bytes lie, and the bytes. -/
structure WPg where
  n : Nat
  g : Nat
  cap : Nat
  l : List UInt8
def WPg.cells (p : WPg) : List Value := [.int .i64 p.n, .slice (some ⟨p.g, 0, none⟩) 512 p.cap]
/-- Pages in memory. -/
structure WPgs (w : World) (pb : Nat) (ps : List WPg) (F : Nat → Prop) (N : Nat) : Prop where
  at_ : ∀ i (hi : i < ps.length), w.cell? ⟨pb, i * 2, none⟩ = some (.int .i64 ps[i].n) ∧ w.cell? ⟨pb, i * 2 + 1, none⟩ = some (.slice (some ⟨ps[i].g, 0, none⟩) 512 ps[i].cap)
  off : 0 < ps.length → ¬ F pb
  row : ∀ p ∈ ps, p.n < N ∧ p.l.length = 512 ∧ bytesAt w ⟨p.g, 0, none⟩ p.l ∧ ¬ F p.g
theorem WPgs.keep {w w' : World} {pb : Nat} {ps : List WPg} {F : Nat → Prop} {N : Nat} (h : WPgs w pb ps F N) (k : Keeps F w w') : WPgs w' pb ps F N :=
  ⟨fun i hi => ⟨k.cell (h.at_ i hi).1 (h.off (by omega)), k.cell (h.at_ i hi).2 (h.off (by omega))⟩, h.off, fun p hp => ⟨(h.row p hp).1, (h.row p hp).2.1, fun j hj => k.cell ((h.row p hp).2.2.1 j hj) (by rw [add_block]; exact (h.row p hp).2.2.2), (h.row p hp).2.2.2⟩⟩
theorem WPgs.below {w w' : World} {pb : Nat} {ps : List WPg} {F : Nat → Prop} {N : Nat} (h : WPgs w pb ps F N) (k : Below w.heap.size w w') : WPgs w' pb ps F N := h.keep (Keeps.of_below k)
/-- How many of them were not written yet. -/
def newC (D : Int → Bool) (ps : List WPg) : Nat := (ps.filter (fun p => !D (p.n : Int))).length
theorem newC_snoc (D : Int → Bool) (ps : List WPg) (p : WPg) : newC D (ps ++ [p]) = newC D ps + (if D (p.n : Int) then 0 else 1) := by
  unfold newC
  rw [List.filter_append, List.length_append]
  cases h : D (p.n : Int) <;> simp [h]
def putP (Pg : Nat → List UInt8) (ps : List WPg) : Nat → List UInt8 := ps.foldl (fun f p => updP f p.n p.l) Pg
def putD (D : Int → Bool) (ps : List WPg) : Int → Bool := ps.foldl (fun f p => updT f (p.n : Int)) D
theorem putP_snoc (Pg : Nat → List UInt8) (ps : List WPg) (p : WPg) : putP Pg (ps ++ [p]) = updP (putP Pg ps) p.n p.l := by simp [putP]
theorem putD_snoc (D : Int → Bool) (ps : List WPg) (p : WPg) : putD D (ps ++ [p]) = updT (putD D ps) (p.n : Int) := by simp [putD]
theorem mem_dkD {N : Nat} {D : Int → Bool} {k : Int} : k ∈ dkD N D ↔ 0 ≤ k ∧ k < N ∧ D k = true := by
  simp only [dkD, List.mem_filter, List.mem_map, List.mem_range]
  constructor
  · rintro ⟨⟨j, hj, rfl⟩, h⟩; exact ⟨by omega, by omega, h⟩
  · rintro ⟨h0, h1, h2⟩; exact ⟨⟨k.toNat, by omega, by omega⟩, h2⟩
theorem dkD_updT (N : Nat) (D : Int → Bool) (n : Nat) : (dkD N (updT D n)).length ≤ (dkD N D).length + (if D n then 0 else 1) := by
  by_cases h : D n = true
  · have e : updT D n = D := funext fun k => by unfold updT; by_cases e : k = (n : Int); rw [if_pos e, e, h]; rw [if_neg e]
    rw [e, if_pos h]; exact Nat.le_refl _
  · rw [if_neg h]
    exact filt_upd D (updT D n) n (fun k hk => by unfold updT; rw [if_neg hk]) _ (range_sorted N)
theorem putD_le (D : Int → Bool) (ps : List WPg) (k : Int) (h : D k = true) : putD D ps k = true := by
  unfold putD
  induction ps generalizing D with
  | nil => exact h
  | cons p ps ih =>
    exact ih (updT D p.n) (by unfold updT; split; rfl; exact h)
theorem newC_cons (D : Int → Bool) (p : WPg) (ps : List WPg) : newC D (p :: ps) = (if D (p.n : Int) then 0 else 1) + newC D ps := by
  unfold newC
  cases h : D (p.n : Int) <;> simp [h]; omega
theorem newC_upd (D : Int → Bool) (n : Int) : ∀ ps : List WPg, newC (updT D n) ps ≤ newC D ps
  | [] => Nat.le_refl _
  | p :: ps => by
    have ih := newC_upd D n ps
    rw [newC_cons, newC_cons]
    by_cases h : D (p.n : Int) = true
    · have h2 : updT D n (p.n : Int) = true := by unfold updT; split; rfl; exact h
      rw [if_pos h, if_pos h2]; omega
    · rw [if_neg h]; split <;> omega
theorem dkD_put (N : Nat) : ∀ (D : Int → Bool) (ps : List WPg), (dkD N (putD D ps)).length ≤ (dkD N D).length + newC D ps
  | _, [] => Nat.le_refl _
  | D, p :: ps => by
    have ih := dkD_put N (updT D p.n) ps
    have h1 := dkD_updT N D p.n
    have h2 := newC_upd D p.n ps
    have e : putD D (p :: ps) = putD (updT D p.n) ps := rfl
    rw [e, newC_cons]
    omega
set_option maxRecDepth 100000 in
set_option maxHeartbeats 1000000 in
theorem bins_nil (c : Nat) (x : Int) (w : World) : Calls Tryz.prog 53 #[.slice none 0 c, .int .i64 x] w fun e w' => e = .returned (.tuple #[.int .i64 0, .bool false]) ∧ w' = w := by
  go_enter Tryz.func53, Tryz.ntmps53
  go_wp2
  go_loopw [7, 8] (fun i j wr => i = .int .i64 0 ∧ j = .int .i64 0 ∧ wr = w) (fun _ _ _ => 0)
  case atStart => exact ⟨rfl, rfl, rfl⟩
  case round =>
    obtain ⟨rfl, rfl, rfl⟩ := hrel
    go_wp2
    go_returns
    exact ⟨rfl, rfl⟩
theorem dkD_sorted (N : Nat) (D : Int → Bool) : (dkD N D).Pairwise (fun a b => a ≤ b) := ((range_sorted N).filter D).imp (fun h => Int.le_of_lt h)
/-- BinarySearch among the pages that were written. -/
theorem bins_dirty {w : World} {N : Nat} {D : Int → Bool} {v : Value} {lo : Nat} (hr : w.ownsRow lo 3 1 v (dkD N D).length ((dkD N D).map encZ)) (hN : N ≤ 4096) (n : Nat) (hn : n < N) :
    Calls Tryz.prog 53 #[v, .int .i64 n] w fun e w' => (∃ i, e = .returned (.tuple #[.int .i64 i, .bool (D n)])) ∧ Below w.heap.size w w' := by
  have hlen : (dkD N D).length ≤ 4096 := Nat.le_trans (List.length_filter_le _ _) (by simp; omega)
  rcases hr.2 with ⟨rfl, h0⟩ | ⟨g, cap, cur, rfl, hb, hh, hc, -⟩
  · refine (bins_nil 0 n w).mono ?_
    rintro e w' ⟨rfl, rfl⟩
    have hD : D (n : Int) = false := by
      cases h : D (n : Int) with
      | false => rfl
      | true =>
        have hm : (n : Int) ∈ dkD N D := mem_dkD.2 ⟨by omega, by omega, h⟩
        rw [List.eq_nil_of_length_eq_zero h0] at hm
        cases hm
    rw [hD]
    exact ⟨⟨_, rfl⟩, Below.refl _ _⟩
  · have hcon := AnyG.slices_BinarySearch_int Tryz.binS g 0 (dkD N D).length cap (dkD N D) (n : Int) w (Nat.le_refl _) (by omega) (fun j hj => by
      rw [Nat.zero_add, hr.cellAt j (by omega), List.getElem?_map, List.getElem?_eq_getElem hj, List.getD_eq_getElem?_getD, List.getElem?_eq_getElem hj]; rfl) (by rw [List.take_length]; exact dkD_sorted N D)
    change Calls Tryz.prog 53 _ _ _ at hcon
    refine hcon.mono ?_
    rintro e w' ⟨rfl, q, rfl⟩
    rw [List.take_length]
    have hD : (dkD N D).contains (n : Int) = D (n : Int) := by
      rw [Bool.eq_iff_iff, List.contains_iff_mem, mem_dkD]
      exact ⟨fun h => h.2.2, fun h => ⟨by omega, by omega, h⟩⟩
    rw [hD]
    exact ⟨⟨_, rfl⟩, ((Keeps.refl (fun _ => False) w).drewN q).below (Nat.le_refl _) (fun _ h => h.elim)⟩
theorem below_row2 {w w' : World} {lo : Nat} {v : Value} {n : Nat} {xs : List Value} (h : w.ownsRow lo 3 1 v n xs) (hb : Below w.heap.size w w') : w'.ownsRow lo 3 1 v n xs := (Keeps.of_below hb : Keeps (fun _ => False) w w').row h (fun _ _ h => h)
theorem dkD_more (N : Nat) (D : Int → Bool) (n : Nat) (hn : n < N) (hd : D n = false) : (dkD N D).length + 1 ≤ (dkD N (updT D n)).length := by
  have key : ∀ l : List Int, l.Nodup → (n : Int) ∈ l → (l.filter D).length + 1 ≤ (l.filter (updT D n)).length := by
    intro l
    induction l with
    | nil => intro _ h; cases h
    | cons k l ih =>
      intro hnd hm
      obtain ⟨h1, h2⟩ := List.nodup_cons.1 hnd
      by_cases e : k = (n : Int)
      · subst e
        have e2 : l.filter (updT D n) = l.filter D := List.filter_congr (fun x hx => by unfold updT; rw [if_neg (fun e : x = (n : Int) => h1 (by rw [← e]; exact hx))])
        have e3 : updT D n (n : Int) = true := by unfold updT; rw [if_pos rfl]
        rw [List.filter_cons, List.filter_cons, hd, e3, e2]
        simp
      · have hm' : (n : Int) ∈ l := (List.mem_cons.1 hm).resolve_left (fun h => e h.symm)
        have e3 : updT D n k = D k := by unfold updT; rw [if_neg e]
        have := ih h2 hm'
        rw [List.filter_cons, List.filter_cons, e3]
        split <;> simp <;> omega
  exact key _ ((range_sorted N).imp (fun h => by omega)) (List.mem_map.2 ⟨n, List.mem_range.2 hn, rfl⟩)
section
variable {w : World} {m c ino : Nat} {F : Nat → Prop} {size N : Nat} {Pg Cm : Nat → List UInt8} {D : Int → Bool} {o u : Nat}
/-- What write tells. -/
def WriteTo (w : World) (c : Nat) (F : Nat → Prop) (size N : Nat) (Pg Cm : Nat → List UInt8) (D : Int → Bool) (o u : Nat) (ps : List WPg) (e : Ending) (w' : World) : Prop :=
  Keeps F w w' ∧ ((min size 100 < (dkD N D).length + newC D ps ∧ e = .returned (.int .i64 7) ∧ Pc w' c F size N Pg Cm D o u) ∨ ((dkD N D).length + newC D ps ≤ min size 100 ∧ e = .returned (.int .i64 0) ∧ Pc w' c F size N (putP Pg ps) Cm (putD D ps) o u))
set_option maxRecDepth 100000 in
set_option maxHeartbeats 4000000 in
theorem awrite_any (h : mapB w m c ino) (hmF : ¬ F m) (pb : Nat) (ps : List WPg) (hps : WPgs w pb ps F N) (cp : Nat) (hl : ps.length ≤ 100) (hl0 : 0 < ps.length) (hp : Pc w c F size N Pg Cm D o u) :
    Calls Tryz.prog 27 #[.pointer (some ⟨m, 0, none⟩), .slice (some ⟨pb, 0, none⟩) ps.length cp] w (WriteTo w c F size N Pg Cm D o u ps) := by
  have c0 : w.cell? ⟨m, 0, none⟩ = some (.pointer (some ⟨c, 0, none⟩)) := cell_of_block h 0
  have hkl := hp.keysLen
  have hN := hp.four
  have HM := hid h
  have HPs := hid hps
  have HP := hid hp
  have HDr := hid hp.dirtyRow
  have HFl := hid hp.lt
  obtain ⟨K, hK⟩ : ∃ K, K = (dkD N D).length := ⟨_, rfl⟩
  have HK := hid hK
  obtain ⟨Z, hZ⟩ : ∃ Z, Z = min size 100 := ⟨_, rfl⟩
  have hZ1 : Z ≤ 100 := by omega
  have HZ := hid hZ
  rw [← hK, ← hZ] at hkl
  clear h hps hp hK hZ
  go_enter Tryz.func27, Tryz.ntmps27
  go_wp2_with fail
  refine HDr.out.mono ?_
  clear HDr
  rintro e w1 ⟨v, rfl, hrow, hb1⟩
  have HRw := hid hrow
  have HB1 := hid hb1
  clear hrow hb1 c0
  go_wp2
  go_loopw [6, 20] (fun mo i wr => ∃ k : Nat, k ≤ ps.length ∧ i = .int .i64 k ∧ mo = .int .i64 (newC D (ps.take k) : Nat) ∧ Hid (Below w1.heap.size w1 wr)) (fun _ i _ => ps.length - (intOf i).toNat)
  case atStart => exact ⟨0, by omega, rfl, rfl, Below.refl _ _⟩
  case round =>
    obtain ⟨k, hk, rfl, rfl, HB⟩ := hrel
    have HBw : Hid (Below w.heap.size w wr) := HB1.out.trans (HB.out.mono HB1.out.size)
    have hnc : newC D (ps.take k) ≤ k := Nat.le_trans (List.length_filter_le _ _) (by rw [List.length_take]; omega)
    by_cases hlt : k < ps.length
    · have hk0 : (0 : Int) ≤ (k : Int) := by omega
      have hlt' : (k : Int) < (ps.length : Int) := by omega
      obtain ⟨a0, a1⟩ := (HPs.out.below HBw.out).at_ k hlt
      have hr0 := HPs.out.row ps[k] (List.getElem_mem hlt)
      obtain ⟨p, hpe⟩ : ∃ p, p = ps[k] := ⟨_, rfl⟩
      rw [← hpe] at a0 a1 hr0
      have hNc : newC D (ps.take (k + 1)) = newC D (ps.take k) + (if D (p.n : Int) then 0 else 1) := by
        rw [List.take_succ_eq_append_getElem hlt, newC_snoc, hpe]
      have hb2 : Below wr.heap.size wr (wr.alloc (.cells #[.int .i64 p.n, .slice (some ⟨p.g, 0, none⟩) 512 p.cap] 63)) := (Below.refl _ wr).alloc (Nat.le_refl _) _
      have hrw := below_row2 HRw.out (HB.out.trans (hb2.mono HB.out.size))
      have HBs := hid (bins_dirty hrw hN p.n hr0.1)
      have HB2 := hid (HB.out.trans (hb2.mono HB.out.size))
      clear hpe hr0 hrw hb2
      generalize newC D (ps.take k) = nc at *
      cases hD : D (p.n : Int) with
      | true =>
        rw [hD] at HBs hNc
        simp only [if_true, Nat.add_zero] at hNc
        have HNc := hid hNc
        clear hNc hD
        go_wp2_with fail
        refine HBs.out.mono ?_
        clear HBs
        rintro e w3 ⟨⟨i, rfl⟩, hb3⟩
        have HB3 := hid (HB2.out.trans (hb3.mono HB2.out.size))
        clear hb3 a0 a1
        go_wp2
        exact ⟨⟨k + 1, by omega, by go_num, by rw [HNc.out], HB3⟩, by simp [intOf]; omega⟩
      | false =>
        rw [hD] at HBs hNc
        have hNc' : newC D (ps.take (k + 1)) = nc + 1 := by rw [hNc]; rfl
        have HNc := hid hNc'
        clear hNc hNc' hD
        go_wp2_with fail
        refine HBs.out.mono ?_
        clear HBs
        rintro e w3 ⟨⟨i, rfl⟩, hb3⟩
        have HB3 := hid (HB2.out.trans (hb3.mono HB2.out.size))
        clear hb3 a0 a1
        go_wp2
        exact ⟨⟨k + 1, by omega, by go_num, by rw [HNc.out]; go_num, HB3⟩, by simp [intOf]; omega⟩
    · obtain rfl : k = ps.length := by omega
      have hge : ¬ ((ps.length : Int) < (ps.length : Int)) := by omega
      have htk : ps.take ps.length = ps := List.take_length
      rw [htk] at hnc ⊢
      have HR := hid (HP.out.below HBw.out).roomC
      rw [← HZ.out, ← HK.out] at HR
      have c0 : wr.cell? ⟨m, 0, none⟩ = some (.pointer (some ⟨c, 0, none⟩)) := cell_of_block (HM.out.below HBw.out) 0
      obtain ⟨nc, hncE⟩ : ∃ nc, nc = newC D ps := ⟨_, rfl⟩
      rw [← hncE] at hnc ⊢
      have HNc := hid hncE
      clear htk hncE
      by_cases hfull : Z < K + nc
      · have hgt : (Z : Int) - (K : Int) < (nc : Int) := by omega
        go_wp2_with fail
        refine HR.out.mono ?_
        clear HR
        rintro e w3 ⟨rfl, hb3⟩
        have HB3 := hid (HBw.out.trans (hb3.mono HBw.out.size))
        clear hb3 c0
        go_wp2
        go_ret
        exact ⟨Keeps.of_below HB3.out, .inl ⟨by rw [← HK.out, ← HZ.out, ← HNc.out]; exact hfull, rfl, HP.out.below HB3.out⟩⟩
      · have hgt : ¬ ((Z : Int) - (K : Int) < (nc : Int)) := by omega
        go_wp2_with fail
        refine HR.out.mono ?_
        clear HR
        rintro e w3 ⟨rfl, hb3⟩
        have HB3 := hid (HBw.out.trans (hb3.mono HBw.out.size))
        have HSt : Hid (∀ q, q ≤ ps.length → (dkD N (putD D (ps.take q))).length ≤ Z) := fun q hq => by
          have h1 := dkD_put N D (ps.take q)
          have h2 : newC D (ps.take q) ≤ newC D ps := by
            conv => rhs; rw [← List.take_append_drop q ps]
            unfold newC
            rw [List.filter_append, List.length_append]; omega
          rw [← HK.out] at h1
          rw [← HNc.out] at h2
          omega
        clear hb3 c0 hgt
        go_wp2
        go_loopw [45] (fun i wi => ∃ q : Nat, q ≤ ps.length ∧ i = .int .i64 q ∧ Hid (Keeps F w wi) ∧ Hid (Pc wi c F size N (putP Pg (ps.take q)) Cm (putD D (ps.take q)) o u)) (fun i _ => ps.length - (intOf i).toNat)
        case atStart => exact ⟨0, by omega, rfl, Keeps.of_below HB3.out, HP.out.below HB3.out⟩
        case round =>
          obtain ⟨q, hq, rfl, HKq, HPq⟩ := hrel
          by_cases hql : q < ps.length
          · have hq0 : (0 : Int) ≤ (q : Int) := by omega
            have hql' : (q : Int) < (ps.length : Int) := by omega
            have hws := HPs.out.keep HKq.out
            obtain ⟨a0, a1⟩ := hws.at_ q hql
            have hr0 := hws.row ps[q] (List.getElem_mem hql)
            have ht1 : putP Pg (ps.take (q + 1)) = updP (putP Pg (ps.take q)) ps[q].n ps[q].l := by rw [List.take_succ_eq_append_getElem hql, putP_snoc]
            have ht2 : putD D (ps.take (q + 1)) = updT (putD D (ps.take q)) (ps[q].n : Int) := by rw [List.take_succ_eq_append_getElem hql, putD_snoc]
            have hroom : putD D (ps.take q) (ps[q].n : Int) = true ∨ (dkD N (putD D (ps.take q))).length < min size 100 := by
              cases hd : putD D (ps.take q) (ps[q].n : Int) with
              | true => exact .inl rfl
              | false =>
                have h1 := HSt.out (q + 1) (by omega)
                rw [ht2] at h1
                have h3 := dkD_more N (putD D (ps.take q)) ps[q].n hr0.1 hd
                have := HZ.out
                exact .inr (by omega)
            obtain ⟨p, hpe⟩ : ∃ p, p = ps[q] := ⟨_, rfl⟩
            rw [← hpe] at a0 a1 hr0 ht1 ht2 hroom
            have hb4 : Below wr.heap.size wr (wr.alloc (.cells #[.int .i64 p.n, .slice (some ⟨p.g, 0, none⟩) 512 p.cap] 63)) := (Below.refl _ wr).alloc (Nat.le_refl _) _
            have hdr := (Below.refl (wr.alloc (.cells #[.int .i64 p.n, .slice (some ⟨p.g, 0, none⟩) 512 p.cap] 63)).heap.size (wr.alloc (.cells #[.int .i64 p.n, .slice (some ⟨p.g, 0, none⟩) 512 p.cap] 63))).drew
            have hb5 := hb4.trans (hdr.mono hb4.size)
            have HWr := hid ((HPq.out.below hb5).write p.n hr0.1 p.l hr0.2.1 ⟨p.g, 0, none⟩ p.cap (fun j hj => (hb5.cell (World.block_lt_of_cell? wr _ (hr0.2.2.1 j hj))).trans (hr0.2.2.1 j hj)) hroom)
            rw [← ht1, ← ht2] at HWr
            have hFn : ¬ F wr.heap.size := fun hf => by have := HFl.out _ hf; have := HKq.out.size; omega
            have HCs : Hid (∀ W, Keeps F (wr.alloc (.cells #[.int .i64 p.n, .slice (some ⟨p.g, 0, none⟩) 512 p.cap] 63)) W → W.cell? ⟨m, 0, none⟩ = some (.pointer (some ⟨c, 0, none⟩)) ∧ W.cell? ⟨wr.heap.size, 0, none⟩ = some (.int .i64 p.n) ∧ W.cell? ⟨wr.heap.size, 1, none⟩ = some (.slice (some ⟨p.g, 0, none⟩) 512 p.cap)) := fun W hW => by
              have h1 := ((HM.out.keep HKq.out hmF).below hb4).keep hW hmF
              have h2 := hW.heap (block_new wr (.cells #[.int .i64 p.n, .slice (some ⟨p.g, 0, none⟩) 512 p.cap] 63)) hFn
              exact ⟨cell_of_block h1 0, cell_of_block h2 0, cell_of_block h2 1⟩
            have hS0 := HCs.out _ (Keeps.refl _ _)
            have HK4 : Hid (Keeps F w (wr.alloc (.cells #[.int .i64 p.n, .slice (some ⟨p.g, 0, none⟩) 512 p.cap] 63))) := HKq.out.trans (Keeps.of_below hb4 : Keeps (fun _ => False) wr _) (fun i e => e.elim)
            clear ht1 ht2 hroom hpe hr0 hws hb4 hdr hb5 hFn
            obtain ⟨nb, hnb⟩ : ∃ nb, nb = wr.heap.size := ⟨_, rfl⟩
            rw [← hnb] at HCs hS0
            go_wp2
            rw [← hnb]
            clear hnb a0 a1
            generalize wr.alloc (.cells #[.int .i64 p.n, .slice (some ⟨p.g, 0, none⟩) 512 p.cap] 63) = wa at *
            refine wp_region_noPanic ?_
            refine wp_region_held_drew (S := fun W => W.cell? ⟨m, 0, none⟩ = some (.pointer (some ⟨c, 0, none⟩)) ∧ W.cell? ⟨nb, 0, none⟩ = some (.int .i64 p.n) ∧ W.cell? ⟨nb, 1, none⟩ = some (.slice (some ⟨p.g, 0, none⟩) 512 p.cap)) (by kernel_rfl) hS0 (fun hHeld => ?_)
            refine wpAnyH_take (i := 0) (v := ?_) rfl (by kernel_rfl) (by kernel_rfl) (by kernel_rfl) (fun _ _ _ h => h) (Or.inl ⟨by rfl, ?_⟩) (by assumption) ?_
            rotate_left
            · (intro W hSw; (try dsimp only at hSw); obtain ⟨s0, s1, s2⟩ := hSw; go_simp; try with_reducible rfl)
            try simp only [List.getElem_toArray, List.getElem_cons_zero, Act.put, List.setIfInBounds_toArray, List.set_cons_zero, List.set_cons_succ]
            refine wpAnyH_take (i := 1) (v := ?_) rfl (by kernel_rfl) (by kernel_rfl) (by kernel_rfl) (fun _ _ _ h => h) (Or.inl ⟨by rfl, ?_⟩) (by assumption) ?_
            rotate_left
            · (intro W hSw; (try dsimp only at hSw); obtain ⟨s0, s1, s2⟩ := hSw; go_simp; try with_reducible rfl)
            try simp only [List.getElem_toArray, List.getElem_cons_succ, List.getElem_cons_zero, Act.put, List.setIfInBounds_toArray, List.set_cons_zero, List.set_cons_succ]
            refine wpAnyH_take (i := 2) (v := ?_) rfl (by kernel_rfl) (by kernel_rfl) (by kernel_rfl) (fun _ _ _ h => h) (Or.inl ⟨by rfl, ?_⟩) (by assumption) ?_
            rotate_left
            · (intro W hSw; (try dsimp only at hSw); obtain ⟨s0, s1, s2⟩ := hSw; go_simp; try with_reducible rfl)
            try simp only [List.getElem_toArray, List.getElem_cons_succ, List.getElem_cons_zero, Act.put, List.setIfInBounds_toArray, List.set_cons_zero, List.set_cons_succ]
            refine wpAnyH_take (i := 3) (v := ?_) rfl (by kernel_rfl) (by kernel_rfl) (by kernel_rfl) (fun _ _ _ h => h) (Or.inl ⟨by rfl, ?_⟩) (by assumption) ?_
            rotate_left
            · (intro W hSw; (try dsimp only at hSw); obtain ⟨s0, s1, s2⟩ := hSw; go_simp; try with_reducible rfl)
            try simp only [List.getElem_toArray, List.getElem_cons_succ, List.getElem_cons_zero, Act.put, List.setIfInBounds_toArray, List.set_cons_zero, List.set_cons_succ]
            refine wpAnyH_take (i := 4) (v := ?_) rfl (by kernel_rfl) (by kernel_rfl) (by kernel_rfl) (fun _ _ _ h => h) (Or.inl ⟨by rfl, ?_⟩) (by assumption) ?_
            rotate_left
            · (intro W hSw; (try dsimp only at hSw); obtain ⟨s0, s1, s2⟩ := hSw; go_simp; try with_reducible rfl)
            try simp only [List.getElem_toArray, List.getElem_cons_succ, List.getElem_cons_zero, Act.put, List.setIfInBounds_toArray, List.set_cons_zero, List.set_cons_succ]
            refine wpAnyH_take (i := 5) (v := ?_) rfl (by kernel_rfl) (by kernel_rfl) (by kernel_rfl) (fun _ _ _ h => h) (Or.inl ⟨by rfl, ?_⟩) (by assumption) ?_
            rotate_left
            · (intro W hSw; (try dsimp only at hSw); obtain ⟨s0, s1, s2⟩ := hSw; go_simp; try with_reducible rfl)
            try simp only [List.getElem_toArray, List.getElem_cons_succ, List.getElem_cons_zero, Act.put, List.setIfInBounds_toArray, List.set_cons_zero, List.set_cons_succ]
            refine wpAnyH_take (i := 6) (v := ?_) rfl (by kernel_rfl) (by kernel_rfl) (by kernel_rfl) (fun _ _ _ h => h) (Or.inl ⟨by rfl, ?_⟩) (by assumption) ?_
            rotate_left
            · (intro W hSw; (try dsimp only at hSw); obtain ⟨s0, s1, s2⟩ := hSw; go_simp; try with_reducible rfl)
            try simp only [List.getElem_toArray, List.getElem_cons_succ, List.getElem_cons_zero, Act.put, List.setIfInBounds_toArray, List.set_cons_zero, List.set_cons_succ]
            refine wpAnyH_take (i := 7) (v := ?_) rfl (by kernel_rfl) (by kernel_rfl) (by kernel_rfl) (fun _ _ _ h => h) (Or.inl ⟨by rfl, ?_⟩) (by assumption) ?_
            rotate_left
            · (intro W hSw; (try dsimp only at hSw); obtain ⟨s0, s1, s2⟩ := hSw; go_simp; try with_reducible rfl)
            try simp only [List.getElem_toArray, List.getElem_cons_succ, List.getElem_cons_zero, Act.put, List.setIfInBounds_toArray, List.set_cons_zero, List.set_cons_succ]
            refine wpAnyH_ready (rs := [8]) (by kernel_rfl) (by simp) (AllReadyH.cons rfl (fun K hK => ?_) AllReadyH.nil)
            rw [if_pos (by rfl)]
            go_simp
            refine HWr.out.mono ?_
            clear HWr
            rintro e w5 ⟨rfl, hk5, hp5⟩
            have HP5 := hid hp5
            have HK5 := hid ((HK4.out.drew).trans hk5 (fun i e => .inl e))
            have hz := HCs.out w5 ((Keeps.refl F wa).drew.trans hk5 (fun i e => .inl e))
            clear hk5 hp5 hS0
            go_wp2_with fail
            refine hK.out _ _ hz (fun hHeld => ?_)
            clear hK K
            try simp only [List.getElem_toArray, List.getElem_cons_succ, List.getElem_cons_zero, Act.put, List.setIfInBounds_toArray, List.set_cons_zero, List.set_cons_succ]
            refine wpAnyH_done (by kernel_rfl) ?_ _
            refine NoPanic.normal ?_
            clear hHeld hz
            go_wp2
            exact ⟨⟨q + 1, by omega, by go_num, HK5, HP5⟩, by simp [intOf]; omega⟩
          · obtain rfl : q = ps.length := by omega
            have hge2 : ¬ ((ps.length : Int) < (ps.length : Int)) := by omega
            have hPf := HPq.out
            rw [List.take_length] at hPf
            have HPf := hid hPf
            clear hPf
            go_wp2
            go_ret
            exact ⟨HKq.out, .inr ⟨by rw [← HK.out, ← HZ.out, ← HNc.out]; omega, rfl, HPf.out⟩⟩
end
end Go.Proofs.YtkkmbgjlmdddoabGreat
