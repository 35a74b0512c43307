/- The reference's Commit. -/
import Derived.Test.YtjgclmlclkfgpaaGreatRLog
import Derived.Test.YtjgclmlclkfgpaaGreatRAppend
import Derived.Test.YtjgclmlclkfgpaaGreatRCommitP
import Derived.BigQuiet
namespace Go.Proofs.YtjgclmlclkfgpaaGreat
open Go.RowKit
theorem pagesAt.below {w w' : World} {pa : Option Addr} {ps : List PageS} (h : pagesAt w pa ps) (k : Below w.heap.size w w') : pagesAt w' pa ps := fun j hj => by
  obtain ⟨b, o, e, hc⟩ := h j hj
  exact ⟨b, o, e, fun i hi => ⟨(k.cell (p := ⟨b, o + i * 2, none⟩) (World.block_lt_of_cell? w _ (hc i hi).1)).trans (hc i hi).1, (k.cell (p := ⟨b, o + i * 2 + 1, none⟩) (World.block_lt_of_cell? w _ (hc i hi).2)).trans (hc i hi).2⟩⟩
/-- The cells of pages. -/
def rowCells (l : List PageS) : List Value := l.flatMap (fun p => [.int .i64 p.n, p.val])
theorem length_rowCells (l : List PageS) : (rowCells l).length = l.length * 2 := by
  unfold rowCells
  rw [List.length_flatMap]
  simp [List.map_const', List.sum_replicate_nat]
theorem rowCells_append (l m : List PageS) : rowCells (l ++ m) = rowCells l ++ rowCells m := by simp [rowCells, List.flatMap_append]
theorem rowCells_cons (p : PageS) (m : List PageS) : rowCells (p :: m) = [.int .i64 p.n, p.val] ++ rowCells m := by simp [rowCells]
theorem rowCells_at : ∀ (l : List PageS) (i : Nat) (hi : i < l.length), (rowCells l)[i * 2]? = some (.int .i64 l[i].n) ∧ (rowCells l)[i * 2 + 1]? = some l[i].val
  | p :: l, 0, _ => by simp [rowCells]
  | p :: l, i + 1, hi => by
    have := rowCells_at l i (by simpa using hi)
    rw [rowCells_cons, show (i + 1) * 2 = 2 + i * 2 by omega, List.getElem?_append_right (by simp), List.getElem?_append_right (by simp; omega)]
    simpa [show 2 + i * 2 + 1 - 2 = i * 2 + 1 by omega] using this
theorem rowCells_take (l : List PageS) (m : Nat) (hm : m ≤ l.length) : rowCells (l.take m) = (rowCells l).take (m * 2) := by
  have h := rowCells_append (l.take m) (l.drop m)
  rw [List.take_append_drop] at h
  have hlen : (rowCells (l.take m)).length = m * 2 := by rw [length_rowCells, List.length_take, Nat.min_eq_left hm]
  rw [h, ← hlen]
  simp
theorem rowCells_drop (l : List PageS) (m : Nat) (hm : m ≤ l.length) : rowCells (l.drop m) = (rowCells l).drop (m * 2) := by
  have h := rowCells_append (l.take m) (l.drop m)
  rw [List.take_append_drop] at h
  have hlen : (rowCells (l.take m)).length = m * 2 := by rw [length_rowCells, List.length_take, Nat.min_eq_left hm]
  rw [h, ← hlen]
  simp
theorem oneCells (l : List PageS) : ∀ u ∈ rowCells l, u.oneCell' = true := fun u hu => by
  obtain ⟨p, _, hp⟩ := List.mem_flatMap.1 hu
  rcases List.mem_cons.1 hp with rfl | hp
  · rfl
  · rw [List.mem_singleton.1 hp]; rfl
/-- The first m pages, and the others, of a row of one's own. -/
theorem row_parts {w : World} {K g k sc m : Nat} {l : List PageS} (h : w.ownsRow K 114 2 (.slice (some ⟨g, 0, none⟩) k sc) k (rowCells l)) (hl : l.length = k) (hm : m ≤ k) :
    (∀ j u, (rowCells (l.take m))[j]? = some u → w.cell? ((⟨g, 0, none⟩ : Addr).add j) = some u) ∧ (∀ j u, (rowCells (l.drop m))[j]? = some u → w.cell? ((⟨g, m * 2, none⟩ : Addr).add j) = some u) := by
  have hx : ∀ j u, (rowCells l)[j]? = some u → w.cell? ⟨g, j, none⟩ = some u := fun j u hj => by
    have hlt := (List.getElem?_eq_some_iff.1 hj).1
    rw [length_rowCells] at hlt
    exact (h.cellAt j (by omega)).trans hj
  refine ⟨fun j u hj => ?_, fun j u hj => ?_⟩
  · rw [Addr.add_mid, Nat.zero_add]
    have hlt := (List.getElem?_eq_some_iff.1 hj).1
    rw [rowCells_take l m (by omega)] at hj hlt
    rw [List.length_take] at hlt
    rw [List.getElem?_take_of_lt (by omega)] at hj
    exact hx j u hj
  · rw [Addr.add_mid]
    rw [rowCells_drop l m (by omega), List.getElem?_drop] at hj
    exact hx _ u hj
theorem srt_ins {ps : List PageS} {k m : Nat} (hk : k < ps.length) (hat : atP (srt ps k) ps[k] = m) : srt ps (k + 1) = (srt ps k).take m ++ ps[k] :: (srt ps k).drop m := by
  simp only [srt, List.getElem?_eq_getElem hk, insP, hat]
theorem grpErr_next {ps : List PageS} {k : Nat} (hk : k < ps.length) (he : grpErr ps k = 0) (h5 : ps[k].len = 512) (hd : ¬ (grpVal ps k ps[k].n).isSome) : grpErr ps (k + 1) = 0 := by
  rw [grpErr, List.getElem?_eq_getElem hk]
  simp only
  rw [if_neg (by rintro (h | h); exact hd h; exact h h5)]
  exact he
theorem grpErr_up (ps : List PageS) (k : Nat) (h : grpErr ps k = 3) : ∀ m, k ≤ m → grpErr ps m = 3
  | 0, hm => by obtain rfl : k = 0 := by omega
                exact h
  | m + 1, hm => by
    by_cases e : k = m + 1
    · subst e; exact h
    · have ih := grpErr_up ps k h m (by omega)
      rw [grpErr]
      split
      · split
        · rfl
        · exact ih
      · exact ih
section
variable {q r : Nat} {fv lv : Value} {vs : List Value} {Rd : Nat → Prop} {R : RefS} {size rec : Nat}
set_option maxRecDepth 100000 in
set_option maxHeartbeats 2000000 in
theorem rcommit_any (ps : List PageS) (pa : Option Addr) (pc : Nat) (bl : Nat → List UInt8) (w : World) (h : RLogIn w q r fv lv vs Rd R size rec) (hR : okR R) (hm : R.l.length ≤ 700000) (hs : size + 1 ≤ R.first.length) (hp : pagesAt w pa ps)
    (hv : ∀ j (hj : j < ps.length), ps[j].len = 512 → ∃ ad, ps[j].a = some ad ∧ bytesAt w ad (bl j) ∧ (bl j).length = 512 ∧ ¬ ad.block = r) :
    Calls Tryz.prog 82 #[.pointer (some ⟨q, 0, none⟩), .slice pa ps.length pc] w fun e w' => e = .returned (.int .i64 (comErr (pagesR R size) size ps)) ∧ ∃ lv' vs', RLogIn w' q r fv lv' vs' (moreOf Rd w w') (rcomR R size ps bl) size rec ∧ Keeps (fun i => i = r) w w' := by
  have HEnd : Hid (∀ W, Below w.heap.size w W → ¬ (comErr (pagesR R size) size ps = 0 ∧ ps.length ≠ 0) → ∃ lv' vs', RLogIn W q r fv lv' vs' (moreOf Rd w W) (rcomR R size ps bl) size rec ∧ Keeps (fun i => i = r) w W) := fun W hW hne => by
    rw [rcomR, if_neg hne]
    exact ⟨lv, vs, h.more hW, Keeps.of_below hW⟩
  have HRC : Hid (comErr (pagesR R size) size ps = 0 → ps.length ≠ 0 → rcomR R size ps bl = ⟨R.first, R.l ++ (comOps size (grpL ps bl ps.length) (grpKeys (grpVal ps ps.length) (pagesR R size))).map ropOf⟩) := fun a b => by rw [rcomR, if_pos ⟨a, b⟩]
  generalize rcomR R size ps bl = RC at *
  have HV := hid hv
  have HRk := hid hR
  clear hv
  have hf := hR.1
  have HPg := hid (fun W (hW : Below w.heap.size w W) => rlpages_any W (h.below hW) hf hs)
  have HCp := hid (rlcap_any w h)
  have HPs := hid (fun W (hW : Below w.heap.size w W) => hp.below hW)
  have H := hid h
  clear h hp
  by_cases h0 : ps.length = 0
  · have hc : comErr (pagesR R size) size ps = 0 := by rw [comErr, if_pos h0]
    rw [hc, h0]
    clear hc
    go_enter Tryz.func82, Tryz.ntmps82
    go_wp2
    go_ret
    exact ⟨rfl, HEnd.out _ (Below.refl _ _) (fun h => h.2 h0)⟩
  by_cases h1 : min size 100 < ps.length
  · have hc : comErr (pagesR R size) size ps = 6 := by rw [comErr, if_neg h0, if_pos h1]
    rw [hc]
    have h0' : ((ps.length : Int) == 0) = false := beq_eq_false_iff_ne.2 (by omega)
    have h1' : (ps.length : Int) > ((min size 100 : Nat) : Int) := by omega
    have HC6 := hid hc
    clear hc h1 HV HRC
    generalize min size 100 = cp at *
    generalize ps.length = L at *
    go_enter Tryz.func82, Tryz.ntmps82
    go_wp2_with fail
    refine HCp.out.mono ?_
    rintro e w1 ⟨rfl, hw⟩
    obtain rfl := hw.symm
    go_wp2
    go_ret
    exact ⟨rfl, HEnd.out _ (Below.refl _ _) (fun h => absurd (HC6.out.symm.trans h.1) (by decide))⟩
  have h0' : ((ps.length : Int) == 0) = false := beq_eq_false_iff_ne.2 (by omega)
  have h1' : ¬ ((ps.length : Int) > ((min size 100 : Nat) : Int)) := by omega
  have hl : ps.length ≤ 100 := by omega
  have hl2 : ps.length ≤ size := by omega
  have hE0 : comErr (pagesR R size) size ps = if inPages (pagesR R size) ps then grpErr ps ps.length else 2 := by rw [comErr, if_neg h0, if_neg h1]
  have HE0 := hid hE0
  generalize comErr (pagesR R size) size ps = E at *
  have hN : pagesR R size ≤ 4096 := by unfold pagesR; omega
  clear h1 hE0
  have h1n : decide (min size 100 < ps.length) = false := decide_eq_false (by omega)
  generalize min size 100 = cp at *
  generalize hNN : pagesR R size = N at *
  have HNN := hid hNN
  clear hNN
  go_enter Tryz.func82, Tryz.ntmps82
  go_wp2_with fail
  refine HCp.out.mono ?_
  rintro e w1 ⟨rfl, hw⟩
  obtain rfl := hw.symm
  clear HCp hw
  go_wp2
  go_loopw [5] (fun i wr => ∃ k : Nat, k ≤ ps.length ∧ i = .int .i64 k ∧ Hid (∀ j (hj : j < ps.length), j < k → 0 ≤ ps[j].n ∧ ps[j].n < (N : Int)) ∧ Hid (Below w.heap.size w wr)) (fun i _ => ps.length - (intOf i).toNat)
  case atStart => exact ⟨0, by omega, rfl, fun j hj h => by omega, Below.refl _ _⟩
  case round =>
    obtain ⟨k, hk, rfl, hIn, hB⟩ := hrel
    by_cases hlt : k < ps.length
    · have hk0 : (0 : Int) ≤ (k : Int) := by omega
      have hk1 : (k : Int) < (ps.length : Int) := by omega
      have hk2 : (k : Int) < 100 := by omega
      obtain ⟨b, o, rfl, hc⟩ := HPs.out wr hB.out k hlt
      obtain ⟨c0, c1⟩ := hc k hlt
      have HPc : Hid (∀ W, Below w.heap.size w W → W.cell? ⟨b, o + k * 2, none⟩ = some (.int .i64 ps[k].n)) := fun W hW => by
        obtain ⟨b', o', e, hc⟩ := HPs.out W hW k hlt
        obtain ⟨rfl, rfl⟩ : b = b' ∧ o = o' := by simpa using e
        exact (hc k hlt).1
      clear hc c1
      by_cases hn : 0 ≤ ps[k].n ∧ ps[k].n < (N : Int)
      · have HIn1 : Hid (∀ j (hj : j < ps.length), j < k + 1 → 0 ≤ ps[j].n ∧ ps[j].n < (N : Int)) := fun j hj h => by
          by_cases e : j = k
          · subst e; exact hn
          · exact hIn.out j hj (by omega)
        clear hIn
        have hd : decide (ps[k].n < 0) = false := decide_eq_false (by omega)
        have hd2 : decide (ps[k].n ≥ (N : Int)) = false := decide_eq_false (by omega)
        generalize ps[k].n = n at *
        go_wp2
        refine wp_region_noPanic ?_
        refine wp_region_held_drew (S := fun W => W.cell? ⟨b, o + k * 2, none⟩ = some (.int .i64 n)) (by kernel_rfl) c0 (fun hHeld => ?_)
        refine wpAnyH_take (i := 0) (v := ?_) rfl (by kernel_rfl) (by kernel_rfl) (by kernel_rfl) (fun _ _ _ h => h) (Or.inl ⟨by rfl, ?_⟩) (by assumption) ?_
        rotate_left
        · (intro W hSw; (try dsimp only at hSw); obtain s1 := hSw; go_simp; try with_reducible rfl)
        try simp only [List.getElem_toArray, List.getElem_cons_zero, Act.put, List.setIfInBounds_toArray, List.set_cons_zero, List.set_cons_succ]
        refine wpAnyH_take (i := 1) (v := ?_) rfl (by kernel_rfl) (by kernel_rfl) (by kernel_rfl) (fun _ _ _ h => h) (Or.inl ⟨by rfl, ?_⟩) (by assumption) ?_
        rotate_left
        · (intro W hSw; (try dsimp only at hSw); obtain s1 := hSw; go_simp; try with_reducible rfl)
        try simp only [List.getElem_toArray, List.getElem_cons_succ, List.getElem_cons_zero, Act.put, List.setIfInBounds_toArray, List.set_cons_zero, List.set_cons_succ]
        refine wpAnyH_take (i := 2) (v := ?_) rfl (by kernel_rfl) (by kernel_rfl) (by kernel_rfl) (fun _ _ _ h => h) (Or.inl ⟨by rfl, ?_⟩) (by assumption) ?_
        rotate_left
        · (intro W hSw; (try dsimp only at hSw); obtain s1 := hSw; go_simp; try with_reducible rfl)
        try simp only [List.getElem_toArray, List.getElem_cons_succ, List.getElem_cons_zero, Act.put, List.setIfInBounds_toArray, List.set_cons_zero, List.set_cons_succ]
        refine wpAnyH_take (i := 3) (v := ?_) rfl (by kernel_rfl) (by kernel_rfl) (by kernel_rfl) (fun _ _ _ h => h) (Or.inl ⟨by rfl, ?_⟩) (by assumption) ?_
        rotate_left
        · (intro W hSw; (try dsimp only at hSw); obtain s1 := hSw; go_simp; try with_reducible rfl)
        try simp only [List.getElem_toArray, List.getElem_cons_succ, List.getElem_cons_zero, Act.put, List.setIfInBounds_toArray, List.set_cons_zero, List.set_cons_succ]
        refine wpAnyH_take (i := 4) (v := ?_) rfl (by kernel_rfl) (by kernel_rfl) (by kernel_rfl) (fun _ _ _ h => h) (Or.inl ⟨by rfl, ?_⟩) (by assumption) ?_
        rotate_left
        · (intro W hSw; (try dsimp only at hSw); obtain s1 := hSw; go_simp; try with_reducible rfl)
        try simp only [List.getElem_toArray, List.getElem_cons_succ, List.getElem_cons_zero, Act.put, List.setIfInBounds_toArray, List.set_cons_zero, List.set_cons_succ]
        refine wpAnyH_take (i := 5) (v := .bool false) rfl (by kernel_rfl) (by kernel_rfl) (by kernel_rfl) (fun _ _ _ h => h) (Or.inl ⟨by rfl, ?_⟩) (by assumption) ?_
        · (intro W hSw; (try dsimp only at hSw); obtain s1 := hSw; go_simp; try first | with_reducible rfl | go_num | (rw [if_pos (by assumption)]; simp only [*]) | simp only [*])
        try simp only [List.getElem_toArray, List.getElem_cons_succ, List.getElem_cons_zero, Act.put, List.setIfInBounds_toArray, List.set_cons_zero, List.set_cons_succ]
        refine wpAnyH_take (i := 6) (v := .bool false) rfl (by kernel_rfl) (by kernel_rfl) (by kernel_rfl) (fun _ _ _ h => h) (Or.inl ⟨by rfl, ?_⟩) (by assumption) ?_
        · (intro W hSw; (try dsimp only at hSw); obtain s1 := hSw; go_simp; try first | with_reducible rfl | go_num | (rw [if_pos (by assumption)]; simp only [*]) | simp only [*])
        try simp only [List.getElem_toArray, List.getElem_cons_succ, List.getElem_cons_zero, Act.put, List.setIfInBounds_toArray, List.set_cons_zero, List.set_cons_succ]
        refine wpAnyH_take (i := 7) (v := ?_) rfl (by kernel_rfl) (by kernel_rfl) (by kernel_rfl) (fun _ _ _ h => h) (Or.inl ⟨by rfl, ?_⟩) (by assumption) ?_
        rotate_left
        · (intro W hSw; (try dsimp only at hSw); obtain s1 := hSw; go_simp; try with_reducible rfl)
        try simp only [List.getElem_toArray, List.getElem_cons_succ, List.getElem_cons_zero, Act.put, List.setIfInBounds_toArray, List.set_cons_zero, List.set_cons_succ]
        refine wpAnyH_take (i := 8) (v := ?_) rfl (by kernel_rfl) (by kernel_rfl) (by kernel_rfl) (fun _ _ _ h => h) (Or.inl ⟨by rfl, ?_⟩) (by assumption) ?_
        rotate_left
        · (intro W hSw; (try dsimp only at hSw); obtain s1 := hSw; go_simp; try with_reducible rfl)
        try simp only [List.getElem_toArray, List.getElem_cons_succ, List.getElem_cons_zero, Act.put, List.setIfInBounds_toArray, List.set_cons_zero, List.set_cons_succ]
        refine wpAnyH_take (i := 9) (v := ?_) rfl (by kernel_rfl) (by kernel_rfl) (by kernel_rfl) (fun _ _ _ h => h) (Or.inl ⟨by rfl, ?_⟩) (by assumption) ?_
        rotate_left
        · (intro W hSw; (try dsimp only at hSw); obtain s1 := hSw; go_simp; try with_reducible rfl)
        try simp only [List.getElem_toArray, List.getElem_cons_succ, List.getElem_cons_zero, Act.put, List.setIfInBounds_toArray, List.set_cons_zero, List.set_cons_succ]
        refine wpAnyH_take (i := 10) (v := ?_) rfl (by kernel_rfl) (by kernel_rfl) (by kernel_rfl) (fun _ _ _ h => h) (Or.inl ⟨by rfl, ?_⟩) (by assumption) ?_
        rotate_left
        · (intro W hSw; (try dsimp only at hSw); obtain s1 := hSw; go_simp; try with_reducible rfl)
        try simp only [List.getElem_toArray, List.getElem_cons_succ, List.getElem_cons_zero, Act.put, List.setIfInBounds_toArray, List.set_cons_zero, List.set_cons_succ]
        refine wpAnyH_take (i := 11) (v := ?_) rfl (by kernel_rfl) (by kernel_rfl) (by kernel_rfl) (fun _ _ _ h => h) (Or.inl ⟨by rfl, ?_⟩) (by assumption) ?_
        rotate_left
        · (intro W hSw; (try dsimp only at hSw); obtain s1 := hSw; go_simp; try with_reducible rfl)
        try simp only [List.getElem_toArray, List.getElem_cons_succ, List.getElem_cons_zero, Act.put, List.setIfInBounds_toArray, List.set_cons_zero, List.set_cons_succ]
        refine wpAnyH_take (i := 12) (v := ?_) rfl (by kernel_rfl) (by kernel_rfl) (by kernel_rfl) (fun _ _ _ h => h) (Or.inl ⟨by rfl, ?_⟩) (by assumption) ?_
        rotate_left
        · (intro W hSw; (try dsimp only at hSw); obtain s1 := hSw; go_simp; try with_reducible rfl)
        try simp only [List.getElem_toArray, List.getElem_cons_succ, List.getElem_cons_zero, Act.put, List.setIfInBounds_toArray, List.set_cons_zero, List.set_cons_succ]
        refine wpAnyH_ready (rs := [13]) (by kernel_rfl) (by simp) (AllReadyH.cons rfl (fun K hK => ?_) AllReadyH.nil)
        rw [if_pos (by rfl)]
        go_simp
        refine (HPg.out _ hB.out.drew).mono ?_
        rintro e w2 ⟨rfl, hb2⟩
        have HB2 := hid (hB.out.drew.trans (hb2.mono hB.out.drew.size))
        clear hb2
        go_wp2_with fail
        refine hK.out _ _ (HPc.out _ HB2.out) (fun hHeld => ?_)
        clear hK K
        try simp only [List.getElem_toArray, List.getElem_cons_succ, List.getElem_cons_zero, Act.put, List.setIfInBounds_toArray, List.set_cons_zero, List.set_cons_succ]
        refine wpAnyH_take (i := 14) (v := .bool false) rfl (by kernel_rfl) (by kernel_rfl) (by kernel_rfl) (fun _ _ _ h => h) (Or.inl ⟨by rfl, ?_⟩) (by assumption) ?_
        · (intro W hSw; (try dsimp only at hSw); obtain s1 := hSw; go_simp; try first | with_reducible rfl | go_num | (rw [if_pos (by assumption)]; simp only [*]) | simp only [*])
        try simp only [List.getElem_toArray, List.getElem_cons_succ, List.getElem_cons_zero, Act.put, List.setIfInBounds_toArray, List.set_cons_zero, List.set_cons_succ]
        refine wpAnyH_take (i := 15) (v := .bool false) rfl (by kernel_rfl) (by kernel_rfl) (by kernel_rfl) (fun _ _ _ h => h) (Or.inl ⟨by rfl, ?_⟩) (by assumption) ?_
        · (intro W hSw; (try dsimp only at hSw); obtain s1 := hSw; go_simp; try first | with_reducible rfl | go_num | (rw [if_pos (by assumption)]; simp only [*]) | simp only [*])
        try simp only [List.getElem_toArray, List.getElem_cons_succ, List.getElem_cons_zero, Act.put, List.setIfInBounds_toArray, List.set_cons_zero, List.set_cons_succ]
        refine wpAnyH_done (by kernel_rfl) ?_ _
        refine NoPanic.normal ?_
        clear hHeld
        go_wp2
        exact ⟨⟨k + 1, by omega, by go_num, HIn1, HB2⟩, by simp [intOf]; omega⟩
      · have hni : inPages N ps = false := by
          cases e : inPages N ps with
          | false => rfl
          | true => exact absurd (inPages_iff.1 e k hlt) hn
        have HNi := hid hni
        clear hni hIn
        by_cases hneg : ps[k].n < 0
        · have hd : decide (ps[k].n < 0) = true := decide_eq_true hneg
          clear hn hneg
          generalize ps[k].n = n at *
          go_wp2
          refine wp_region_noPanic ?_
          refine wp_region_held_drew (S := fun W => W.cell? ⟨b, o + k * 2, none⟩ = some (.int .i64 n)) (by kernel_rfl) c0 (fun hHeld => ?_)
          refine wpAnyH_take (i := 0) (v := ?_) rfl (by kernel_rfl) (by kernel_rfl) (by kernel_rfl) (fun _ _ _ h => h) (Or.inl ⟨by rfl, ?_⟩) (by assumption) ?_
          rotate_left
          · (intro W hSw; (try dsimp only at hSw); obtain s1 := hSw; go_simp; try with_reducible rfl)
          try simp only [List.getElem_toArray, List.getElem_cons_zero, Act.put, List.setIfInBounds_toArray, List.set_cons_zero, List.set_cons_succ]
          refine wpAnyH_take (i := 1) (v := ?_) rfl (by kernel_rfl) (by kernel_rfl) (by kernel_rfl) (fun _ _ _ h => h) (Or.inl ⟨by rfl, ?_⟩) (by assumption) ?_
          rotate_left
          · (intro W hSw; (try dsimp only at hSw); obtain s1 := hSw; go_simp; try with_reducible rfl)
          try simp only [List.getElem_toArray, List.getElem_cons_succ, List.getElem_cons_zero, Act.put, List.setIfInBounds_toArray, List.set_cons_zero, List.set_cons_succ]
          refine wpAnyH_take (i := 2) (v := ?_) rfl (by kernel_rfl) (by kernel_rfl) (by kernel_rfl) (fun _ _ _ h => h) (Or.inl ⟨by rfl, ?_⟩) (by assumption) ?_
          rotate_left
          · (intro W hSw; (try dsimp only at hSw); obtain s1 := hSw; go_simp; try with_reducible rfl)
          try simp only [List.getElem_toArray, List.getElem_cons_succ, List.getElem_cons_zero, Act.put, List.setIfInBounds_toArray, List.set_cons_zero, List.set_cons_succ]
          refine wpAnyH_take (i := 3) (v := ?_) rfl (by kernel_rfl) (by kernel_rfl) (by kernel_rfl) (fun _ _ _ h => h) (Or.inl ⟨by rfl, ?_⟩) (by assumption) ?_
          rotate_left
          · (intro W hSw; (try dsimp only at hSw); obtain s1 := hSw; go_simp; try with_reducible rfl)
          try simp only [List.getElem_toArray, List.getElem_cons_succ, List.getElem_cons_zero, Act.put, List.setIfInBounds_toArray, List.set_cons_zero, List.set_cons_succ]
          refine wpAnyH_take (i := 4) (v := ?_) rfl (by kernel_rfl) (by kernel_rfl) (by kernel_rfl) (fun _ _ _ h => h) (Or.inl ⟨by rfl, ?_⟩) (by assumption) ?_
          rotate_left
          · (intro W hSw; (try dsimp only at hSw); obtain s1 := hSw; go_simp; try with_reducible rfl)
          try simp only [List.getElem_toArray, List.getElem_cons_succ, List.getElem_cons_zero, Act.put, List.setIfInBounds_toArray, List.set_cons_zero, List.set_cons_succ]
          refine wpAnyH_take (i := 5) (v := .bool true) rfl (by kernel_rfl) (by kernel_rfl) (by kernel_rfl) (fun _ _ _ h => h) (Or.inl ⟨by rfl, ?_⟩) (by assumption) ?_
          · (intro W hSw; (try dsimp only at hSw); obtain s1 := hSw; go_simp; try first | with_reducible rfl | go_num | (rw [if_pos (by assumption)]; simp only [*]) | simp only [*])
          try simp only [List.getElem_toArray, List.getElem_cons_succ, List.getElem_cons_zero, Act.put, List.setIfInBounds_toArray, List.set_cons_zero, List.set_cons_succ]
          refine wpAnyH_take (i := 6) (v := .bool true) rfl (by kernel_rfl) (by kernel_rfl) (by kernel_rfl) (fun _ _ _ h => h) (Or.inl ⟨by rfl, ?_⟩) (by assumption) ?_
          · (intro W hSw; (try dsimp only at hSw); obtain s1 := hSw; go_simp; try first | with_reducible rfl | go_num | (rw [if_pos (by assumption)]; simp only [*]) | simp only [*])
          try simp only [List.getElem_toArray, List.getElem_cons_succ, List.getElem_cons_zero, Act.put, List.setIfInBounds_toArray, List.set_cons_zero, List.set_cons_succ]
          refine wpAnyH_take (i := 7) (v := undef) rfl (by kernel_rfl) (by kernel_rfl) (by kernel_rfl) (fun _ _ _ h => h) (Or.inr ⟨by rfl, rfl⟩) (by assumption) ?_
          try simp only [List.getElem_toArray, List.getElem_cons_succ, List.getElem_cons_zero, Act.put, List.setIfInBounds_toArray, List.set_cons_zero, List.set_cons_succ]
          refine wpAnyH_take (i := 8) (v := undef) rfl (by kernel_rfl) (by kernel_rfl) (by kernel_rfl) (fun _ _ _ h => h) (Or.inr ⟨by rfl, rfl⟩) (by assumption) ?_
          try simp only [List.getElem_toArray, List.getElem_cons_succ, List.getElem_cons_zero, Act.put, List.setIfInBounds_toArray, List.set_cons_zero, List.set_cons_succ]
          refine wpAnyH_take (i := 9) (v := undef) rfl (by kernel_rfl) (by kernel_rfl) (by kernel_rfl) (fun _ _ _ h => h) (Or.inr ⟨by rfl, rfl⟩) (by assumption) ?_
          try simp only [List.getElem_toArray, List.getElem_cons_succ, List.getElem_cons_zero, Act.put, List.setIfInBounds_toArray, List.set_cons_zero, List.set_cons_succ]
          refine wpAnyH_take (i := 10) (v := undef) rfl (by kernel_rfl) (by kernel_rfl) (by kernel_rfl) (fun _ _ _ h => h) (Or.inr ⟨by rfl, rfl⟩) (by assumption) ?_
          try simp only [List.getElem_toArray, List.getElem_cons_succ, List.getElem_cons_zero, Act.put, List.setIfInBounds_toArray, List.set_cons_zero, List.set_cons_succ]
          refine wpAnyH_take (i := 11) (v := undef) rfl (by kernel_rfl) (by kernel_rfl) (by kernel_rfl) (fun _ _ _ h => h) (Or.inr ⟨by rfl, rfl⟩) (by assumption) ?_
          try simp only [List.getElem_toArray, List.getElem_cons_succ, List.getElem_cons_zero, Act.put, List.setIfInBounds_toArray, List.set_cons_zero, List.set_cons_succ]
          refine wpAnyH_take (i := 12) (v := undef) rfl (by kernel_rfl) (by kernel_rfl) (by kernel_rfl) (fun _ _ _ h => h) (Or.inr ⟨by rfl, rfl⟩) (by assumption) ?_
          try simp only [List.getElem_toArray, List.getElem_cons_succ, List.getElem_cons_zero, Act.put, List.setIfInBounds_toArray, List.set_cons_zero, List.set_cons_succ]
          refine wpAnyH_take (i := 13) (v := undef) rfl (by kernel_rfl) (by kernel_rfl) (by kernel_rfl) (fun _ _ _ h => h) (Or.inr ⟨by rfl, rfl⟩) (by assumption) ?_
          try simp only [List.getElem_toArray, List.getElem_cons_succ, List.getElem_cons_zero, Act.put, List.setIfInBounds_toArray, List.set_cons_zero, List.set_cons_succ]
          refine wpAnyH_take (i := 14) (v := undef) rfl (by kernel_rfl) (by kernel_rfl) (by kernel_rfl) (fun _ _ _ h => h) (Or.inr ⟨by rfl, rfl⟩) (by assumption) ?_
          try simp only [List.getElem_toArray, List.getElem_cons_succ, List.getElem_cons_zero, Act.put, List.setIfInBounds_toArray, List.set_cons_zero, List.set_cons_succ]
          refine wpAnyH_take (i := 15) (v := .bool true) rfl (by kernel_rfl) (by kernel_rfl) (by kernel_rfl) (fun _ _ _ h => h) (Or.inl ⟨by rfl, ?_⟩) (by assumption) ?_
          · (intro W hSw; (try dsimp only at hSw); obtain s1 := hSw; go_simp; try first | with_reducible rfl | go_num | (rw [if_pos (by assumption)]; simp only [*]) | simp only [*])
          try simp only [List.getElem_toArray, List.getElem_cons_succ, List.getElem_cons_zero, Act.put, List.setIfInBounds_toArray, List.set_cons_zero, List.set_cons_succ]
          refine wpAnyH_done (by kernel_rfl) ?_ _
          refine NoPanic.normal ?_
          clear hHeld
          go_wp2
          go_ret
          have hE : E = 2 := by rw [HE0.out, HNi.out]; rfl
          exact ⟨by rw [hE]; rfl, HEnd.out _ (hB.out.drew) (fun h => absurd (hE.symm.trans h.1) (by decide))⟩
        · have hd : decide (ps[k].n < 0) = false := decide_eq_false hneg
          have hd2 : decide (ps[k].n ≥ (N : Int)) = true := decide_eq_true (by omega)
          clear hn hneg
          generalize ps[k].n = n at *
          go_wp2
          refine wp_region_noPanic ?_
          refine wp_region_held_drew (S := fun W => W.cell? ⟨b, o + k * 2, none⟩ = some (.int .i64 n)) (by kernel_rfl) c0 (fun hHeld => ?_)
          refine wpAnyH_take (i := 0) (v := ?_) rfl (by kernel_rfl) (by kernel_rfl) (by kernel_rfl) (fun _ _ _ h => h) (Or.inl ⟨by rfl, ?_⟩) (by assumption) ?_
          rotate_left
          · (intro W hSw; (try dsimp only at hSw); obtain s1 := hSw; go_simp; try with_reducible rfl)
          try simp only [List.getElem_toArray, List.getElem_cons_zero, Act.put, List.setIfInBounds_toArray, List.set_cons_zero, List.set_cons_succ]
          refine wpAnyH_take (i := 1) (v := ?_) rfl (by kernel_rfl) (by kernel_rfl) (by kernel_rfl) (fun _ _ _ h => h) (Or.inl ⟨by rfl, ?_⟩) (by assumption) ?_
          rotate_left
          · (intro W hSw; (try dsimp only at hSw); obtain s1 := hSw; go_simp; try with_reducible rfl)
          try simp only [List.getElem_toArray, List.getElem_cons_succ, List.getElem_cons_zero, Act.put, List.setIfInBounds_toArray, List.set_cons_zero, List.set_cons_succ]
          refine wpAnyH_take (i := 2) (v := ?_) rfl (by kernel_rfl) (by kernel_rfl) (by kernel_rfl) (fun _ _ _ h => h) (Or.inl ⟨by rfl, ?_⟩) (by assumption) ?_
          rotate_left
          · (intro W hSw; (try dsimp only at hSw); obtain s1 := hSw; go_simp; try with_reducible rfl)
          try simp only [List.getElem_toArray, List.getElem_cons_succ, List.getElem_cons_zero, Act.put, List.setIfInBounds_toArray, List.set_cons_zero, List.set_cons_succ]
          refine wpAnyH_take (i := 3) (v := ?_) rfl (by kernel_rfl) (by kernel_rfl) (by kernel_rfl) (fun _ _ _ h => h) (Or.inl ⟨by rfl, ?_⟩) (by assumption) ?_
          rotate_left
          · (intro W hSw; (try dsimp only at hSw); obtain s1 := hSw; go_simp; try with_reducible rfl)
          try simp only [List.getElem_toArray, List.getElem_cons_succ, List.getElem_cons_zero, Act.put, List.setIfInBounds_toArray, List.set_cons_zero, List.set_cons_succ]
          refine wpAnyH_take (i := 4) (v := ?_) rfl (by kernel_rfl) (by kernel_rfl) (by kernel_rfl) (fun _ _ _ h => h) (Or.inl ⟨by rfl, ?_⟩) (by assumption) ?_
          rotate_left
          · (intro W hSw; (try dsimp only at hSw); obtain s1 := hSw; go_simp; try with_reducible rfl)
          try simp only [List.getElem_toArray, List.getElem_cons_succ, List.getElem_cons_zero, Act.put, List.setIfInBounds_toArray, List.set_cons_zero, List.set_cons_succ]
          refine wpAnyH_take (i := 5) (v := .bool false) rfl (by kernel_rfl) (by kernel_rfl) (by kernel_rfl) (fun _ _ _ h => h) (Or.inl ⟨by rfl, ?_⟩) (by assumption) ?_
          · (intro W hSw; (try dsimp only at hSw); obtain s1 := hSw; go_simp; try first | with_reducible rfl | go_num | (rw [if_pos (by assumption)]; simp only [*]) | simp only [*])
          try simp only [List.getElem_toArray, List.getElem_cons_succ, List.getElem_cons_zero, Act.put, List.setIfInBounds_toArray, List.set_cons_zero, List.set_cons_succ]
          refine wpAnyH_take (i := 6) (v := .bool false) rfl (by kernel_rfl) (by kernel_rfl) (by kernel_rfl) (fun _ _ _ h => h) (Or.inl ⟨by rfl, ?_⟩) (by assumption) ?_
          · (intro W hSw; (try dsimp only at hSw); obtain s1 := hSw; go_simp; try first | with_reducible rfl | go_num | (rw [if_pos (by assumption)]; simp only [*]) | simp only [*])
          try simp only [List.getElem_toArray, List.getElem_cons_succ, List.getElem_cons_zero, Act.put, List.setIfInBounds_toArray, List.set_cons_zero, List.set_cons_succ]
          refine wpAnyH_take (i := 7) (v := ?_) rfl (by kernel_rfl) (by kernel_rfl) (by kernel_rfl) (fun _ _ _ h => h) (Or.inl ⟨by rfl, ?_⟩) (by assumption) ?_
          rotate_left
          · (intro W hSw; (try dsimp only at hSw); obtain s1 := hSw; go_simp; try with_reducible rfl)
          try simp only [List.getElem_toArray, List.getElem_cons_succ, List.getElem_cons_zero, Act.put, List.setIfInBounds_toArray, List.set_cons_zero, List.set_cons_succ]
          refine wpAnyH_take (i := 8) (v := ?_) rfl (by kernel_rfl) (by kernel_rfl) (by kernel_rfl) (fun _ _ _ h => h) (Or.inl ⟨by rfl, ?_⟩) (by assumption) ?_
          rotate_left
          · (intro W hSw; (try dsimp only at hSw); obtain s1 := hSw; go_simp; try with_reducible rfl)
          try simp only [List.getElem_toArray, List.getElem_cons_succ, List.getElem_cons_zero, Act.put, List.setIfInBounds_toArray, List.set_cons_zero, List.set_cons_succ]
          refine wpAnyH_take (i := 9) (v := ?_) rfl (by kernel_rfl) (by kernel_rfl) (by kernel_rfl) (fun _ _ _ h => h) (Or.inl ⟨by rfl, ?_⟩) (by assumption) ?_
          rotate_left
          · (intro W hSw; (try dsimp only at hSw); obtain s1 := hSw; go_simp; try with_reducible rfl)
          try simp only [List.getElem_toArray, List.getElem_cons_succ, List.getElem_cons_zero, Act.put, List.setIfInBounds_toArray, List.set_cons_zero, List.set_cons_succ]
          refine wpAnyH_take (i := 10) (v := ?_) rfl (by kernel_rfl) (by kernel_rfl) (by kernel_rfl) (fun _ _ _ h => h) (Or.inl ⟨by rfl, ?_⟩) (by assumption) ?_
          rotate_left
          · (intro W hSw; (try dsimp only at hSw); obtain s1 := hSw; go_simp; try with_reducible rfl)
          try simp only [List.getElem_toArray, List.getElem_cons_succ, List.getElem_cons_zero, Act.put, List.setIfInBounds_toArray, List.set_cons_zero, List.set_cons_succ]
          refine wpAnyH_take (i := 11) (v := ?_) rfl (by kernel_rfl) (by kernel_rfl) (by kernel_rfl) (fun _ _ _ h => h) (Or.inl ⟨by rfl, ?_⟩) (by assumption) ?_
          rotate_left
          · (intro W hSw; (try dsimp only at hSw); obtain s1 := hSw; go_simp; try with_reducible rfl)
          try simp only [List.getElem_toArray, List.getElem_cons_succ, List.getElem_cons_zero, Act.put, List.setIfInBounds_toArray, List.set_cons_zero, List.set_cons_succ]
          refine wpAnyH_take (i := 12) (v := ?_) rfl (by kernel_rfl) (by kernel_rfl) (by kernel_rfl) (fun _ _ _ h => h) (Or.inl ⟨by rfl, ?_⟩) (by assumption) ?_
          rotate_left
          · (intro W hSw; (try dsimp only at hSw); obtain s1 := hSw; go_simp; try with_reducible rfl)
          try simp only [List.getElem_toArray, List.getElem_cons_succ, List.getElem_cons_zero, Act.put, List.setIfInBounds_toArray, List.set_cons_zero, List.set_cons_succ]
          refine wpAnyH_ready (rs := [13]) (by kernel_rfl) (by simp) (AllReadyH.cons rfl (fun K hK => ?_) AllReadyH.nil)
          rw [if_pos (by rfl)]
          go_simp
          refine (HPg.out _ hB.out.drew).mono ?_
          rintro e w2 ⟨rfl, hb2⟩
          have HB2 := hid (hB.out.drew.trans (hb2.mono hB.out.drew.size))
          clear hb2
          go_wp2_with fail
          refine hK.out _ _ (HPc.out _ HB2.out) (fun hHeld => ?_)
          clear hK K
          try simp only [List.getElem_toArray, List.getElem_cons_succ, List.getElem_cons_zero, Act.put, List.setIfInBounds_toArray, List.set_cons_zero, List.set_cons_succ]
          refine wpAnyH_take (i := 14) (v := .bool true) rfl (by kernel_rfl) (by kernel_rfl) (by kernel_rfl) (fun _ _ _ h => h) (Or.inl ⟨by rfl, ?_⟩) (by assumption) ?_
          · (intro W hSw; (try dsimp only at hSw); obtain s1 := hSw; go_simp; try first | with_reducible rfl | go_num | (rw [if_pos (by assumption)]; simp only [*]) | simp only [*])
          try simp only [List.getElem_toArray, List.getElem_cons_succ, List.getElem_cons_zero, Act.put, List.setIfInBounds_toArray, List.set_cons_zero, List.set_cons_succ]
          refine wpAnyH_take (i := 15) (v := .bool true) rfl (by kernel_rfl) (by kernel_rfl) (by kernel_rfl) (fun _ _ _ h => h) (Or.inl ⟨by rfl, ?_⟩) (by assumption) ?_
          · (intro W hSw; (try dsimp only at hSw); obtain s1 := hSw; go_simp; try first | with_reducible rfl | go_num | (rw [if_pos (by assumption)]; simp only [*]) | simp only [*])
          try simp only [List.getElem_toArray, List.getElem_cons_succ, List.getElem_cons_zero, Act.put, List.setIfInBounds_toArray, List.set_cons_zero, List.set_cons_succ]
          refine wpAnyH_done (by kernel_rfl) ?_ _
          refine NoPanic.normal ?_
          clear hHeld
          go_wp2
          go_ret
          have hE : E = 2 := by rw [HE0.out, HNi.out]; rfl
          exact ⟨by rw [hE]; rfl, HEnd.out _ (HB2.out) (fun h => absurd (hE.symm.trans h.1) (by decide))⟩
    · obtain rfl : k = ps.length := by omega
      have hge : ¬ ((ps.length : Int) < (ps.length : Int)) := by omega
      have hin : inPages N ps = true := inPages_iff.2 (fun j hj => hIn.out j hj hj)
      have HIn := hid hin
      clear hIn hin
      go_wp2
      have HB1 := hid hB.out
      clear hB
      go_loopw [6, 7] (fun v i wr => ∃ k : Nat, k ≤ ps.length ∧ i = .int .i64 k ∧ grpErr ps k = 0 ∧ Hid (wr.ownsRow w.heap.size 114 2 v k (rowCells (srt ps k))) ∧ Hid (Below w.heap.size w wr)) (fun _ i _ => ps.length - (intOf i).toNat)
      case atStart => exact ⟨0, by omega, rfl, rfl, World.ownsRow_nil _ _ _ _, HB1⟩
      case round =>
        obtain ⟨k, hk, rfl, hErr, hO, hB⟩ := hrel
        by_cases hlt : k < ps.length
        · have hk0 : (0 : Int) ≤ (k : Int) := by omega
          have hk1 : (k : Int) < (ps.length : Int) := by omega
          have hk2 : (k : Int) < 100 := by omega
          obtain ⟨b, o, rfl, hc⟩ := HPs.out wr hB.out k hlt
          obtain ⟨c0, c1⟩ := hc k hlt
          have hval : ps[k].val = .slice ps[k].a ps[k].len ps[k].cap := rfl
          rw [hval] at c1
          have HPc : Hid (∀ W, Below w.heap.size w W → W.cell? ⟨b, o + k * 2, none⟩ = some (.int .i64 ps[k].n)) := fun W hW => by
            obtain ⟨b', o', e, hc⟩ := HPs.out W hW k hlt
            obtain ⟨rfl, rfl⟩ : b = b' ∧ o = o' := by simpa using e
            exact (hc k hlt).1
          clear hc hval
          by_cases h5 : ps[k].len = 512
          · rw [h5] at c1
            have hform : ∃ sa sc, u6 = .slice sa k sc ∧ ((sa = none ∧ k = 0 ∧ sc = 0) ∨ ∃ g, sa = some ⟨g, 0, none⟩ ∧ k ≤ sc) := by
              rcases hO.out.2 with ⟨e, e2⟩ | ⟨g, cap, cur, e, -, -, hle, -⟩
              · exact ⟨none, 0, by rw [e, e2], .inl ⟨rfl, e2, rfl⟩⟩
              · exact ⟨_, cap, e, .inr ⟨g, rfl, hle⟩⟩
            obtain ⟨sa, sc, rfl, hform⟩ := hform
            have HForm := hid hform
            clear hform
            have hsl := srt_length ps k (by omega)
            have HSrt : Hid (∀ W, Below wr.heap.size wr W → ∀ i (hi : i < (srt ps k).length), ∃ g, sa = some ⟨g, 0, none⟩ ∧ W.cell? ⟨g, i * 2, none⟩ = some (.int .i64 (srt ps k)[i].n)) := fun W hW i hi => by
              have hrow : W.ownsRow w.heap.size 114 2 (.slice sa k sc) k (rowCells (srt ps k)) := hO.out.kept (grown_of_belowW hW none) (by cases Value.ownBlock (.slice sa k sc) <;> simp)
              obtain ⟨g, cap, e, -⟩ := hrow.form (by omega)
              simp only [Value.slice.injEq, true_and] at e
              obtain ⟨rfl, rfl⟩ := e
              exact ⟨g, rfl, (hrow.cellAt (i * 2) (by omega)).trans (rowCells_at _ i hi).1⟩
            have HAt : Hid (atP (srt ps k) ps[k] = atFrom (srt ps k) ps[k].n k) := by unfold Hid atP; rw [hsl]
            have HPk : Hid (∀ W, Below wr.heap.size wr W → W.cell? ⟨b, o + k * 2, none⟩ = some (.int .i64 ps[k].n)) := fun W hW => HPc.out W (hB.out.trans (hW.mono hB.out.size))
            have HPk2 : Hid (∀ W, Below wr.heap.size wr W → W.cell? ⟨b, o + k * 2 + 1, none⟩ = some (.slice ps[k].a 512 ps[k].cap)) := fun W hW => (hW.cell (p := ⟨b, o + k * 2 + 1, none⟩) (World.block_lt_of_cell? wr _ c1)).trans c1
            obtain ⟨wk, hwk⟩ : ∃ wk, wk = wr := ⟨_, rfl⟩
            have HOk : Hid (wk.ownsRow w.heap.size 114 2 (.slice sa k sc) k (rowCells (srt ps k))) := by rw [hwk]; exact hO
            have HBk : Hid (Below w.heap.size w wk) := by rw [hwk]; exact hB
            rw [← hwk] at HPk HPk2 HSrt
            go_wp2
            go_loopw [8] (fun i wi => ∃ m : Nat, m ≤ k ∧ i = .int .i64 m ∧ Hid (atFrom (srt ps k) ps[k].n k = atFrom (srt ps k) ps[k].n m) ∧ Hid (Below wk.heap.size wk wi)) (fun i _ => (intOf i).toNat)
            case atStart => exact ⟨k, by omega, rfl, rfl, by rw [hwk]; exact Below.refl _ _⟩
            case round =>
              obtain ⟨m, hm', rfl, hA, hBi⟩ := hrel
              have d0 := HPk.out wr hBi.out
              have d02 := HPk2.out wr hBi.out
              have hm2 : (m : Int) ≤ 100 := by omega
              have hm3 : (0 : Int) ≤ (m : Int) := by omega
              by_cases hgo : ∃ a, m = a + 1 ∧ ∃ ha : a < (srt ps k).length, ps[k].n < (srt ps k)[a].n
              · obtain ⟨a, rfl, ha, hlt2⟩ := hgo
                obtain ⟨g, rfl, d1⟩ := HSrt.out wr hBi.out a ha
                have HA2 : Hid (atFrom (srt ps k) ps[k].n k = atFrom (srt ps k) ps[k].n a) := by
                  have := hA.out
                  unfold Hid
                  rw [this, atFrom]
                  simp [ha, hlt2]
                have e0 : decide (((a + 1 : Nat) : Int) > 0) = true := decide_eq_true (by omega)
                have e1 : IntKind.i64.wrap (((a + 1 : Nat) : Int) - 1) = (a : Int) := by rw [show ((a + 1 : Nat) : Int) - 1 = (a : Int) by omega]; exact IntWalk.i64_in _ (by omega)
                have e3 : IntKind.i64.wrap (a : Int) = (a : Int) := IntWalk.i64_in _ (by omega)
                have e2 : decide ((srt ps k)[a].n > ps[k].n) = true := decide_eq_true hlt2
                have ha0 : (0 : Int) ≤ (a : Int) := by omega
                have ha1 : (a : Int) < (k : Int) := by omega
                have ha2 : (a : Int) < 100 := by omega
                clear hA hlt2
                generalize (srt ps k)[a].n = y at *
                generalize ps[k].n = x at *
                go_wp2
                refine wp_region_noPanic ?_
                refine wp_region_held_drew (S := fun W => W.cell? ⟨b, o + k * 2, none⟩ = some (.int .i64 x) ∧ W.cell? ⟨g, a * 2, none⟩ = some (.int .i64 y)) (by kernel_rfl) ⟨d0, d1⟩ (fun hHeld => ?_)
                refine wpAnyH_take (i := 0) (v := ?_) rfl (by kernel_rfl) (by kernel_rfl) (by kernel_rfl) (fun _ _ _ h => h) (Or.inl ⟨by rfl, ?_⟩) (by assumption) ?_
                rotate_left
                · (intro W hSw; (try dsimp only at hSw); obtain ⟨s1, s2⟩ := hSw; go_simp; try with_reducible rfl)
                try simp only [List.getElem_toArray, List.getElem_cons_zero, Act.put, List.setIfInBounds_toArray, List.set_cons_zero, List.set_cons_succ]
                refine wpAnyH_take (i := 1) (v := .bool true) rfl (by kernel_rfl) (by kernel_rfl) (by kernel_rfl) (fun _ _ _ h => h) (Or.inl ⟨by rfl, ?_⟩) (by assumption) ?_
                · (intro W hSw; (try dsimp only at hSw); obtain ⟨s1, s2⟩ := hSw; go_simp; try first | with_reducible rfl | go_num | (rw [if_pos (by assumption)]; simp only [*]) | simp only [*])
                try simp only [List.getElem_toArray, List.getElem_cons_succ, List.getElem_cons_zero, Act.put, List.setIfInBounds_toArray, List.set_cons_zero, List.set_cons_succ]
                refine wpAnyH_take (i := 2) (v := .bool true) rfl (by kernel_rfl) (by kernel_rfl) (by kernel_rfl) (fun _ _ _ h => h) (Or.inl ⟨by rfl, ?_⟩) (by assumption) ?_
                · (intro W hSw; (try dsimp only at hSw); obtain ⟨s1, s2⟩ := hSw; go_simp; try first | with_reducible rfl | go_num | (rw [if_pos (by assumption)]; simp only [*]) | simp only [*])
                try simp only [List.getElem_toArray, List.getElem_cons_succ, List.getElem_cons_zero, Act.put, List.setIfInBounds_toArray, List.set_cons_zero, List.set_cons_succ]
                refine wpAnyH_take (i := 3) (v := ?_) rfl (by kernel_rfl) (by kernel_rfl) (by kernel_rfl) (fun _ _ _ h => h) (Or.inl ⟨by rfl, ?_⟩) (by assumption) ?_
                rotate_left
                · (intro W hSw; (try dsimp only at hSw); obtain ⟨s1, s2⟩ := hSw; go_simp; try with_reducible rfl)
                try simp only [List.getElem_toArray, List.getElem_cons_succ, List.getElem_cons_zero, Act.put, List.setIfInBounds_toArray, List.set_cons_zero, List.set_cons_succ]
                refine wpAnyH_take (i := 4) (v := ?_) rfl (by kernel_rfl) (by kernel_rfl) (by kernel_rfl) (fun _ _ _ h => h) (Or.inl ⟨by rfl, ?_⟩) (by assumption) ?_
                rotate_left
                · (intro W hSw; (try dsimp only at hSw); obtain ⟨s1, s2⟩ := hSw; go_simp; try with_reducible rfl)
                try simp only [List.getElem_toArray, List.getElem_cons_succ, List.getElem_cons_zero, Act.put, List.setIfInBounds_toArray, List.set_cons_zero, List.set_cons_succ]
                refine wpAnyH_take (i := 5) (v := .int .i64 (a : Int)) rfl (by kernel_rfl) (by kernel_rfl) (by kernel_rfl) (fun _ _ _ h => h) (Or.inl ⟨by rfl, ?_⟩) (by assumption) ?_
                · (intro W hSw; (try dsimp only at hSw); obtain ⟨s1, s2⟩ := hSw; go_simp; try first | with_reducible rfl | go_num | (rw [if_pos (by assumption)]; simp only [*]) | simp only [*])
                try simp only [List.getElem_toArray, List.getElem_cons_succ, List.getElem_cons_zero, Act.put, List.setIfInBounds_toArray, List.set_cons_zero, List.set_cons_succ]
                refine wpAnyH_take (i := 6) (v := ?_) rfl (by kernel_rfl) (by kernel_rfl) (by kernel_rfl) (fun _ _ _ h => h) (Or.inl ⟨by rfl, ?_⟩) (by assumption) ?_
                rotate_left
                · (intro W hSw; (try dsimp only at hSw); obtain ⟨s1, s2⟩ := hSw; go_simp; try with_reducible rfl)
                try simp only [List.getElem_toArray, List.getElem_cons_succ, List.getElem_cons_zero, Act.put, List.setIfInBounds_toArray, List.set_cons_zero, List.set_cons_succ]
                refine wpAnyH_take (i := 7) (v := ?_) rfl (by kernel_rfl) (by kernel_rfl) (by kernel_rfl) (fun _ _ _ h => h) (Or.inl ⟨by rfl, ?_⟩) (by assumption) ?_
                rotate_left
                · (intro W hSw; (try dsimp only at hSw); obtain ⟨s1, s2⟩ := hSw; go_simp; try with_reducible rfl)
                try simp only [List.getElem_toArray, List.getElem_cons_succ, List.getElem_cons_zero, Act.put, List.setIfInBounds_toArray, List.set_cons_zero, List.set_cons_succ]
                refine wpAnyH_take (i := 8) (v := ?_) rfl (by kernel_rfl) (by kernel_rfl) (by kernel_rfl) (fun _ _ _ h => h) (Or.inl ⟨by rfl, ?_⟩) (by assumption) ?_
                rotate_left
                · (intro W hSw; (try dsimp only at hSw); obtain ⟨s1, s2⟩ := hSw; go_simp; try with_reducible rfl)
                try simp only [List.getElem_toArray, List.getElem_cons_succ, List.getElem_cons_zero, Act.put, List.setIfInBounds_toArray, List.set_cons_zero, List.set_cons_succ]
                refine wpAnyH_take (i := 9) (v := ?_) rfl (by kernel_rfl) (by kernel_rfl) (by kernel_rfl) (fun _ _ _ h => h) (Or.inl ⟨by rfl, ?_⟩) (by assumption) ?_
                rotate_left
                · (intro W hSw; (try dsimp only at hSw); obtain ⟨s1, s2⟩ := hSw; go_simp; try with_reducible rfl)
                try simp only [List.getElem_toArray, List.getElem_cons_succ, List.getElem_cons_zero, Act.put, List.setIfInBounds_toArray, List.set_cons_zero, List.set_cons_succ]
                refine wpAnyH_take (i := 10) (v := ?_) rfl (by kernel_rfl) (by kernel_rfl) (by kernel_rfl) (fun _ _ _ h => h) (Or.inl ⟨by rfl, ?_⟩) (by assumption) ?_
                rotate_left
                · (intro W hSw; (try dsimp only at hSw); obtain ⟨s1, s2⟩ := hSw; go_simp; try with_reducible rfl)
                try simp only [List.getElem_toArray, List.getElem_cons_succ, List.getElem_cons_zero, Act.put, List.setIfInBounds_toArray, List.set_cons_zero, List.set_cons_succ]
                refine wpAnyH_take (i := 11) (v := ?_) rfl (by kernel_rfl) (by kernel_rfl) (by kernel_rfl) (fun _ _ _ h => h) (Or.inl ⟨by rfl, ?_⟩) (by assumption) ?_
                rotate_left
                · (intro W hSw; (try dsimp only at hSw); obtain ⟨s1, s2⟩ := hSw; go_simp; try with_reducible rfl)
                try simp only [List.getElem_toArray, List.getElem_cons_succ, List.getElem_cons_zero, Act.put, List.setIfInBounds_toArray, List.set_cons_zero, List.set_cons_succ]
                refine wpAnyH_take (i := 12) (v := ?_) rfl (by kernel_rfl) (by kernel_rfl) (by kernel_rfl) (fun _ _ _ h => h) (Or.inl ⟨by rfl, ?_⟩) (by assumption) ?_
                rotate_left
                · (intro W hSw; (try dsimp only at hSw); obtain ⟨s1, s2⟩ := hSw; go_simp; try with_reducible rfl)
                try simp only [List.getElem_toArray, List.getElem_cons_succ, List.getElem_cons_zero, Act.put, List.setIfInBounds_toArray, List.set_cons_zero, List.set_cons_succ]
                refine wpAnyH_take (i := 13) (v := ?_) rfl (by kernel_rfl) (by kernel_rfl) (by kernel_rfl) (fun _ _ _ h => h) (Or.inl ⟨by rfl, ?_⟩) (by assumption) ?_
                rotate_left
                · (intro W hSw; (try dsimp only at hSw); obtain ⟨s1, s2⟩ := hSw; go_simp; try with_reducible rfl)
                try simp only [List.getElem_toArray, List.getElem_cons_succ, List.getElem_cons_zero, Act.put, List.setIfInBounds_toArray, List.set_cons_zero, List.set_cons_succ]
                refine wpAnyH_take (i := 14) (v := .bool true) rfl (by kernel_rfl) (by kernel_rfl) (by kernel_rfl) (fun _ _ _ h => h) (Or.inl ⟨by rfl, ?_⟩) (by assumption) ?_
                · (intro W hSw; (try dsimp only at hSw); obtain ⟨s1, s2⟩ := hSw; go_simp; try first | with_reducible rfl | go_num | (rw [if_pos (by assumption)]; simp only [*]) | simp only [*])
                try simp only [List.getElem_toArray, List.getElem_cons_succ, List.getElem_cons_zero, Act.put, List.setIfInBounds_toArray, List.set_cons_zero, List.set_cons_succ]
                refine wpAnyH_take (i := 15) (v := .bool true) rfl (by kernel_rfl) (by kernel_rfl) (by kernel_rfl) (fun _ _ _ h => h) (Or.inl ⟨by rfl, ?_⟩) (by assumption) ?_
                · (intro W hSw; (try dsimp only at hSw); obtain ⟨s1, s2⟩ := hSw; go_simp; try first | with_reducible rfl | go_num | (rw [if_pos (by assumption)]; simp only [*]) | simp only [*])
                try simp only [List.getElem_toArray, List.getElem_cons_succ, List.getElem_cons_zero, Act.put, List.setIfInBounds_toArray, List.set_cons_zero, List.set_cons_succ]
                refine wpAnyH_done (by kernel_rfl) ?_ _
                refine NoPanic.normal ?_
                clear hHeld
                go_wp2
                exact ⟨⟨a, by omega, by go_num, HA2, hBi.out.drew⟩, by simp [intOf]⟩
              · have HM : Hid (atP (srt ps k) ps[k] = m) := by
                  unfold Hid
                  rw [HAt.out, hA.out]
                  cases m with
                  | zero => rfl
                  | succ a =>
                    rw [atFrom, if_neg]
                    intro hx
                    exact hgo ⟨a, rfl, by omega, by simpa [show a < (srt ps k).length by omega] using hx⟩
                by_cases hm0 : m = 0
                · have e0 : decide ((m : Int) > 0) = false := decide_eq_false (by omega)
                  clear hA hgo
                  go_wp2
                  refine wp_region_noPanic ?_
                  refine wp_region_held_drew (S := fun W => W.cell? ⟨b, o + k * 2, none⟩ = some (.int .i64 ps[k].n)) (by kernel_rfl) d0 (fun hHeld => ?_)
                  refine wpAnyH_take (i := 0) (v := ?_) rfl (by kernel_rfl) (by kernel_rfl) (by kernel_rfl) (fun _ _ _ h => h) (Or.inl ⟨by rfl, ?_⟩) (by assumption) ?_
                  rotate_left
                  · (intro W hSw; (try dsimp only at hSw); obtain s1 := hSw; go_simp; try with_reducible rfl)
                  try simp only [List.getElem_toArray, List.getElem_cons_zero, Act.put, List.setIfInBounds_toArray, List.set_cons_zero, List.set_cons_succ]
                  refine wpAnyH_take (i := 1) (v := .bool false) rfl (by kernel_rfl) (by kernel_rfl) (by kernel_rfl) (fun _ _ _ h => h) (Or.inl ⟨by rfl, ?_⟩) (by assumption) ?_
                  · (intro W hSw; (try dsimp only at hSw); obtain s1 := hSw; go_simp; try first | with_reducible rfl | go_num | (rw [if_pos (by assumption)]; simp only [*]) | simp only [*])
                  try simp only [List.getElem_toArray, List.getElem_cons_succ, List.getElem_cons_zero, Act.put, List.setIfInBounds_toArray, List.set_cons_zero, List.set_cons_succ]
                  refine wpAnyH_take (i := 2) (v := .bool false) rfl (by kernel_rfl) (by kernel_rfl) (by kernel_rfl) (fun _ _ _ h => h) (Or.inl ⟨by rfl, ?_⟩) (by assumption) ?_
                  · (intro W hSw; (try dsimp only at hSw); obtain s1 := hSw; go_simp; try first | with_reducible rfl | go_num | (rw [if_pos (by assumption)]; simp only [*]) | simp only [*])
                  try simp only [List.getElem_toArray, List.getElem_cons_succ, List.getElem_cons_zero, Act.put, List.setIfInBounds_toArray, List.set_cons_zero, List.set_cons_succ]
                  refine wpAnyH_take (i := 3) (v := undef) rfl (by kernel_rfl) (by kernel_rfl) (by kernel_rfl) (fun _ _ _ h => h) (Or.inr ⟨by rfl, rfl⟩) (by assumption) ?_
                  try simp only [List.getElem_toArray, List.getElem_cons_succ, List.getElem_cons_zero, Act.put, List.setIfInBounds_toArray, List.set_cons_zero, List.set_cons_succ]
                  refine wpAnyH_take (i := 4) (v := undef) rfl (by kernel_rfl) (by kernel_rfl) (by kernel_rfl) (fun _ _ _ h => h) (Or.inr ⟨by rfl, rfl⟩) (by assumption) ?_
                  try simp only [List.getElem_toArray, List.getElem_cons_succ, List.getElem_cons_zero, Act.put, List.setIfInBounds_toArray, List.set_cons_zero, List.set_cons_succ]
                  refine wpAnyH_take (i := 5) (v := undef) rfl (by kernel_rfl) (by kernel_rfl) (by kernel_rfl) (fun _ _ _ h => h) (Or.inr ⟨by rfl, rfl⟩) (by assumption) ?_
                  try simp only [List.getElem_toArray, List.getElem_cons_succ, List.getElem_cons_zero, Act.put, List.setIfInBounds_toArray, List.set_cons_zero, List.set_cons_succ]
                  refine wpAnyH_take (i := 6) (v := undef) rfl (by kernel_rfl) (by kernel_rfl) (by kernel_rfl) (fun _ _ _ h => h) (Or.inr ⟨by rfl, rfl⟩) (by assumption) ?_
                  try simp only [List.getElem_toArray, List.getElem_cons_succ, List.getElem_cons_zero, Act.put, List.setIfInBounds_toArray, List.set_cons_zero, List.set_cons_succ]
                  refine wpAnyH_take (i := 7) (v := undef) rfl (by kernel_rfl) (by kernel_rfl) (by kernel_rfl) (fun _ _ _ h => h) (Or.inr ⟨by rfl, rfl⟩) (by assumption) ?_
                  try simp only [List.getElem_toArray, List.getElem_cons_succ, List.getElem_cons_zero, Act.put, List.setIfInBounds_toArray, List.set_cons_zero, List.set_cons_succ]
                  refine wpAnyH_take (i := 8) (v := undef) rfl (by kernel_rfl) (by kernel_rfl) (by kernel_rfl) (fun _ _ _ h => h) (Or.inr ⟨by rfl, rfl⟩) (by assumption) ?_
                  try simp only [List.getElem_toArray, List.getElem_cons_succ, List.getElem_cons_zero, Act.put, List.setIfInBounds_toArray, List.set_cons_zero, List.set_cons_succ]
                  refine wpAnyH_take (i := 9) (v := undef) rfl (by kernel_rfl) (by kernel_rfl) (by kernel_rfl) (fun _ _ _ h => h) (Or.inr ⟨by rfl, rfl⟩) (by assumption) ?_
                  try simp only [List.getElem_toArray, List.getElem_cons_succ, List.getElem_cons_zero, Act.put, List.setIfInBounds_toArray, List.set_cons_zero, List.set_cons_succ]
                  refine wpAnyH_take (i := 10) (v := undef) rfl (by kernel_rfl) (by kernel_rfl) (by kernel_rfl) (fun _ _ _ h => h) (Or.inr ⟨by rfl, rfl⟩) (by assumption) ?_
                  try simp only [List.getElem_toArray, List.getElem_cons_succ, List.getElem_cons_zero, Act.put, List.setIfInBounds_toArray, List.set_cons_zero, List.set_cons_succ]
                  refine wpAnyH_take (i := 11) (v := undef) rfl (by kernel_rfl) (by kernel_rfl) (by kernel_rfl) (fun _ _ _ h => h) (Or.inr ⟨by rfl, rfl⟩) (by assumption) ?_
                  try simp only [List.getElem_toArray, List.getElem_cons_succ, List.getElem_cons_zero, Act.put, List.setIfInBounds_toArray, List.set_cons_zero, List.set_cons_succ]
                  refine wpAnyH_take (i := 12) (v := undef) rfl (by kernel_rfl) (by kernel_rfl) (by kernel_rfl) (fun _ _ _ h => h) (Or.inr ⟨by rfl, rfl⟩) (by assumption) ?_
                  try simp only [List.getElem_toArray, List.getElem_cons_succ, List.getElem_cons_zero, Act.put, List.setIfInBounds_toArray, List.set_cons_zero, List.set_cons_succ]
                  refine wpAnyH_take (i := 13) (v := undef) rfl (by kernel_rfl) (by kernel_rfl) (by kernel_rfl) (fun _ _ _ h => h) (Or.inr ⟨by rfl, rfl⟩) (by assumption) ?_
                  try simp only [List.getElem_toArray, List.getElem_cons_succ, List.getElem_cons_zero, Act.put, List.setIfInBounds_toArray, List.set_cons_zero, List.set_cons_succ]
                  refine wpAnyH_take (i := 14) (v := undef) rfl (by kernel_rfl) (by kernel_rfl) (by kernel_rfl) (fun _ _ _ h => h) (Or.inr ⟨by rfl, rfl⟩) (by assumption) ?_
                  try simp only [List.getElem_toArray, List.getElem_cons_succ, List.getElem_cons_zero, Act.put, List.setIfInBounds_toArray, List.set_cons_zero, List.set_cons_succ]
                  refine wpAnyH_take (i := 15) (v := .bool false) rfl (by kernel_rfl) (by kernel_rfl) (by kernel_rfl) (fun _ _ _ h => h) (Or.inl ⟨by rfl, ?_⟩) (by assumption) ?_
                  · (intro W hSw; (try dsimp only at hSw); obtain s1 := hSw; go_simp; try first | with_reducible rfl | go_num | (rw [if_pos (by assumption)]; simp only [*]) | simp only [*])
                  try simp only [List.getElem_toArray, List.getElem_cons_succ, List.getElem_cons_zero, Act.put, List.setIfInBounds_toArray, List.set_cons_zero, List.set_cons_succ]
                  refine wpAnyH_done (by kernel_rfl) ?_ _
                  refine NoPanic.normal ?_
                  clear hHeld
                  go_wp2
                  refine wp_region_noPanic ?_
                  refine wp_region_held_drew (S := fun W => W.cell? ⟨b, o + k * 2, none⟩ = some (.int .i64 ps[k].n)) (by kernel_rfl) d0 (fun hHeld => ?_)
                  refine wpAnyH_take (i := 0) (v := ?_) rfl (by kernel_rfl) (by kernel_rfl) (by kernel_rfl) (fun _ _ _ h => h) (Or.inl ⟨by rfl, ?_⟩) (by assumption) ?_
                  rotate_left
                  · (intro W hSw; (try dsimp only at hSw); obtain s1 := hSw; go_simp; try with_reducible rfl)
                  try simp only [List.getElem_toArray, List.getElem_cons_zero, Act.put, List.setIfInBounds_toArray, List.set_cons_zero, List.set_cons_succ]
                  refine wpAnyH_take (i := 1) (v := .bool false) rfl (by kernel_rfl) (by kernel_rfl) (by kernel_rfl) (fun _ _ _ h => h) (Or.inl ⟨by rfl, ?_⟩) (by assumption) ?_
                  · (intro W hSw; (try dsimp only at hSw); obtain s1 := hSw; go_simp; try first | with_reducible rfl | go_num | (rw [if_pos (by assumption)]; simp only [*]) | simp only [*])
                  try simp only [List.getElem_toArray, List.getElem_cons_succ, List.getElem_cons_zero, Act.put, List.setIfInBounds_toArray, List.set_cons_zero, List.set_cons_succ]
                  refine wpAnyH_take (i := 2) (v := .bool false) rfl (by kernel_rfl) (by kernel_rfl) (by kernel_rfl) (fun _ _ _ h => h) (Or.inl ⟨by rfl, ?_⟩) (by assumption) ?_
                  · (intro W hSw; (try dsimp only at hSw); obtain s1 := hSw; go_simp; try first | with_reducible rfl | go_num | (rw [if_pos (by assumption)]; simp only [*]) | simp only [*])
                  try simp only [List.getElem_toArray, List.getElem_cons_succ, List.getElem_cons_zero, Act.put, List.setIfInBounds_toArray, List.set_cons_zero, List.set_cons_succ]
                  refine wpAnyH_take (i := 3) (v := undef) rfl (by kernel_rfl) (by kernel_rfl) (by kernel_rfl) (fun _ _ _ h => h) (Or.inr ⟨by rfl, rfl⟩) (by assumption) ?_
                  try simp only [List.getElem_toArray, List.getElem_cons_succ, List.getElem_cons_zero, Act.put, List.setIfInBounds_toArray, List.set_cons_zero, List.set_cons_succ]
                  refine wpAnyH_take (i := 4) (v := undef) rfl (by kernel_rfl) (by kernel_rfl) (by kernel_rfl) (fun _ _ _ h => h) (Or.inr ⟨by rfl, rfl⟩) (by assumption) ?_
                  try simp only [List.getElem_toArray, List.getElem_cons_succ, List.getElem_cons_zero, Act.put, List.setIfInBounds_toArray, List.set_cons_zero, List.set_cons_succ]
                  refine wpAnyH_take (i := 5) (v := undef) rfl (by kernel_rfl) (by kernel_rfl) (by kernel_rfl) (fun _ _ _ h => h) (Or.inr ⟨by rfl, rfl⟩) (by assumption) ?_
                  try simp only [List.getElem_toArray, List.getElem_cons_succ, List.getElem_cons_zero, Act.put, List.setIfInBounds_toArray, List.set_cons_zero, List.set_cons_succ]
                  refine wpAnyH_take (i := 6) (v := undef) rfl (by kernel_rfl) (by kernel_rfl) (by kernel_rfl) (fun _ _ _ h => h) (Or.inr ⟨by rfl, rfl⟩) (by assumption) ?_
                  try simp only [List.getElem_toArray, List.getElem_cons_succ, List.getElem_cons_zero, Act.put, List.setIfInBounds_toArray, List.set_cons_zero, List.set_cons_succ]
                  refine wpAnyH_take (i := 7) (v := undef) rfl (by kernel_rfl) (by kernel_rfl) (by kernel_rfl) (fun _ _ _ h => h) (Or.inr ⟨by rfl, rfl⟩) (by assumption) ?_
                  try simp only [List.getElem_toArray, List.getElem_cons_succ, List.getElem_cons_zero, Act.put, List.setIfInBounds_toArray, List.set_cons_zero, List.set_cons_succ]
                  refine wpAnyH_take (i := 8) (v := undef) rfl (by kernel_rfl) (by kernel_rfl) (by kernel_rfl) (fun _ _ _ h => h) (Or.inr ⟨by rfl, rfl⟩) (by assumption) ?_
                  try simp only [List.getElem_toArray, List.getElem_cons_succ, List.getElem_cons_zero, Act.put, List.setIfInBounds_toArray, List.set_cons_zero, List.set_cons_succ]
                  refine wpAnyH_take (i := 9) (v := undef) rfl (by kernel_rfl) (by kernel_rfl) (by kernel_rfl) (fun _ _ _ h => h) (Or.inr ⟨by rfl, rfl⟩) (by assumption) ?_
                  try simp only [List.getElem_toArray, List.getElem_cons_succ, List.getElem_cons_zero, Act.put, List.setIfInBounds_toArray, List.set_cons_zero, List.set_cons_succ]
                  refine wpAnyH_take (i := 10) (v := undef) rfl (by kernel_rfl) (by kernel_rfl) (by kernel_rfl) (fun _ _ _ h => h) (Or.inr ⟨by rfl, rfl⟩) (by assumption) ?_
                  try simp only [List.getElem_toArray, List.getElem_cons_succ, List.getElem_cons_zero, Act.put, List.setIfInBounds_toArray, List.set_cons_zero, List.set_cons_succ]
                  refine wpAnyH_take (i := 11) (v := undef) rfl (by kernel_rfl) (by kernel_rfl) (by kernel_rfl) (fun _ _ _ h => h) (Or.inr ⟨by rfl, rfl⟩) (by assumption) ?_
                  try simp only [List.getElem_toArray, List.getElem_cons_succ, List.getElem_cons_zero, Act.put, List.setIfInBounds_toArray, List.set_cons_zero, List.set_cons_succ]
                  refine wpAnyH_take (i := 12) (v := undef) rfl (by kernel_rfl) (by kernel_rfl) (by kernel_rfl) (fun _ _ _ h => h) (Or.inr ⟨by rfl, rfl⟩) (by assumption) ?_
                  try simp only [List.getElem_toArray, List.getElem_cons_succ, List.getElem_cons_zero, Act.put, List.setIfInBounds_toArray, List.set_cons_zero, List.set_cons_succ]
                  refine wpAnyH_take (i := 13) (v := undef) rfl (by kernel_rfl) (by kernel_rfl) (by kernel_rfl) (fun _ _ _ h => h) (Or.inr ⟨by rfl, rfl⟩) (by assumption) ?_
                  try simp only [List.getElem_toArray, List.getElem_cons_succ, List.getElem_cons_zero, Act.put, List.setIfInBounds_toArray, List.set_cons_zero, List.set_cons_succ]
                  refine wpAnyH_take (i := 14) (v := undef) rfl (by kernel_rfl) (by kernel_rfl) (by kernel_rfl) (fun _ _ _ h => h) (Or.inr ⟨by rfl, rfl⟩) (by assumption) ?_
                  try simp only [List.getElem_toArray, List.getElem_cons_succ, List.getElem_cons_zero, Act.put, List.setIfInBounds_toArray, List.set_cons_zero, List.set_cons_succ]
                  refine wpAnyH_take (i := 15) (v := .bool false) rfl (by kernel_rfl) (by kernel_rfl) (by kernel_rfl) (fun _ _ _ h => h) (Or.inl ⟨by rfl, ?_⟩) (by assumption) ?_
                  · (intro W hSw; (try dsimp only at hSw); obtain s1 := hSw; go_simp; try first | with_reducible rfl | go_num | (rw [if_pos (by assumption)]; simp only [*]) | simp only [*])
                  try simp only [List.getElem_toArray, List.getElem_cons_succ, List.getElem_cons_zero, Act.put, List.setIfInBounds_toArray, List.set_cons_zero, List.set_cons_succ]
                  refine wpAnyH_done (by kernel_rfl) ?_ _
                  refine NoPanic.normal ?_
                  clear hHeld
                  clear e0
                  subst hm0
                  rcases HForm.out with ⟨rfl, hk00, rfl⟩ | ⟨g, rfl, hsc⟩
                  · subst hk00
                    have HBd := hid hBi.out.drew.drew
                    have hsz : w.heap.size ≤ wr.drew.drew.heap.size := Nat.le_trans HBk.out.size HBd.out.size
                    rw [Nat.zero_mul, Nat.add_zero] at d0
                    rw [Nat.zero_mul, Nat.add_zero] at d02
                    have e0 : wr.drew.drew.cell? ⟨b, o, none⟩ = some (.int .i64 ps[0].n) := d0
                    have e02 : wr.drew.drew.cell? ⟨b, o + 1, none⟩ = some (.slice ps[0].a 512 ps[0].cap) := d02
                    have HBz := hid (HBk.out.trans (HBd.out.mono HBk.out.size))
                    have hbl : b < wr.drew.drew.heap.size := World.block_lt_of_cell? _ _ e0
                    clear d0 d02
                    generalize wr.drew.drew = wv at *
                    go_wp2_with (first
                      | (refine wpList_append_pages rfl (.tmp 93) (.tmp 96) rfl w.heap.size (.slice none 0 0) 0 [] rfl (World.ownsRow_nil _ _ _ _) none 0 0 [] rfl rfl (fun h => by omega) (fun u hu => by simp at hu) (by omega) hsz ?_; intro v1 x1 hown1 hgr1 hat1; have HO1 := hid hown1; have HG1 := hid hgr1; have e1 : x1.cell? ⟨b, o, none⟩ = some (.int .i64 ps[0].n) := (World.cell?_of_block (w := wv) (hgr1.block b hbl (by simp [Value.ownBlock]))).trans e0; have e12 : x1.cell? ⟨b, o + 1, none⟩ = some (.slice ps[0].a 512 ps[0].cap) := (World.cell?_of_block (w := wv) (hgr1.block b hbl (by simp [Value.ownBlock]))).trans e02; have hsz1 : w.heap.size ≤ x1.heap.size := Nat.le_trans hsz hgr1.size; clear hown1 hgr1 hat1)
                      | (refine wpList_append_pages rfl (.tmp 98) (.tmp 103) rfl w.heap.size v1 (0 + 0) ([] ++ []) rfl (HO1.out.alloc _) (some ⟨x1.heap.size, 0, none⟩) 1 1 [.int .i64 ps[0].n, .slice ps[0].a 512 ps[0].cap] rfl rfl (fun _ => ⟨_, rfl, World.news_of_block (cs := #[.int .i64 ps[0].n, .slice ps[0].a 512 ps[0].cap]) (block_new x1 _)⟩) (fun u hu => by rcases List.mem_cons.1 hu with rfl | hu; rfl; rw [List.mem_singleton.1 hu]; rfl) (by omega) (by simp; omega) ?_; intro v2 x2 hown2 hgr2 hat2; have HO2 := hid hown2; have HG2 := hid hgr2; have hsz2 : w.heap.size ≤ x2.heap.size := (by have := hgr2.size; simp at this; omega); clear hown2 hgr2 hat2)
                      | (refine wpList_append_pages rfl (.tmp 105) (.tmp 108) rfl w.heap.size v2 _ _ rfl HO2.out none 0 0 [] rfl rfl (fun h => by omega) (fun u hu => by simp at hu) (by omega) hsz2 ?_; intro v3 x3 hown3 hgr3 hat3; have HO3 := hid hown3; have HG3 := hid hgr3; clear hown3 hgr3 hat3))
                    have hb1 := HBz.out.grown HG1.out hsz (fun j hj => by simp [Value.ownBlock] at hj)
                    have hb2 := (hb1.alloc hsz1 _).grown HG2.out (by simp; omega) (fun j hj => by have := HO1.out.lt j hj; omega)
                    have hb3 := hb2.grown HG3.out hsz2 (fun j hj => by have := HO2.out.lt j hj; omega)
                    have hnd : ¬ (grpVal ps 0 ps[0].n).isSome := by simp [grpVal]
                    have hsi := srt_ins hlt (m := 0) HM.out
                    refine ⟨⟨0 + 1, by omega, by go_num, grpErr_next hlt hErr h5 hnd, ?_, hb3⟩, by simp [intOf]; omega⟩
                    have h3 := HO3.out
                    unfold Hid
                    rw [hsi, rowCells_append, rowCells_cons, show ps[0].val = .slice ps[0].a 512 ps[0].cap by rw [← h5]; rfl]
                    simpa [srt, rowCells] using h3
                  · have hmk : ((0 : Nat) : Int) ≤ (sc : Int) := by omega
                    have hmk2 : ((0 : Nat) : Int) ≤ (k : Int) := by omega
                    have hmk3 : (k : Int) ≤ (sc : Int) := by omega
                    have HBd := hid hBi.out.drew.drew
                    have HOd : Hid (wr.drew.drew.ownsRow w.heap.size 114 2 (.slice (some ⟨g, 0, none⟩) k sc) k (rowCells (srt ps k))) := HOk.out.kept (grown_of_belowW HBd.out none) (by simp [Value.ownBlock])
                    have hgl := HOd.out.lt g rfl
                    have hsz : w.heap.size ≤ wr.drew.drew.heap.size := Nat.le_trans HBk.out.size HBd.out.size
                    have e0 : wr.drew.drew.cell? ⟨b, o + k * 2, none⟩ = some (.int .i64 ps[k].n) := d0
                    have e02 : wr.drew.drew.cell? ⟨b, o + k * 2 + 1, none⟩ = some (.slice ps[k].a 512 ps[k].cap) := d02
                    have HPt := hid (row_parts HOd.out hsl (show 0 ≤ k by omega))
                    have HBz := hid (HBk.out.trans (HBd.out.mono HBk.out.size))
                    have hbl : b < wr.drew.drew.heap.size := World.block_lt_of_cell? _ _ e0
                    clear d0 d02
                    generalize wr.drew.drew = wv at *
                    generalize hLL : srt ps k = L at *
                    go_wp2_with (first
                      | (refine wpList_append_pages rfl (.tmp 93) (.tmp 96) rfl w.heap.size (.slice none 0 0) 0 [] rfl (World.ownsRow_nil _ _ _ _) (some ⟨g, 0, none⟩) 0 sc (rowCells (L.take 0)) rfl (by rw [length_rowCells, List.length_take]; omega) (fun _ => ⟨_, rfl, HPt.out.1⟩) (oneCells _) (by omega) hsz ?_; intro v1 x1 hown1 hgr1 hat1; have HO1 := hid hown1; have HG1 := hid hgr1; have HA1 := hid hat1; have e1 : x1.cell? ⟨b, o + k * 2, none⟩ = some (.int .i64 ps[k].n) := (World.cell?_of_block (w := wv) (hgr1.block b hbl (by simp [Value.ownBlock]))).trans e0; have e12 : x1.cell? ⟨b, o + k * 2 + 1, none⟩ = some (.slice ps[k].a 512 ps[k].cap) := (World.cell?_of_block (w := wv) (hgr1.block b hbl (by simp [Value.ownBlock]))).trans e02; have hbl1 : b < x1.heap.size := World.block_lt_of_cell? _ _ e1; have hsz1 : w.heap.size ≤ x1.heap.size := Nat.le_trans hsz hgr1.size; clear hown1 hgr1 hat1)
                      | (refine wpList_append_pages rfl (.tmp 98) (.tmp 103) rfl w.heap.size v1 (0 + 0) ([] ++ rowCells (L.take 0)) rfl (HO1.out.alloc _) (some ⟨x1.heap.size, 0, none⟩) 1 1 [.int .i64 ps[k].n, .slice ps[k].a 512 ps[k].cap] rfl rfl (fun _ => ⟨_, rfl, World.news_of_block (cs := #[.int .i64 ps[k].n, .slice ps[k].a 512 ps[k].cap]) (block_new x1 _)⟩) (fun u hu => by rcases List.mem_cons.1 hu with rfl | hu; rfl; rw [List.mem_singleton.1 hu]; rfl) (by omega) (by simp; omega) ?_; intro v2 x2 hown2 hgr2 hat2; have HO2 := hid hown2; have HG2 := hid hgr2; have HA2 := hid hat2; have hv1 : v1.ownBlock ≠ some g := (by rcases HA1.out with e | e; rw [e]; simp [Value.ownBlock]; rw [e]; simp; omega); have hg2 : x2.heap[g]? = wv.heap[g]? := (hgr2.block g (by have := HG1.out.size; simp; omega) hv1.symm).trans ((Below.heap_alloc _ _ _ (by have := HG1.out.size; omega)).trans (HG1.out.block g (by omega) (by simp [Value.ownBlock]))); have HP2 : Hid (∀ j u, (rowCells (L.drop 0))[j]? = some u → x2.cell? ((⟨g, 0, none⟩ : Addr).add j) = some u) := (fun j u hj => by have := HPt.out.2 j u hj; rw [Addr.add_mid] at this ⊢; rw [World.cell?_of_block (w := wv) hg2]; simpa using this); have hsz2 : w.heap.size ≤ x2.heap.size := (by have := hgr2.size; simp at this; omega); clear hown2 hgr2 hat2 hg2)
                      | (refine wpList_append_pages rfl (.tmp 105) (.tmp 108) rfl w.heap.size v2 _ _ rfl HO2.out (some ⟨g, 0, none⟩) k sc (rowCells (L.drop 0)) rfl (by rw [length_rowCells, List.length_drop]; omega) (fun _ => ⟨_, rfl, HP2.out⟩) (oneCells _) (by omega) hsz2 ?_; intro v3 x3 hown3 hgr3 hat3; have HO3 := hid hown3; have HG3 := hid hgr3; clear hown3 hgr3 hat3))
                    have hb1 := HBz.out.grown HG1.out hsz (fun j hj => by simp [Value.ownBlock] at hj)
                    have hb2 := (hb1.alloc hsz1 _).grown HG2.out (by simp; omega) (fun j hj => by have := HO1.out.lt j hj; omega)
                    have hb3 := hb2.grown HG3.out hsz2 (fun j hj => by have := HO2.out.lt j hj; omega)
                    have hnd : ¬ (grpVal ps k ps[k].n).isSome := fun hv => by
                      obtain ⟨a, ha, -⟩ := (srt_dup ps k hlt hErr).2 hv
                      rw [hLL, HM.out] at ha
                      omega
                    have hsi := srt_ins hlt (m := 0) (by rw [hLL]; exact HM.out)
                    refine ⟨⟨k + 1, by omega, by go_num, grpErr_next hlt hErr h5 hnd, ?_, hb3⟩, by simp [intOf]; omega⟩
                    have h3 := HO3.out
                    unfold Hid
                    rw [hsi, hLL, rowCells_append, rowCells_cons, show ps[k].val = .slice ps[k].a 512 ps[k].cap by rw [← h5]; rfl]
                    simpa [Nat.add_comm] using h3
                · obtain ⟨a, hma⟩ : ∃ a, m = a + 1 := ⟨m - 1, by omega⟩
                  have ha : a < (srt ps k).length := by rw [hsl]; omega
                  obtain ⟨g, hsag, d1⟩ := HSrt.out wr hBi.out a ha
                  subst hsag
                  have hnlt : ¬ (ps[k].n < (srt ps k)[a].n) := fun h => hgo ⟨a, hma, ha, h⟩
                  have HDup : Hid ((srt ps k)[a].n = ps[k].n → (grpVal ps k ps[k].n).isSome) := fun e => (srt_dup ps k hlt hErr).1 ⟨a, by rw [HM.out, hma], by rw [List.getElem?_eq_getElem ha]; simp [e]⟩
                  have HND : Hid ((srt ps k)[a].n ≠ ps[k].n → ¬ (grpVal ps k ps[k].n).isSome) := fun hne hv => by
                    obtain ⟨a', ha', he'⟩ := (srt_dup ps k hlt hErr).2 hv
                    rw [HM.out, hma] at ha'
                    obtain rfl : a = a' := by omega
                    rw [List.getElem?_eq_getElem ha] at he'
                    exact hne (by simpa using he')
                  have hpos : 0 < m := by omega
                  have f0 : decide ((m : Int) > 0) = true := decide_eq_true (by omega)
                  have f1 : IntKind.i64.wrap ((m : Int) - 1) = (a : Int) := by rw [show (m : Int) - 1 = (a : Int) by omega]; exact IntWalk.i64_in _ (by omega)
                  have f3 : IntKind.i64.wrap (a : Int) = (a : Int) := IntWalk.i64_in _ (by omega)
                  have f2 : decide ((srt ps k)[a].n > ps[k].n) = false := decide_eq_false hnlt
                  have ha0 : (0 : Int) ≤ (a : Int) := by omega
                  have ha1 : (a : Int) < (k : Int) := by omega
                  have ha2 : (a : Int) < 100 := by omega
                  have HMa := hid hma
                  obtain ⟨y, hy⟩ : ∃ y, y = (srt ps k)[a].n := ⟨_, rfl⟩
                  rw [← hy] at d1 f2 HDup HND
                  clear hA hgo hnlt hma hm0 hy
                  go_wp2
                  refine wp_region_noPanic ?_
                  refine wp_region_held_drew (S := fun W => W.cell? ⟨b, o + k * 2, none⟩ = some (.int .i64 ps[k].n) ∧ W.cell? ⟨g, a * 2, none⟩ = some (.int .i64 y)) (by kernel_rfl) ⟨d0, d1⟩ (fun hHeld => ?_)
                  refine wpAnyH_take (i := 0) (v := ?_) rfl (by kernel_rfl) (by kernel_rfl) (by kernel_rfl) (fun _ _ _ h => h) (Or.inl ⟨by rfl, ?_⟩) (by assumption) ?_
                  rotate_left
                  · (intro W hSw; (try dsimp only at hSw); obtain ⟨s1, s2⟩ := hSw; go_simp; try with_reducible rfl)
                  try simp only [List.getElem_toArray, List.getElem_cons_zero, Act.put, List.setIfInBounds_toArray, List.set_cons_zero, List.set_cons_succ]
                  refine wpAnyH_take (i := 1) (v := .bool true) rfl (by kernel_rfl) (by kernel_rfl) (by kernel_rfl) (fun _ _ _ h => h) (Or.inl ⟨by rfl, ?_⟩) (by assumption) ?_
                  · (intro W hSw; (try dsimp only at hSw); obtain ⟨s1, s2⟩ := hSw; go_simp; try first | with_reducible rfl | go_num | (rw [if_pos (by assumption)]; simp only [*]) | simp only [*])
                  try simp only [List.getElem_toArray, List.getElem_cons_succ, List.getElem_cons_zero, Act.put, List.setIfInBounds_toArray, List.set_cons_zero, List.set_cons_succ]
                  refine wpAnyH_take (i := 2) (v := .bool true) rfl (by kernel_rfl) (by kernel_rfl) (by kernel_rfl) (fun _ _ _ h => h) (Or.inl ⟨by rfl, ?_⟩) (by assumption) ?_
                  · (intro W hSw; (try dsimp only at hSw); obtain ⟨s1, s2⟩ := hSw; go_simp; try first | with_reducible rfl | go_num | (rw [if_pos (by assumption)]; simp only [*]) | simp only [*])
                  try simp only [List.getElem_toArray, List.getElem_cons_succ, List.getElem_cons_zero, Act.put, List.setIfInBounds_toArray, List.set_cons_zero, List.set_cons_succ]
                  refine wpAnyH_take (i := 3) (v := ?_) rfl (by kernel_rfl) (by kernel_rfl) (by kernel_rfl) (fun _ _ _ h => h) (Or.inl ⟨by rfl, ?_⟩) (by assumption) ?_
                  rotate_left
                  · (intro W hSw; (try dsimp only at hSw); obtain ⟨s1, s2⟩ := hSw; go_simp; try with_reducible rfl)
                  try simp only [List.getElem_toArray, List.getElem_cons_succ, List.getElem_cons_zero, Act.put, List.setIfInBounds_toArray, List.set_cons_zero, List.set_cons_succ]
                  refine wpAnyH_take (i := 4) (v := ?_) rfl (by kernel_rfl) (by kernel_rfl) (by kernel_rfl) (fun _ _ _ h => h) (Or.inl ⟨by rfl, ?_⟩) (by assumption) ?_
                  rotate_left
                  · (intro W hSw; (try dsimp only at hSw); obtain ⟨s1, s2⟩ := hSw; go_simp; try with_reducible rfl)
                  try simp only [List.getElem_toArray, List.getElem_cons_succ, List.getElem_cons_zero, Act.put, List.setIfInBounds_toArray, List.set_cons_zero, List.set_cons_succ]
                  refine wpAnyH_take (i := 5) (v := .int .i64 (a : Int)) rfl (by kernel_rfl) (by kernel_rfl) (by kernel_rfl) (fun _ _ _ h => h) (Or.inl ⟨by rfl, ?_⟩) (by assumption) ?_
                  · (intro W hSw; (try dsimp only at hSw); obtain ⟨s1, s2⟩ := hSw; go_simp; try first | with_reducible rfl | go_num | (rw [if_pos (by assumption)]; simp only [*]) | simp only [*])
                  try simp only [List.getElem_toArray, List.getElem_cons_succ, List.getElem_cons_zero, Act.put, List.setIfInBounds_toArray, List.set_cons_zero, List.set_cons_succ]
                  refine wpAnyH_take (i := 6) (v := ?_) rfl (by kernel_rfl) (by kernel_rfl) (by kernel_rfl) (fun _ _ _ h => h) (Or.inl ⟨by rfl, ?_⟩) (by assumption) ?_
                  rotate_left
                  · (intro W hSw; (try dsimp only at hSw); obtain ⟨s1, s2⟩ := hSw; go_simp; try with_reducible rfl)
                  try simp only [List.getElem_toArray, List.getElem_cons_succ, List.getElem_cons_zero, Act.put, List.setIfInBounds_toArray, List.set_cons_zero, List.set_cons_succ]
                  refine wpAnyH_take (i := 7) (v := ?_) rfl (by kernel_rfl) (by kernel_rfl) (by kernel_rfl) (fun _ _ _ h => h) (Or.inl ⟨by rfl, ?_⟩) (by assumption) ?_
                  rotate_left
                  · (intro W hSw; (try dsimp only at hSw); obtain ⟨s1, s2⟩ := hSw; go_simp; try with_reducible rfl)
                  try simp only [List.getElem_toArray, List.getElem_cons_succ, List.getElem_cons_zero, Act.put, List.setIfInBounds_toArray, List.set_cons_zero, List.set_cons_succ]
                  refine wpAnyH_take (i := 8) (v := ?_) rfl (by kernel_rfl) (by kernel_rfl) (by kernel_rfl) (fun _ _ _ h => h) (Or.inl ⟨by rfl, ?_⟩) (by assumption) ?_
                  rotate_left
                  · (intro W hSw; (try dsimp only at hSw); obtain ⟨s1, s2⟩ := hSw; go_simp; try with_reducible rfl)
                  try simp only [List.getElem_toArray, List.getElem_cons_succ, List.getElem_cons_zero, Act.put, List.setIfInBounds_toArray, List.set_cons_zero, List.set_cons_succ]
                  refine wpAnyH_take (i := 9) (v := ?_) rfl (by kernel_rfl) (by kernel_rfl) (by kernel_rfl) (fun _ _ _ h => h) (Or.inl ⟨by rfl, ?_⟩) (by assumption) ?_
                  rotate_left
                  · (intro W hSw; (try dsimp only at hSw); obtain ⟨s1, s2⟩ := hSw; go_simp; try with_reducible rfl)
                  try simp only [List.getElem_toArray, List.getElem_cons_succ, List.getElem_cons_zero, Act.put, List.setIfInBounds_toArray, List.set_cons_zero, List.set_cons_succ]
                  refine wpAnyH_take (i := 10) (v := ?_) rfl (by kernel_rfl) (by kernel_rfl) (by kernel_rfl) (fun _ _ _ h => h) (Or.inl ⟨by rfl, ?_⟩) (by assumption) ?_
                  rotate_left
                  · (intro W hSw; (try dsimp only at hSw); obtain ⟨s1, s2⟩ := hSw; go_simp; try with_reducible rfl)
                  try simp only [List.getElem_toArray, List.getElem_cons_succ, List.getElem_cons_zero, Act.put, List.setIfInBounds_toArray, List.set_cons_zero, List.set_cons_succ]
                  refine wpAnyH_take (i := 11) (v := ?_) rfl (by kernel_rfl) (by kernel_rfl) (by kernel_rfl) (fun _ _ _ h => h) (Or.inl ⟨by rfl, ?_⟩) (by assumption) ?_
                  rotate_left
                  · (intro W hSw; (try dsimp only at hSw); obtain ⟨s1, s2⟩ := hSw; go_simp; try with_reducible rfl)
                  try simp only [List.getElem_toArray, List.getElem_cons_succ, List.getElem_cons_zero, Act.put, List.setIfInBounds_toArray, List.set_cons_zero, List.set_cons_succ]
                  refine wpAnyH_take (i := 12) (v := ?_) rfl (by kernel_rfl) (by kernel_rfl) (by kernel_rfl) (fun _ _ _ h => h) (Or.inl ⟨by rfl, ?_⟩) (by assumption) ?_
                  rotate_left
                  · (intro W hSw; (try dsimp only at hSw); obtain ⟨s1, s2⟩ := hSw; go_simp; try with_reducible rfl)
                  try simp only [List.getElem_toArray, List.getElem_cons_succ, List.getElem_cons_zero, Act.put, List.setIfInBounds_toArray, List.set_cons_zero, List.set_cons_succ]
                  refine wpAnyH_take (i := 13) (v := ?_) rfl (by kernel_rfl) (by kernel_rfl) (by kernel_rfl) (fun _ _ _ h => h) (Or.inl ⟨by rfl, ?_⟩) (by assumption) ?_
                  rotate_left
                  · (intro W hSw; (try dsimp only at hSw); obtain ⟨s1, s2⟩ := hSw; go_simp; try with_reducible rfl)
                  try simp only [List.getElem_toArray, List.getElem_cons_succ, List.getElem_cons_zero, Act.put, List.setIfInBounds_toArray, List.set_cons_zero, List.set_cons_succ]
                  refine wpAnyH_take (i := 14) (v := .bool false) rfl (by kernel_rfl) (by kernel_rfl) (by kernel_rfl) (fun _ _ _ h => h) (Or.inl ⟨by rfl, ?_⟩) (by assumption) ?_
                  · (intro W hSw; (try dsimp only at hSw); obtain ⟨s1, s2⟩ := hSw; go_simp; try first | with_reducible rfl | go_num | (rw [if_pos (by assumption)]; simp only [*]) | simp only [*])
                  try simp only [List.getElem_toArray, List.getElem_cons_succ, List.getElem_cons_zero, Act.put, List.setIfInBounds_toArray, List.set_cons_zero, List.set_cons_succ]
                  refine wpAnyH_take (i := 15) (v := .bool false) rfl (by kernel_rfl) (by kernel_rfl) (by kernel_rfl) (fun _ _ _ h => h) (Or.inl ⟨by rfl, ?_⟩) (by assumption) ?_
                  · (intro W hSw; (try dsimp only at hSw); obtain ⟨s1, s2⟩ := hSw; go_simp; try first | with_reducible rfl | go_num | (rw [if_pos (by assumption)]; simp only [*]) | simp only [*])
                  try simp only [List.getElem_toArray, List.getElem_cons_succ, List.getElem_cons_zero, Act.put, List.setIfInBounds_toArray, List.set_cons_zero, List.set_cons_succ]
                  refine wpAnyH_done (by kernel_rfl) ?_ _
                  refine NoPanic.normal ?_
                  clear hHeld
                  go_wp2
                  by_cases hyx : y = ps[k].n
                  · have hq : (y == ps[k].n) = true := beq_iff_eq.2 hyx
                    have HEr : Hid (grpErr ps ps.length = 3) := by
                      refine grpErr_up ps (k + 1) ?_ ps.length (by omega)
                      rw [grpErr, List.getElem?_eq_getElem hlt]
                      simp only
                      rw [if_pos (.inl (HDup.out hyx))]
                    clear hyx
                    refine wp_region_noPanic ?_
                    refine wp_region_held_drew (S := fun W => W.cell? ⟨b, o + k * 2, none⟩ = some (.int .i64 ps[k].n) ∧ W.cell? ⟨g, a * 2, none⟩ = some (.int .i64 y)) (by kernel_rfl) ⟨d0, d1⟩ (fun hHeld => ?_)
                    refine wpAnyH_take (i := 0) (v := ?_) rfl (by kernel_rfl) (by kernel_rfl) (by kernel_rfl) (fun _ _ _ h => h) (Or.inl ⟨by rfl, ?_⟩) (by assumption) ?_
                    rotate_left
                    · (intro W hSw; (try dsimp only at hSw); obtain ⟨s1, s2⟩ := hSw; go_simp; try with_reducible rfl)
                    try simp only [List.getElem_toArray, List.getElem_cons_zero, Act.put, List.setIfInBounds_toArray, List.set_cons_zero, List.set_cons_succ]
                    refine wpAnyH_take (i := 1) (v := .bool true) rfl (by kernel_rfl) (by kernel_rfl) (by kernel_rfl) (fun _ _ _ h => h) (Or.inl ⟨by rfl, ?_⟩) (by assumption) ?_
                    · (intro W hSw; (try dsimp only at hSw); obtain ⟨s1, s2⟩ := hSw; go_simp; try first | with_reducible rfl | go_num | (rw [if_pos (by assumption)]; simp only [*]) | simp only [*])
                    try simp only [List.getElem_toArray, List.getElem_cons_succ, List.getElem_cons_zero, Act.put, List.setIfInBounds_toArray, List.set_cons_zero, List.set_cons_succ]
                    refine wpAnyH_take (i := 2) (v := .bool true) rfl (by kernel_rfl) (by kernel_rfl) (by kernel_rfl) (fun _ _ _ h => h) (Or.inl ⟨by rfl, ?_⟩) (by assumption) ?_
                    · (intro W hSw; (try dsimp only at hSw); obtain ⟨s1, s2⟩ := hSw; go_simp; try first | with_reducible rfl | go_num | (rw [if_pos (by assumption)]; simp only [*]) | simp only [*])
                    try simp only [List.getElem_toArray, List.getElem_cons_succ, List.getElem_cons_zero, Act.put, List.setIfInBounds_toArray, List.set_cons_zero, List.set_cons_succ]
                    refine wpAnyH_take (i := 3) (v := ?_) rfl (by kernel_rfl) (by kernel_rfl) (by kernel_rfl) (fun _ _ _ h => h) (Or.inl ⟨by rfl, ?_⟩) (by assumption) ?_
                    rotate_left
                    · (intro W hSw; (try dsimp only at hSw); obtain ⟨s1, s2⟩ := hSw; go_simp; try with_reducible rfl)
                    try simp only [List.getElem_toArray, List.getElem_cons_succ, List.getElem_cons_zero, Act.put, List.setIfInBounds_toArray, List.set_cons_zero, List.set_cons_succ]
                    refine wpAnyH_take (i := 4) (v := ?_) rfl (by kernel_rfl) (by kernel_rfl) (by kernel_rfl) (fun _ _ _ h => h) (Or.inl ⟨by rfl, ?_⟩) (by assumption) ?_
                    rotate_left
                    · (intro W hSw; (try dsimp only at hSw); obtain ⟨s1, s2⟩ := hSw; go_simp; try with_reducible rfl)
                    try simp only [List.getElem_toArray, List.getElem_cons_succ, List.getElem_cons_zero, Act.put, List.setIfInBounds_toArray, List.set_cons_zero, List.set_cons_succ]
                    refine wpAnyH_take (i := 5) (v := .int .i64 (a : Int)) rfl (by kernel_rfl) (by kernel_rfl) (by kernel_rfl) (fun _ _ _ h => h) (Or.inl ⟨by rfl, ?_⟩) (by assumption) ?_
                    · (intro W hSw; (try dsimp only at hSw); obtain ⟨s1, s2⟩ := hSw; go_simp; try first | with_reducible rfl | go_num | (rw [if_pos (by assumption)]; simp only [*]) | simp only [*])
                    try simp only [List.getElem_toArray, List.getElem_cons_succ, List.getElem_cons_zero, Act.put, List.setIfInBounds_toArray, List.set_cons_zero, List.set_cons_succ]
                    refine wpAnyH_take (i := 6) (v := ?_) rfl (by kernel_rfl) (by kernel_rfl) (by kernel_rfl) (fun _ _ _ h => h) (Or.inl ⟨by rfl, ?_⟩) (by assumption) ?_
                    rotate_left
                    · (intro W hSw; (try dsimp only at hSw); obtain ⟨s1, s2⟩ := hSw; go_simp; try with_reducible rfl)
                    try simp only [List.getElem_toArray, List.getElem_cons_succ, List.getElem_cons_zero, Act.put, List.setIfInBounds_toArray, List.set_cons_zero, List.set_cons_succ]
                    refine wpAnyH_take (i := 7) (v := ?_) rfl (by kernel_rfl) (by kernel_rfl) (by kernel_rfl) (fun _ _ _ h => h) (Or.inl ⟨by rfl, ?_⟩) (by assumption) ?_
                    rotate_left
                    · (intro W hSw; (try dsimp only at hSw); obtain ⟨s1, s2⟩ := hSw; go_simp; try with_reducible rfl)
                    try simp only [List.getElem_toArray, List.getElem_cons_succ, List.getElem_cons_zero, Act.put, List.setIfInBounds_toArray, List.set_cons_zero, List.set_cons_succ]
                    refine wpAnyH_take (i := 8) (v := ?_) rfl (by kernel_rfl) (by kernel_rfl) (by kernel_rfl) (fun _ _ _ h => h) (Or.inl ⟨by rfl, ?_⟩) (by assumption) ?_
                    rotate_left
                    · (intro W hSw; (try dsimp only at hSw); obtain ⟨s1, s2⟩ := hSw; go_simp; try with_reducible rfl)
                    try simp only [List.getElem_toArray, List.getElem_cons_succ, List.getElem_cons_zero, Act.put, List.setIfInBounds_toArray, List.set_cons_zero, List.set_cons_succ]
                    refine wpAnyH_take (i := 9) (v := ?_) rfl (by kernel_rfl) (by kernel_rfl) (by kernel_rfl) (fun _ _ _ h => h) (Or.inl ⟨by rfl, ?_⟩) (by assumption) ?_
                    rotate_left
                    · (intro W hSw; (try dsimp only at hSw); obtain ⟨s1, s2⟩ := hSw; go_simp; try with_reducible rfl)
                    try simp only [List.getElem_toArray, List.getElem_cons_succ, List.getElem_cons_zero, Act.put, List.setIfInBounds_toArray, List.set_cons_zero, List.set_cons_succ]
                    refine wpAnyH_take (i := 10) (v := ?_) rfl (by kernel_rfl) (by kernel_rfl) (by kernel_rfl) (fun _ _ _ h => h) (Or.inl ⟨by rfl, ?_⟩) (by assumption) ?_
                    rotate_left
                    · (intro W hSw; (try dsimp only at hSw); obtain ⟨s1, s2⟩ := hSw; go_simp; try with_reducible rfl)
                    try simp only [List.getElem_toArray, List.getElem_cons_succ, List.getElem_cons_zero, Act.put, List.setIfInBounds_toArray, List.set_cons_zero, List.set_cons_succ]
                    refine wpAnyH_take (i := 11) (v := ?_) rfl (by kernel_rfl) (by kernel_rfl) (by kernel_rfl) (fun _ _ _ h => h) (Or.inl ⟨by rfl, ?_⟩) (by assumption) ?_
                    rotate_left
                    · (intro W hSw; (try dsimp only at hSw); obtain ⟨s1, s2⟩ := hSw; go_simp; try with_reducible rfl)
                    try simp only [List.getElem_toArray, List.getElem_cons_succ, List.getElem_cons_zero, Act.put, List.setIfInBounds_toArray, List.set_cons_zero, List.set_cons_succ]
                    refine wpAnyH_take (i := 12) (v := ?_) rfl (by kernel_rfl) (by kernel_rfl) (by kernel_rfl) (fun _ _ _ h => h) (Or.inl ⟨by rfl, ?_⟩) (by assumption) ?_
                    rotate_left
                    · (intro W hSw; (try dsimp only at hSw); obtain ⟨s1, s2⟩ := hSw; go_simp; try with_reducible rfl)
                    try simp only [List.getElem_toArray, List.getElem_cons_succ, List.getElem_cons_zero, Act.put, List.setIfInBounds_toArray, List.set_cons_zero, List.set_cons_succ]
                    refine wpAnyH_take (i := 13) (v := ?_) rfl (by kernel_rfl) (by kernel_rfl) (by kernel_rfl) (fun _ _ _ h => h) (Or.inl ⟨by rfl, ?_⟩) (by assumption) ?_
                    rotate_left
                    · (intro W hSw; (try dsimp only at hSw); obtain ⟨s1, s2⟩ := hSw; go_simp; try with_reducible rfl)
                    try simp only [List.getElem_toArray, List.getElem_cons_succ, List.getElem_cons_zero, Act.put, List.setIfInBounds_toArray, List.set_cons_zero, List.set_cons_succ]
                    refine wpAnyH_take (i := 14) (v := .bool true) rfl (by kernel_rfl) (by kernel_rfl) (by kernel_rfl) (fun _ _ _ h => h) (Or.inl ⟨by rfl, ?_⟩) (by assumption) ?_
                    · (intro W hSw; (try dsimp only at hSw); obtain ⟨s1, s2⟩ := hSw; go_simp; try first | with_reducible rfl | go_num | (rw [if_pos (by assumption)]; simp only [*]) | simp only [*])
                    try simp only [List.getElem_toArray, List.getElem_cons_succ, List.getElem_cons_zero, Act.put, List.setIfInBounds_toArray, List.set_cons_zero, List.set_cons_succ]
                    refine wpAnyH_take (i := 15) (v := .bool true) rfl (by kernel_rfl) (by kernel_rfl) (by kernel_rfl) (fun _ _ _ h => h) (Or.inl ⟨by rfl, ?_⟩) (by assumption) ?_
                    · (intro W hSw; (try dsimp only at hSw); obtain ⟨s1, s2⟩ := hSw; go_simp; try first | with_reducible rfl | go_num | (rw [if_pos (by assumption)]; simp only [*]) | simp only [*])
                    try simp only [List.getElem_toArray, List.getElem_cons_succ, List.getElem_cons_zero, Act.put, List.setIfInBounds_toArray, List.set_cons_zero, List.set_cons_succ]
                    refine wpAnyH_done (by kernel_rfl) ?_ _
                    refine NoPanic.normal ?_
                    clear hHeld
                    go_wp2
                    go_ret
                    have hE : E = 3 := by rw [HE0.out, HIn.out, HEr.out]; rfl
                    exact ⟨by rw [hE]; rfl, HEnd.out _ (HBk.out.trans (hBi.out.drew.drew.mono HBk.out.size)) (fun h => absurd (hE.symm.trans h.1) (by decide))⟩
                  · have hq : (y == ps[k].n) = false := beq_eq_false_iff_ne.2 hyx
                    have hnd := HND.out hyx
                    clear hyx
                    refine wp_region_noPanic ?_
                    refine wp_region_held_drew (S := fun W => W.cell? ⟨b, o + k * 2, none⟩ = some (.int .i64 ps[k].n) ∧ W.cell? ⟨g, a * 2, none⟩ = some (.int .i64 y)) (by kernel_rfl) ⟨d0, d1⟩ (fun hHeld => ?_)
                    refine wpAnyH_take (i := 0) (v := ?_) rfl (by kernel_rfl) (by kernel_rfl) (by kernel_rfl) (fun _ _ _ h => h) (Or.inl ⟨by rfl, ?_⟩) (by assumption) ?_
                    rotate_left
                    · (intro W hSw; (try dsimp only at hSw); obtain ⟨s1, s2⟩ := hSw; go_simp; try with_reducible rfl)
                    try simp only [List.getElem_toArray, List.getElem_cons_zero, Act.put, List.setIfInBounds_toArray, List.set_cons_zero, List.set_cons_succ]
                    refine wpAnyH_take (i := 1) (v := .bool true) rfl (by kernel_rfl) (by kernel_rfl) (by kernel_rfl) (fun _ _ _ h => h) (Or.inl ⟨by rfl, ?_⟩) (by assumption) ?_
                    · (intro W hSw; (try dsimp only at hSw); obtain ⟨s1, s2⟩ := hSw; go_simp; try first | with_reducible rfl | go_num | (rw [if_pos (by assumption)]; simp only [*]) | simp only [*])
                    try simp only [List.getElem_toArray, List.getElem_cons_succ, List.getElem_cons_zero, Act.put, List.setIfInBounds_toArray, List.set_cons_zero, List.set_cons_succ]
                    refine wpAnyH_take (i := 2) (v := .bool true) rfl (by kernel_rfl) (by kernel_rfl) (by kernel_rfl) (fun _ _ _ h => h) (Or.inl ⟨by rfl, ?_⟩) (by assumption) ?_
                    · (intro W hSw; (try dsimp only at hSw); obtain ⟨s1, s2⟩ := hSw; go_simp; try first | with_reducible rfl | go_num | (rw [if_pos (by assumption)]; simp only [*]) | simp only [*])
                    try simp only [List.getElem_toArray, List.getElem_cons_succ, List.getElem_cons_zero, Act.put, List.setIfInBounds_toArray, List.set_cons_zero, List.set_cons_succ]
                    refine wpAnyH_take (i := 3) (v := ?_) rfl (by kernel_rfl) (by kernel_rfl) (by kernel_rfl) (fun _ _ _ h => h) (Or.inl ⟨by rfl, ?_⟩) (by assumption) ?_
                    rotate_left
                    · (intro W hSw; (try dsimp only at hSw); obtain ⟨s1, s2⟩ := hSw; go_simp; try with_reducible rfl)
                    try simp only [List.getElem_toArray, List.getElem_cons_succ, List.getElem_cons_zero, Act.put, List.setIfInBounds_toArray, List.set_cons_zero, List.set_cons_succ]
                    refine wpAnyH_take (i := 4) (v := ?_) rfl (by kernel_rfl) (by kernel_rfl) (by kernel_rfl) (fun _ _ _ h => h) (Or.inl ⟨by rfl, ?_⟩) (by assumption) ?_
                    rotate_left
                    · (intro W hSw; (try dsimp only at hSw); obtain ⟨s1, s2⟩ := hSw; go_simp; try with_reducible rfl)
                    try simp only [List.getElem_toArray, List.getElem_cons_succ, List.getElem_cons_zero, Act.put, List.setIfInBounds_toArray, List.set_cons_zero, List.set_cons_succ]
                    refine wpAnyH_take (i := 5) (v := .int .i64 (a : Int)) rfl (by kernel_rfl) (by kernel_rfl) (by kernel_rfl) (fun _ _ _ h => h) (Or.inl ⟨by rfl, ?_⟩) (by assumption) ?_
                    · (intro W hSw; (try dsimp only at hSw); obtain ⟨s1, s2⟩ := hSw; go_simp; try first | with_reducible rfl | go_num | (rw [if_pos (by assumption)]; simp only [*]) | simp only [*])
                    try simp only [List.getElem_toArray, List.getElem_cons_succ, List.getElem_cons_zero, Act.put, List.setIfInBounds_toArray, List.set_cons_zero, List.set_cons_succ]
                    refine wpAnyH_take (i := 6) (v := ?_) rfl (by kernel_rfl) (by kernel_rfl) (by kernel_rfl) (fun _ _ _ h => h) (Or.inl ⟨by rfl, ?_⟩) (by assumption) ?_
                    rotate_left
                    · (intro W hSw; (try dsimp only at hSw); obtain ⟨s1, s2⟩ := hSw; go_simp; try with_reducible rfl)
                    try simp only [List.getElem_toArray, List.getElem_cons_succ, List.getElem_cons_zero, Act.put, List.setIfInBounds_toArray, List.set_cons_zero, List.set_cons_succ]
                    refine wpAnyH_take (i := 7) (v := ?_) rfl (by kernel_rfl) (by kernel_rfl) (by kernel_rfl) (fun _ _ _ h => h) (Or.inl ⟨by rfl, ?_⟩) (by assumption) ?_
                    rotate_left
                    · (intro W hSw; (try dsimp only at hSw); obtain ⟨s1, s2⟩ := hSw; go_simp; try with_reducible rfl)
                    try simp only [List.getElem_toArray, List.getElem_cons_succ, List.getElem_cons_zero, Act.put, List.setIfInBounds_toArray, List.set_cons_zero, List.set_cons_succ]
                    refine wpAnyH_take (i := 8) (v := ?_) rfl (by kernel_rfl) (by kernel_rfl) (by kernel_rfl) (fun _ _ _ h => h) (Or.inl ⟨by rfl, ?_⟩) (by assumption) ?_
                    rotate_left
                    · (intro W hSw; (try dsimp only at hSw); obtain ⟨s1, s2⟩ := hSw; go_simp; try with_reducible rfl)
                    try simp only [List.getElem_toArray, List.getElem_cons_succ, List.getElem_cons_zero, Act.put, List.setIfInBounds_toArray, List.set_cons_zero, List.set_cons_succ]
                    refine wpAnyH_take (i := 9) (v := ?_) rfl (by kernel_rfl) (by kernel_rfl) (by kernel_rfl) (fun _ _ _ h => h) (Or.inl ⟨by rfl, ?_⟩) (by assumption) ?_
                    rotate_left
                    · (intro W hSw; (try dsimp only at hSw); obtain ⟨s1, s2⟩ := hSw; go_simp; try with_reducible rfl)
                    try simp only [List.getElem_toArray, List.getElem_cons_succ, List.getElem_cons_zero, Act.put, List.setIfInBounds_toArray, List.set_cons_zero, List.set_cons_succ]
                    refine wpAnyH_take (i := 10) (v := ?_) rfl (by kernel_rfl) (by kernel_rfl) (by kernel_rfl) (fun _ _ _ h => h) (Or.inl ⟨by rfl, ?_⟩) (by assumption) ?_
                    rotate_left
                    · (intro W hSw; (try dsimp only at hSw); obtain ⟨s1, s2⟩ := hSw; go_simp; try with_reducible rfl)
                    try simp only [List.getElem_toArray, List.getElem_cons_succ, List.getElem_cons_zero, Act.put, List.setIfInBounds_toArray, List.set_cons_zero, List.set_cons_succ]
                    refine wpAnyH_take (i := 11) (v := ?_) rfl (by kernel_rfl) (by kernel_rfl) (by kernel_rfl) (fun _ _ _ h => h) (Or.inl ⟨by rfl, ?_⟩) (by assumption) ?_
                    rotate_left
                    · (intro W hSw; (try dsimp only at hSw); obtain ⟨s1, s2⟩ := hSw; go_simp; try with_reducible rfl)
                    try simp only [List.getElem_toArray, List.getElem_cons_succ, List.getElem_cons_zero, Act.put, List.setIfInBounds_toArray, List.set_cons_zero, List.set_cons_succ]
                    refine wpAnyH_take (i := 12) (v := ?_) rfl (by kernel_rfl) (by kernel_rfl) (by kernel_rfl) (fun _ _ _ h => h) (Or.inl ⟨by rfl, ?_⟩) (by assumption) ?_
                    rotate_left
                    · (intro W hSw; (try dsimp only at hSw); obtain ⟨s1, s2⟩ := hSw; go_simp; try with_reducible rfl)
                    try simp only [List.getElem_toArray, List.getElem_cons_succ, List.getElem_cons_zero, Act.put, List.setIfInBounds_toArray, List.set_cons_zero, List.set_cons_succ]
                    refine wpAnyH_take (i := 13) (v := ?_) rfl (by kernel_rfl) (by kernel_rfl) (by kernel_rfl) (fun _ _ _ h => h) (Or.inl ⟨by rfl, ?_⟩) (by assumption) ?_
                    rotate_left
                    · (intro W hSw; (try dsimp only at hSw); obtain ⟨s1, s2⟩ := hSw; go_simp; try with_reducible rfl)
                    try simp only [List.getElem_toArray, List.getElem_cons_succ, List.getElem_cons_zero, Act.put, List.setIfInBounds_toArray, List.set_cons_zero, List.set_cons_succ]
                    refine wpAnyH_take (i := 14) (v := .bool false) rfl (by kernel_rfl) (by kernel_rfl) (by kernel_rfl) (fun _ _ _ h => h) (Or.inl ⟨by rfl, ?_⟩) (by assumption) ?_
                    · (intro W hSw; (try dsimp only at hSw); obtain ⟨s1, s2⟩ := hSw; go_simp; try first | with_reducible rfl | go_num | (rw [if_pos (by assumption)]; simp only [*]) | simp only [*])
                    try simp only [List.getElem_toArray, List.getElem_cons_succ, List.getElem_cons_zero, Act.put, List.setIfInBounds_toArray, List.set_cons_zero, List.set_cons_succ]
                    refine wpAnyH_take (i := 15) (v := .bool false) rfl (by kernel_rfl) (by kernel_rfl) (by kernel_rfl) (fun _ _ _ h => h) (Or.inl ⟨by rfl, ?_⟩) (by assumption) ?_
                    · (intro W hSw; (try dsimp only at hSw); obtain ⟨s1, s2⟩ := hSw; go_simp; try first | with_reducible rfl | go_num | (rw [if_pos (by assumption)]; simp only [*]) | simp only [*])
                    try simp only [List.getElem_toArray, List.getElem_cons_succ, List.getElem_cons_zero, Act.put, List.setIfInBounds_toArray, List.set_cons_zero, List.set_cons_succ]
                    refine wpAnyH_done (by kernel_rfl) ?_ _
                    refine NoPanic.normal ?_
                    clear hHeld
                    have hsc : k ≤ sc := by
                      rcases HForm.out with ⟨h, -⟩ | ⟨g', -, h⟩
                      · cases h
                      · exact h
                    have hmk : (m : Int) ≤ (sc : Int) := by omega
                    have hmk2 : (m : Int) ≤ (k : Int) := by omega
                    have hmk3 : (k : Int) ≤ (sc : Int) := by omega
                    have HBd := hid hBi.out.drew.drew
                    have HOd : Hid (wr.drew.drew.ownsRow w.heap.size 114 2 (.slice (some ⟨g, 0, none⟩) k sc) k (rowCells (srt ps k))) := HOk.out.kept (grown_of_belowW HBd.out none) (by simp [Value.ownBlock])
                    have hgl := HOd.out.lt g rfl
                    have hsz : w.heap.size ≤ wr.drew.drew.heap.size := Nat.le_trans HBk.out.size HBd.out.size
                    have e0 : wr.drew.drew.cell? ⟨b, o + k * 2, none⟩ = some (.int .i64 ps[k].n) := d0
                    have e02 : wr.drew.drew.cell? ⟨b, o + k * 2 + 1, none⟩ = some (.slice ps[k].a 512 ps[k].cap) := d02
                    have HPt := hid (row_parts HOd.out hsl (show m ≤ k by omega))
                    have HBz := hid (HBk.out.trans (HBd.out.mono HBk.out.size))
                    have hbl : b < wr.drew.drew.heap.size := World.block_lt_of_cell? _ _ e0
                    clear d0 d02
                    generalize wr.drew.drew = wv at *
                    generalize hLL : srt ps k = L at *
                    have hnd' := hid hnd
                    clear hnd f0 f1 f2 f3 hq d1 HDup HND
                    by_cases hmsc : sc = m
                    · have hkm : k = m := by omega
                      have Hkm := hid hkm
                      have hnd := hnd'.out
                      clear hkm
                      subst hmsc
                      go_wp2_with (first
                        | (refine wpList_append_pages rfl (.tmp 93) (.tmp 96) rfl w.heap.size (.slice none 0 0) 0 [] rfl (World.ownsRow_nil _ _ _ _) (some ⟨g, 0, none⟩) sc sc (rowCells (L.take sc)) rfl (by rw [length_rowCells, List.length_take]; omega) (fun _ => ⟨_, rfl, HPt.out.1⟩) (oneCells _) (by omega) hsz ?_; intro v1 x1 hown1 hgr1 hat1; have HO1 := hid hown1; have HG1 := hid hgr1; have HA1 := hid hat1; have e1 : x1.cell? ⟨b, o + k * 2, none⟩ = some (.int .i64 ps[k].n) := (World.cell?_of_block (w := wv) (hgr1.block b hbl (by simp [Value.ownBlock]))).trans e0; have e12 : x1.cell? ⟨b, o + k * 2 + 1, none⟩ = some (.slice ps[k].a 512 ps[k].cap) := (World.cell?_of_block (w := wv) (hgr1.block b hbl (by simp [Value.ownBlock]))).trans e02; have hbl1 : b < x1.heap.size := World.block_lt_of_cell? _ _ e1; have hsz1 : w.heap.size ≤ x1.heap.size := Nat.le_trans hsz hgr1.size; clear hown1 hgr1 hat1)
                        | (refine wpList_append_pages rfl (.tmp 98) (.tmp 103) rfl w.heap.size v1 (0 + sc) ([] ++ rowCells (L.take sc)) rfl (HO1.out.alloc _) (some ⟨x1.heap.size, 0, none⟩) 1 1 [.int .i64 ps[k].n, .slice ps[k].a 512 ps[k].cap] rfl rfl (fun _ => ⟨_, rfl, World.news_of_block (cs := #[.int .i64 ps[k].n, .slice ps[k].a 512 ps[k].cap]) (block_new x1 _)⟩) (fun u hu => by rcases List.mem_cons.1 hu with rfl | hu; rfl; rw [List.mem_singleton.1 hu]; rfl) (by omega) (by simp; omega) ?_; intro v2 x2 hown2 hgr2 hat2; have HO2 := hid hown2; have HG2 := hid hgr2; have HA2 := hid hat2; have hv1 : v1.ownBlock ≠ some g := (by rcases HA1.out with e | e; rw [e]; simp [Value.ownBlock]; rw [e]; simp; omega); have hg2 : x2.heap[g]? = wv.heap[g]? := (hgr2.block g (by have := HG1.out.size; simp; omega) hv1.symm).trans ((Below.heap_alloc _ _ _ (by have := HG1.out.size; omega)).trans (HG1.out.block g (by omega) (by simp [Value.ownBlock]))); have HP2 : Hid (∀ j u, (rowCells (L.drop sc))[j]? = some u → x2.cell? ((⟨g, sc * 2, none⟩ : Addr).add j) = some u) := (fun j u hj => by have := HPt.out.2 j u hj; rw [Addr.add_mid] at this ⊢; rw [World.cell?_of_block (w := wv) hg2]; exact this); have hsz2 : w.heap.size ≤ x2.heap.size := (by have := hgr2.size; simp at this; omega); clear hown2 hgr2 hat2 hg2)
                        | (refine wpList_append_pages rfl (.tmp 105) (.tmp 108) rfl w.heap.size v2 _ _ rfl HO2.out (some ⟨g, 0, none⟩) 0 0 [] rfl rfl (fun h => by omega) (fun u hu => by simp at hu) (by omega) hsz2 ?_; intro v3 x3 hown3 hgr3 hat3; have HO3 := hid hown3; have HG3 := hid hgr3; clear hown3 hgr3 hat3))
                      have hb1 := HBz.out.grown HG1.out hsz (fun j hj => by simp [Value.ownBlock] at hj)
                      have hb2 := (hb1.alloc hsz1 _).grown HG2.out (by simp; omega) (fun j hj => by have := HO1.out.lt j hj; omega)
                      have hb3 := hb2.grown HG3.out hsz2 (fun j hj => by have := HO2.out.lt j hj; omega)
                      have hsi := srt_ins hlt (m := sc) (by rw [hLL]; exact HM.out)
                      refine ⟨⟨k + 1, by omega, by go_num, grpErr_next hlt hErr h5 hnd, ?_, hb3⟩, by simp [intOf]; omega⟩
                      have h3 := HO3.out
                      unfold Hid
                      rw [hsi, hLL, rowCells_append, rowCells_cons, show ps[k].val = .slice ps[k].a 512 ps[k].cap by rw [← h5]; rfl]
                      have hkm := Hkm.out
                      have e4 : L.drop sc = [] := List.drop_of_length_le (by omega)
                      have e3 : 0 + sc + 1 + 0 = k + 1 := by omega
                      rw [e4]
                      rw [e3] at h3
                      simpa [rowCells] using h3
                    · have hnd := hnd'.out
                      go_wp2_with (first
                        | (refine wpList_append_pages rfl (.tmp 93) (.tmp 96) rfl w.heap.size (.slice none 0 0) 0 [] rfl (World.ownsRow_nil _ _ _ _) (some ⟨g, 0, none⟩) m sc (rowCells (L.take m)) rfl (by rw [length_rowCells, List.length_take]; omega) (fun _ => ⟨_, rfl, HPt.out.1⟩) (oneCells _) (by omega) hsz ?_; intro v1 x1 hown1 hgr1 hat1; have HO1 := hid hown1; have HG1 := hid hgr1; have HA1 := hid hat1; have e1 : x1.cell? ⟨b, o + k * 2, none⟩ = some (.int .i64 ps[k].n) := (World.cell?_of_block (w := wv) (hgr1.block b hbl (by simp [Value.ownBlock]))).trans e0; have e12 : x1.cell? ⟨b, o + k * 2 + 1, none⟩ = some (.slice ps[k].a 512 ps[k].cap) := (World.cell?_of_block (w := wv) (hgr1.block b hbl (by simp [Value.ownBlock]))).trans e02; have hbl1 : b < x1.heap.size := World.block_lt_of_cell? _ _ e1; have hsz1 : w.heap.size ≤ x1.heap.size := Nat.le_trans hsz hgr1.size; clear hown1 hgr1 hat1)
                        | (refine wpList_append_pages rfl (.tmp 98) (.tmp 103) rfl w.heap.size v1 (0 + m) ([] ++ rowCells (L.take m)) rfl (HO1.out.alloc _) (some ⟨x1.heap.size, 0, none⟩) 1 1 [.int .i64 ps[k].n, .slice ps[k].a 512 ps[k].cap] rfl rfl (fun _ => ⟨_, rfl, World.news_of_block (cs := #[.int .i64 ps[k].n, .slice ps[k].a 512 ps[k].cap]) (block_new x1 _)⟩) (fun u hu => by rcases List.mem_cons.1 hu with rfl | hu; rfl; rw [List.mem_singleton.1 hu]; rfl) (by omega) (by simp; omega) ?_; intro v2 x2 hown2 hgr2 hat2; have HO2 := hid hown2; have HG2 := hid hgr2; have HA2 := hid hat2; have hv1 : v1.ownBlock ≠ some g := (by rcases HA1.out with e | e; rw [e]; simp [Value.ownBlock]; rw [e]; simp; omega); have hg2 : x2.heap[g]? = wv.heap[g]? := (hgr2.block g (by have := HG1.out.size; simp; omega) hv1.symm).trans ((Below.heap_alloc _ _ _ (by have := HG1.out.size; omega)).trans (HG1.out.block g (by omega) (by simp [Value.ownBlock]))); have HP2 : Hid (∀ j u, (rowCells (L.drop m))[j]? = some u → x2.cell? ((⟨g, m * 2, none⟩ : Addr).add j) = some u) := (fun j u hj => by have := HPt.out.2 j u hj; rw [Addr.add_mid] at this ⊢; rw [World.cell?_of_block (w := wv) hg2]; exact this); have hsz2 : w.heap.size ≤ x2.heap.size := (by have := hgr2.size; simp at this; omega); clear hown2 hgr2 hat2 hg2)
                        | (refine wpList_append_pages rfl (.tmp 105) (.tmp 108) rfl w.heap.size v2 _ _ rfl HO2.out (some ⟨g, m * 2, none⟩) (k - m) (sc - m) (rowCells (L.drop m)) rfl (by rw [length_rowCells, List.length_drop]; omega) (fun _ => ⟨_, rfl, HP2.out⟩) (oneCells _) (by omega) hsz2 ?_; intro v3 x3 hown3 hgr3 hat3; have HO3 := hid hown3; have HG3 := hid hgr3; clear hown3 hgr3 hat3))
                      have hb1 := HBz.out.grown HG1.out hsz (fun j hj => by simp [Value.ownBlock] at hj)
                      have hb2 := (hb1.alloc hsz1 _).grown HG2.out (by simp; omega) (fun j hj => by have := HO1.out.lt j hj; omega)
                      have hb3 := hb2.grown HG3.out hsz2 (fun j hj => by have := HO2.out.lt j hj; omega)
                      have hsi := srt_ins hlt (m := m) (by rw [hLL]; exact HM.out)
                      refine ⟨⟨k + 1, by omega, by go_num, grpErr_next hlt hErr h5 hnd, ?_, hb3⟩, by simp [intOf]; omega⟩
                      have h3 := HO3.out
                      unfold Hid
                      rw [hsi, hLL, rowCells_append, rowCells_cons, show ps[k].val = .slice ps[k].a 512 ps[k].cap by rw [← h5]; rfl]
                      have e3 : 0 + m + 1 + (k - m) = k + 1 := by omega
                      rw [e3] at h3
                      simpa using h3
          · have h5' : ((ps[k].len : Int) == 512) = false := beq_eq_false_iff_ne.2 (by omega)
            have HEr : Hid (grpErr ps ps.length = 3) := by
              refine grpErr_up ps (k + 1) (by rw [grpErr, List.getElem?_eq_getElem hlt]; simp [h5]) ps.length (by omega)
            generalize ps[k].len = ln at *
            go_wp2
            go_ret
            have hE : E = 3 := by rw [HE0.out, HIn.out, HEr.out]; rfl
            exact ⟨by rw [hE]; rfl, HEnd.out _ (hB.out) (fun h => absurd (hE.symm.trans h.1) (by decide))⟩
        · obtain rfl : k = ps.length := by omega
          have hge : ¬ ((ps.length : Int) < (ps.length : Int)) := by omega
          have hE : E = 0 := by rw [HE0.out, HIn.out]; exact hErr
          have HRCe := hid (HRC.out hE h0)
          have HEz := hid hE
          have HKl := hid (grpKeys_len ps N (inPages_iff.1 HIn.out) ps.length (Nat.le_refl _) hErr)
          have HK5 := hid (keys_512 (N := N) (F := fun i => i = r) hErr HV.out)
          have HBy := hid (fun i (hi : i < (srt ps ps.length).length) => srt_bytes (F := fun i => i = r) HIn.out hErr HV.out hi)
          have HkL := hid (srt_keys ps N HIn.out hErr)
          have HK0 : Hid (∀ k ∈ grpKeys (grpVal ps ps.length) N, 0 ≤ k ∧ k < (N : Int)) := fun k hk => ⟨(mem_grpKeys.1 hk).1, (mem_grpKeys.1 hk).2.1⟩
          have Hsl := hid (srt_length ps ps.length (Nat.le_refl _))
          have hpos : 0 < ps.length := by omega
          obtain ⟨g, sc, rfl, -⟩ := hO.out.form hpos
          obtain ⟨hg1, hg2⟩ := hO.out.lt g rfl
          have hrl := lt_of_heap H.out.disk.heap
          have hql := lt_of_heap H.out.heap
          have HFst : Hid (N + 1 + size = R.first.length) := by unfold Hid; rw [← HNN.out]; unfold pagesR; omega
          generalize grpL ps bl ps.length = l at *
          generalize grpKeys (grpVal ps ps.length) N = ks at *
          generalize srt ps ps.length = L at *
          obtain ⟨wz, hwz⟩ : ∃ wz, wz = wr := ⟨_, rfl⟩
          rw [← hwz] at hO hB hg2
          have HRow : Hid (∀ W, Keeps (fun i => i = r) wz W → ∀ i, i < ps.length → W.cell? ⟨g, i * 2, none⟩ = some (.int .i64 (ks.getD i 0)) ∧ ∃ ad c, W.cell? ⟨g, i * 2 + 1, none⟩ = some (.slice (some ad) 512 c) ∧ bytesIn W (some ad) (l (ks.getD i 0)) ∧ (l (ks.getD i 0)).length = 512) := fun W hW i hi => by
            have hi2 : i < L.length := by rw [Hsl.out]; exact hi
            obtain ⟨r0, r1⟩ := rowCells_at L i hi2
            have hn : L[i].n = ks.getD i 0 := by rw [← HkL.out, List.getD_eq_getElem?_getD, List.getElem?_map, List.getElem?_eq_getElem hi2]; rfl
            obtain ⟨ad, c, e1, e2, e3, e4⟩ := HBy.out i hi2
            have hne : ¬ g = r := by omega
            refine ⟨hW.cell (ad := ⟨g, i * 2, none⟩) (by rw [hO.out.cellAt (i * 2) (by omega), r0, hn]) hne, ad, c, hW.cell (ad := ⟨g, i * 2 + 1, none⟩) (by rw [hO.out.cellAt (i * 2 + 1) (by omega), r1, e1]) hne, fun j hj => ?_, e3⟩
            have h0 := e2 0 (by omega)
            have hpl := plain_addr h0
            rw [Addr.add, if_pos rfl] at hpl
            refine ⟨ad.block, ad.off, by rw [← hpl], fun i2 hi2 => ?_⟩
            have h2 := e2 i2 hi2
            rw [hpl, Addr.add_mid] at h2
            exact ((Keeps.of_below hB.out).trans hW (fun i e => .inl e)).cell (ad := ⟨ad.block, ad.off + i2, none⟩) h2 e4
          have HBz : Hid (Below w.heap.size w wz) := hB
          obtain ⟨i0, hi, hz0, hz1, hz2⟩ := info_parts infoInt
          have HI := hid hi
          clear hi hB hO HBy HkL Hsl hErr hE
          go_wp2
          go_loopw [10, 11] (fun v i wr => ∃ (j : Nat) (lvj : Value) (vsj : List Value) (Rdj : Nat → Prop), j ≤ ps.length ∧ i = .int .i64 j ∧ Hid (wr.ownsRow wz.heap.size 3 1 v j ((ks.take j).map encZ)) ∧ Hid (RLogIn wr q r fv lvj vsj Rdj (rlogTo R l ks j) size rec) ∧ Hid (∀ i, Rdj i → moreOf Rd w wr i) ∧ Hid (∀ i, v.ownBlock = some i → ¬ Rdj i) ∧ Hid (Keeps (fun i => i = r) wz wr)) (fun _ i _ => ps.length - (intOf i).toNat)
          case atStart =>
            refine ⟨0, lv, vs, Rd, by omega, rfl, World.ownsRow_nil _ _ _ _, ?_, fun i hi => .inl hi, fun i hi => by simp [Value.ownBlock] at hi, by rw [hwz]; exact Keeps.refl _ _⟩
            have e : rlogTo R l ks 0 = R := by simp [rlogTo, logOps]
            unfold Hid
            rw [e, ← hwz]
            exact H.out.below HBz.out
          case round =>
            obtain ⟨j, lvj, vsj, Rdj, hj, rfl, hNu, hL, hSub, hOff, hK⟩ := hrel
            have d0 : wr.cell? ⟨q, 0, none⟩ = some (.pointer (some ⟨r, 0, none⟩)) := cell_of_block hL.out.heap 0
            have hsz := HBz.out.size
            have hsr := hK.out.size
            by_cases hlt : j < ps.length
            · have hj0 : (0 : Int) ≤ (j : Int) := by omega
              have hj1 : (j : Int) < (ps.length : Int) := by omega
              have hj2 : (j : Int) < 100 := by omega
              obtain ⟨c0, ad, c, c1, hby, h5⟩ := HRow.out wr hK.out j hlt
              have HLen := hid (rlogTo_len R l ks j)
              have hwr := rwrite_any r fv lvj vsj _ _ (1 + (j : Int)) (l (ks.getD j 0)) (some ad) 512 c wr.drew (hL.out.disk.below (Below.refl _ _).drew) (by rw [HLen.out]; omega) h5 hby
              rw [rlogTo_succ R l ks j (by have := HFst.out; omega) h5] at hwr
              have HWr := hid hwr
              have e1 : IntKind.i64.wrap (1 + (j : Int)) = 1 + (j : Int) := IntWalk.i64_in _ (by omega)
              have HTk : Hid ((ks.take j).map encZ ++ [.int .i64 (ks.getD j 0)] = (ks.take (j + 1)).map encZ) := by
                have hjk : j < ks.length := by rw [HKl.out]; exact hlt
                unfold Hid
                rw [List.take_succ_eq_append_getElem hjk, List.map_append, List.getD_eq_getElem?_getD, List.getElem?_eq_getElem hjk]; rfl
              clear hby hwr h5
              generalize ks.getD j 0 = x at *
              go_wp2
              refine wp_region_noPanic ?_
              refine wp_region_held_drew (S := fun W => W.cell? ⟨q, 0, none⟩ = some (.pointer (some ⟨r, 0, none⟩)) ∧ W.cell? ⟨g, j * 2 + 1, none⟩ = some (.slice (some ad) 512 c)) (by kernel_rfl) ⟨d0, c1⟩ (fun hHeld => ?_)
              refine wpAnyH_take (i := 0) (v := ?_) rfl (by kernel_rfl) (by kernel_rfl) (by kernel_rfl) (fun _ _ _ h => h) (Or.inl ⟨by rfl, ?_⟩) (by assumption) ?_
              rotate_left
              · (intro W hSw; (try dsimp only at hSw); obtain ⟨s1, s2⟩ := hSw; go_simp; try with_reducible rfl)
              try simp only [List.getElem_toArray, List.getElem_cons_zero, Act.put, List.setIfInBounds_toArray, List.set_cons_zero, List.set_cons_succ]
              refine wpAnyH_take (i := 1) (v := ?_) rfl (by kernel_rfl) (by kernel_rfl) (by kernel_rfl) (fun _ _ _ h => h) (Or.inl ⟨by rfl, ?_⟩) (by assumption) ?_
              rotate_left
              · (intro W hSw; (try dsimp only at hSw); obtain ⟨s1, s2⟩ := hSw; go_simp; try with_reducible rfl)
              try simp only [List.getElem_toArray, List.getElem_cons_succ, List.getElem_cons_zero, Act.put, List.setIfInBounds_toArray, List.set_cons_zero, List.set_cons_succ]
              refine wpAnyH_take (i := 2) (v := ?_) rfl (by kernel_rfl) (by kernel_rfl) (by kernel_rfl) (fun _ _ _ h => h) (Or.inl ⟨by rfl, ?_⟩) (by assumption) ?_
              rotate_left
              · (intro W hSw; (try dsimp only at hSw); obtain ⟨s1, s2⟩ := hSw; go_simp; try with_reducible rfl)
              try simp only [List.getElem_toArray, List.getElem_cons_succ, List.getElem_cons_zero, Act.put, List.setIfInBounds_toArray, List.set_cons_zero, List.set_cons_succ]
              refine wpAnyH_take (i := 3) (v := ?_) rfl (by kernel_rfl) (by kernel_rfl) (by kernel_rfl) (fun _ _ _ h => h) (Or.inl ⟨by rfl, ?_⟩) (by assumption) ?_
              rotate_left
              · (intro W hSw; (try dsimp only at hSw); obtain ⟨s1, s2⟩ := hSw; go_simp; try with_reducible rfl)
              try simp only [List.getElem_toArray, List.getElem_cons_succ, List.getElem_cons_zero, Act.put, List.setIfInBounds_toArray, List.set_cons_zero, List.set_cons_succ]
              refine wpAnyH_take (i := 4) (v := ?_) rfl (by kernel_rfl) (by kernel_rfl) (by kernel_rfl) (fun _ _ _ h => h) (Or.inl ⟨by rfl, ?_⟩) (by assumption) ?_
              rotate_left
              · (intro W hSw; (try dsimp only at hSw); obtain ⟨s1, s2⟩ := hSw; go_simp; try with_reducible rfl)
              try simp only [List.getElem_toArray, List.getElem_cons_succ, List.getElem_cons_zero, Act.put, List.setIfInBounds_toArray, List.set_cons_zero, List.set_cons_succ]
              refine wpAnyH_take (i := 5) (v := .int .i64 (1 + (j : Int))) rfl (by kernel_rfl) (by kernel_rfl) (by kernel_rfl) (fun _ _ _ h => h) (Or.inl ⟨by rfl, ?_⟩) (by assumption) ?_
              · (intro W hSw; (try dsimp only at hSw); obtain ⟨s1, s2⟩ := hSw; go_simp; try first | with_reducible rfl | go_num | (rw [if_pos (by assumption)]; simp only [*]) | simp only [*])
              try simp only [List.getElem_toArray, List.getElem_cons_succ, List.getElem_cons_zero, Act.put, List.setIfInBounds_toArray, List.set_cons_zero, List.set_cons_succ]
              refine wpAnyH_take (i := 6) (v := ?_) rfl (by kernel_rfl) (by kernel_rfl) (by kernel_rfl) (fun _ _ _ h => h) (Or.inl ⟨by rfl, ?_⟩) (by assumption) ?_
              rotate_left
              · (intro W hSw; (try dsimp only at hSw); obtain ⟨s1, s2⟩ := hSw; go_simp; try with_reducible rfl)
              try simp only [List.getElem_toArray, List.getElem_cons_succ, List.getElem_cons_zero, Act.put, List.setIfInBounds_toArray, List.set_cons_zero, List.set_cons_succ]
              refine wpAnyH_take (i := 7) (v := ?_) rfl (by kernel_rfl) (by kernel_rfl) (by kernel_rfl) (fun _ _ _ h => h) (Or.inl ⟨by rfl, ?_⟩) (by assumption) ?_
              rotate_left
              · (intro W hSw; (try dsimp only at hSw); obtain ⟨s1, s2⟩ := hSw; go_simp; try with_reducible rfl)
              try simp only [List.getElem_toArray, List.getElem_cons_succ, List.getElem_cons_zero, Act.put, List.setIfInBounds_toArray, List.set_cons_zero, List.set_cons_succ]
              refine wpAnyH_take (i := 8) (v := ?_) rfl (by kernel_rfl) (by kernel_rfl) (by kernel_rfl) (fun _ _ _ h => h) (Or.inl ⟨by rfl, ?_⟩) (by assumption) ?_
              rotate_left
              · (intro W hSw; (try dsimp only at hSw); obtain ⟨s1, s2⟩ := hSw; go_simp; try with_reducible rfl)
              try simp only [List.getElem_toArray, List.getElem_cons_succ, List.getElem_cons_zero, Act.put, List.setIfInBounds_toArray, List.set_cons_zero, List.set_cons_succ]
              refine wpAnyH_take (i := 9) (v := ?_) rfl (by kernel_rfl) (by kernel_rfl) (by kernel_rfl) (fun _ _ _ h => h) (Or.inl ⟨by rfl, ?_⟩) (by assumption) ?_
              rotate_left
              · (intro W hSw; (try dsimp only at hSw); obtain ⟨s1, s2⟩ := hSw; go_simp; try with_reducible rfl)
              try simp only [List.getElem_toArray, List.getElem_cons_succ, List.getElem_cons_zero, Act.put, List.setIfInBounds_toArray, List.set_cons_zero, List.set_cons_succ]
              refine wpAnyH_take (i := 10) (v := ?_) rfl (by kernel_rfl) (by kernel_rfl) (by kernel_rfl) (fun _ _ _ h => h) (Or.inl ⟨by rfl, ?_⟩) (by assumption) ?_
              rotate_left
              · (intro W hSw; (try dsimp only at hSw); obtain ⟨s1, s2⟩ := hSw; go_simp; try with_reducible rfl)
              try simp only [List.getElem_toArray, List.getElem_cons_succ, List.getElem_cons_zero, Act.put, List.setIfInBounds_toArray, List.set_cons_zero, List.set_cons_succ]
              refine wpAnyH_ready (rs := [11]) (by kernel_rfl) (by simp) (AllReadyH.cons rfl (fun K hKK => ?_) AllReadyH.nil)
              rw [if_pos (by rfl)]
              go_simp
              refine HWr.out.mono ?_
              clear HWr
              rintro e w3 ⟨rfl, lv3, vs3, hR3, hK3⟩
              have hK3' : Keeps (fun i => i = r) wr w3 := (Keeps.of_below (Below.refl _ wr).drew).trans hK3 (fun i e => .inl e)
              have hL3 := hL.out.did hR3 hK3'
              have hs3 := hK3'.size
              have hKz3 : Keeps (fun i => i = r) wz w3 := hK.out.trans hK3' (fun i e => .inl e)
              have u0 : w3.cell? ⟨q, 0, none⟩ = some (.pointer (some ⟨r, 0, none⟩)) := cell_of_block hL3.heap 0
              have u1 : w3.cell? ⟨g, j * 2 + 1, none⟩ = some (.slice (some ad) 512 c) := hK3'.cell (ad := ⟨g, j * 2 + 1, none⟩) c1 (by show ¬ g = r; omega)
              have u2 : w3.cell? ⟨g, j * 2, none⟩ = some (.int .i64 x) := hK3'.cell (ad := ⟨g, j * 2, none⟩) c0 (by show ¬ g = r; omega)
              have hbr : ∀ i, u10.ownBlock = some i → ¬ i = r := fun i e => by have := hNu.out.lt i e; omega
              have HN3 := hid (hK3'.row hNu.out hbr)
              have HL3 := hid hL3
              have HKz3 := hid hKz3
              clear hR3 hK3 hL3 hKz3 c0 c1 d0
              go_wp2_with fail
              refine hKK.out _ _ ⟨u0, u1⟩ (fun hHeld => ?_)
              clear hKK K
              refine wpAnyH_done (by kernel_rfl) ?_ _
              refine NoPanic.normal ?_
              clear hHeld u1 u0
              go_wp2_with (refine wpList_append_lies _ rfl (.tmp 128) (.tmp 134) 32 rfl wz.heap.size 3 i0 (.int .i64 0) 1 8 Tryz.underlying32 HI.out hz0 hz1 hz2 rfl (by omega) u10 j _ rfl (HN3.out.alloc _) ⟨w3.heap.size, 0, none⟩ 1 1 [.int .i64 x] rfl rfl (World.news_of_block (cs := #[.int .i64 x]) (block_new w3 _)) (by intro u hu; rw [List.mem_singleton.1 hu]; rfl) (by omega) (by unfold maxLen; omega) (by omega) (by simp; omega) (w3.heap.size + 1) (by simp) ?_; intro g2 cap2 w5 hown hgr hat hlt2; have HO := hid hown; have HG := hid hgr; have HAt := hid hat; clear hown hgr hat hlt2)
              have hKg : Keeps (fun i => u10.ownBlock = some i) w3 w5 := ((Keeps.refl _ w3).alloc _).grown HG.out (fun i e => .inl e)
              have hout : ∀ i, u10.ownBlock = some i → wz.heap.size ≤ i ∧ i < wr.heap.size := fun i e => hNu.out.lt i e
              have hL5 := HL3.out.keepG hKg (fun e => by have := hout q e; omega) (fun e => by have := hout r e; omega) (fun i hi e => by
                rcases hi with hi | hi
                · exact hOff.out i e hi
                · have := hout i e; omega)
              refine ⟨⟨j + 1, lv3, vs3, _, by omega, by go_num, ?_, hL5, fun i hi => ?_, fun i hi hr => ?_, ?_⟩, by simp [intOf]; omega⟩
              · have := HO.out
                rwa [HTk.out] at this
              · rcases hi with hi | hi
                · rcases hSub.out i hi with h1 | h1
                  · exact .inl h1
                  · exact .inr (by have := hKg.size; omega)
                · exact .inr (by have := hKg.size; omega)
              · have hi' : g2 = i := by simpa [Value.ownBlock] using hi
                subst hi'
                rcases HAt.out with e | e
                · rcases hr with hr | hr
                  · exact hOff.out _ e hr
                  · have := hout _ e; omega
                · have := HL3.out.rd _ hr; omega
              · exact HKz3.out.trans hKg (fun i e => .inr (by have := hout i e; omega))
            · obtain rfl : j = ps.length := by omega
              have HO2 : Hid (wr.ownsRow wz.heap.size 3 1 u10 ks.length (ks.map encZ)) := by
                have h1 := hNu.out
                have h2 : ks.take ps.length = ks := List.take_of_length_le (by rw [HKl.out]; exact Nat.le_refl _)
                unfold Hid
                rw [h2] at h1
                rw [HKl.out]; exact h1
              obtain ⟨na, nc, hu, -⟩ := ints_of_row HO2.out
              rw [HKl.out] at hu
              subst hu
              have HInts : Hid (∀ W, Keeps (fun i => i = r) wr W → intsAt W na (natsZ (ks.map Int.toNat))) := fun W hW => by
                rw [natsZ_toNat ks (fun k hk => (HK0.out k hk).1)]
                obtain ⟨a', c', e, h⟩ := ints_of_row (hW.row HO2.out (fun i e (h : i = r) => by have := HO2.out.lt i e; omega))
                simp only [Value.slice.injEq] at e
                obtain ⟨rfl, -, rfl⟩ := e
                exact h
              have HNr : Hid (∀ ad, na = some ad → ad.block ≠ r) := fun ad e h => by
                subst e
                have := HO2.out.lt ad.block rfl
                omega
              have hL' : RLogIn wr q r fv lvj vsj (moreOf Rd w wr) (rlogTo R l ks ks.length) size rec := by
                rw [HKl.out]
                refine hL.out.moreRd hSub.out (fun h => ?_) (fun h => ?_) (fun i h => ?_)
                · rcases h with h | h
                  · exact H.out.disk.rd h
                  · omega
                · rcases h with h | h
                  · exact H.out.off h
                  · omega
                · rcases h with h | h
                  · have := H.out.rd i h; omega
                  · exact h.2
              have HLen : Hid ((rlogTo R l ks ks.length).l.length ≤ 700100) := by unfold Hid; rw [rlogTo_len, HKl.out]; omega
              have HFl := hid (rflush_any r fv lvj vsj _ _ wr hL'.disk (by have := HLen.out; omega))
              have HL' := hid hL'
              have HNl : Hid ((ks.map Int.toNat).length = ps.length) := by unfold Hid; rw [List.length_map]; exact HKl.out
              have HKf : Hid (ks.length < R.first.length) := by unfold Hid; rw [HKl.out]; have := HFst.out; omega
              clear hL' hL hNu hOff hSub HO2
              go_wp2_with fail
              refine HFl.out.mono ?_
              clear HFl
              rintro e w2 ⟨rfl, lv2, vs2, hR2, hK2⟩
              have hL2 := (HL'.out.did hR2 hK2).next H.out (by omega) hK2.size
              have hs2 := hK2.size
              have hst := rset_any q r fv lv2 vs2 _ _ size rec (ks.map Int.toNat) na nc w2 hL2 (by have := HLen.out; simp only [RefS.did, List.length_append, List.length_singleton]; omega) (HInts.out w2 hK2) (by rw [HNl.out]; omega) (fun n hn => by
                obtain ⟨k, hk, rfl⟩ := List.mem_map.1 hn
                have := HK0.out k hk
                omega)
              rw [HNl.out] at hst
              have HSt := hid hst
              have HK2 := hid (hK.out.trans hK2 (fun i e => .inl e))
              have HKr2 := hid hK2
              clear hst hR2 hK2 hL2 hK d0
              go_wp2_with fail
              refine HSt.out.mono ?_
              clear HSt
              rintro e w3 ⟨rfl, lv3, vs3, hL3, hK3⟩
              have hL3' : RLogIn w3 q r fv lv3 vs3 (moreOf Rd w w3) (rmidR R l ks) size rec := hL3.next H.out (by omega) hK3.size
              have hs3 := hK3.size
              have hmf : (rmidR R l ks).first = R.first := by rw [rmid_eq R l ks (by have := HKf.out; omega) (by rw [HKl.out]; omega)]; rfl
              have hho := rhome_any q r fv lv3 vs3 _ (rmidR R l ks) size rec (ks.map Int.toNat) (fun i => l (ks.getD i 0)) na nc w3 hL3' (okR_mid HRk.out l ks HKf.out (by rw [HKl.out]; omega) HK5.out) (by rw [rmid_len R l ks (by have := HKf.out; omega) (by rw [HKl.out]; omega), HKl.out]; omega) (HInts.out w3 (HKr2.out.trans hK3 (fun i e => .inl e))) HNr.out (by rw [HNl.out]; omega) (by rw [HNl.out]; omega) (fun n hn => by
                obtain ⟨k, hk, rfl⟩ := List.mem_map.1 hn
                have h1 := HK0.out k hk
                have h2 := HFst.out
                rw [hmf]
                omega) (fun i hi => rmid_at R l ks HKf.out (by rw [HKl.out]; omega) i (by simpa using hi)) (fun i hi => by
                have hi' : i < ks.length := by simpa using hi
                rw [List.getD_eq_getElem?_getD, List.getElem?_eq_getElem hi']
                exact HK5.out _ (List.getElem_mem hi'))
              rw [HNl.out, rhome_eq R size l ks HKf.out (by rw [HKl.out]; omega) (fun k hk => (HK0.out k hk).1), ← HRCe.out] at hho
              have HHo := hid hho
              have HK3 := hid (HK2.out.trans hK3 (fun i e => .inl e))
              clear hho hL3 hL3' hK3 hmf
              go_wp2_with fail
              refine HHo.out.mono ?_
              clear HHo
              rintro e w4 ⟨rfl, lv4, vs4, hL4, hK4⟩
              have HL4 := hid (hL4.next H.out (by omega) hK4.size)
              have HK4 := hid ((Keeps.of_below HBz.out).trans (HK3.out.trans hK4 (fun i e => .inl e)) (fun i e => .inl e))
              clear hL4 hK4
              go_wp2
              go_ret
              exact ⟨by rw [HEz.out]; rfl, lv4, vs4, HL4.out, HK4.out⟩
end
end Go.Proofs.YtjgclmlclkfgpaaGreat
