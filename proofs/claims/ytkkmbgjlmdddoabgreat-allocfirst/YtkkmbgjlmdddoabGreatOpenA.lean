/- wal.Open of whatever disk. -/
import Derived.Test.YtkkmbgjlmdddoabGreatLogged
import Derived.Test.YtkkmbgjlmdddoabGreatBaseC
import Derived.Test.YtkkmbgjlmdddoabGreatWPlain
namespace Go.Proofs.YtkkmbgjlmdddoabGreat
open Go.RowKit Go.Maps
/-- The bytes that the log has for a number. -/
def logL (S : DiskS) (ns : List Nat) : Nat → Int → List UInt8
  | 0 => fun _ => []
  | j + 1 => fun n => if (ns[j]?).map (fun x : Nat => (x : Int)) = some n then secL S (1 + j) else logL S ns j n
theorem logL_at (S : DiskS) (ns : List Nat) (hnd : ns.Pairwise (fun a b => a < b)) (j : Nat) (hj : j < ns.length) : ∀ k, j < k → k ≤ ns.length → logL S ns k (ns[j] : Nat) = secL S (1 + j)
  | 0, h, _ => by omega
  | k + 1, h, hk => by
    rw [logL]
    dsimp only
    rw [List.getElem?_eq_getElem (by omega)]
    by_cases e : j = k
    · subst e; simp
    · have hlt : ns[j] < ns[k] := List.pairwise_iff_getElem.1 hnd j k hj (by omega) (by omega)
      rw [if_neg (by simp; omega)]
      exact logL_at S ns hnd j hj k (by omega) (by omega)
theorem rise_eq : ∀ (l m : List Int), l.Pairwise (fun a b => a < b) → m.Pairwise (fun a b => a < b) → (∀ x, x ∈ l ↔ x ∈ m) → l = m
  | [], [], _, _, _ => rfl
  | [], b :: m, _, _, h => by have := (h b).2 List.mem_cons_self; simp at this
  | a :: l, [], _, _, h => by have := (h a).1 List.mem_cons_self; simp at this
  | a :: l, b :: m, hl, hm, h => by
    obtain ⟨h1, h2⟩ := List.pairwise_cons.1 hl
    obtain ⟨h3, h4⟩ := List.pairwise_cons.1 hm
    have hab : a = b := by
      have ha := (h a).1 List.mem_cons_self
      have hb := (h b).2 List.mem_cons_self
      rcases List.mem_cons.1 ha with e | e
      · exact e
      · rcases List.mem_cons.1 hb with e2 | e2
        · exact e2.symm
        · have := h3 a e; have := h1 b e2; omega
    subst hab
    rw [rise_eq l m h2 h4 (fun x => by
      have hx := h x
      constructor
      · intro hm1
        rcases List.mem_cons.1 (hx.1 (List.mem_cons_of_mem _ hm1)) with e | e
        · subst e; have := h1 x hm1; omega
        · exact e
      · intro hm1
        rcases List.mem_cons.1 (hx.2 (List.mem_cons_of_mem _ hm1)) with e | e
        · subst e; have := h3 x hm1; omega
        · exact e)]
theorem rise_natsZ {ns : List Nat} (h : ns.Pairwise (fun a b => a < b)) : (natsZ ns).Pairwise (fun a b => a < b) := List.pairwise_map.2 (h.imp (fun h => by omega))
theorem logKeys (ns : List Nat) (vs : Nat → Value) (N : Nat) (h : ns.Pairwise (fun a b => a < b)) (hN : ∀ n ∈ ns, n < N) : grpKeys (logVal ns vs ns.length) N = natsZ ns := by
  refine rise_eq _ _ (sorted_grpKeys _ _) (rise_natsZ h) (fun x => ?_)
  rw [mem_grpKeys, logVal_isSome ns vs x ns.length (Nat.le_refl _)]
  constructor
  · rintro ⟨_, _, j, hj, _, e⟩
    rw [← e]
    exact List.mem_map.2 ⟨ns[j], List.getElem_mem hj, rfl⟩
  · intro hx
    obtain ⟨n, hn, rfl⟩ := List.mem_map.1 hx
    obtain ⟨j, hj, rfl⟩ := List.mem_iff_getElem.1 hn
    have := hN _ hn
    exact ⟨by omega, by omega, j, hj, hj, rfl⟩
theorem rises_sorted {b : List UInt8} {N c : Nat} (h : rises b N c) : (numsL b c).Pairwise (fun a b => a < b) := by
  rw [List.pairwise_iff_getElem]
  intro i j hi hj hij
  rw [numsL_at, numsL_at]
  rw [length_numsL] at hj
  clear hi
  induction j with
  | zero => omega
  | succ j ih =>
    have h1 := (h (j + 1) hj).2 (by omega)
    rw [Nat.add_sub_cancel] at h1
    by_cases e : i = j
    · subst e; exact h1
    · have := ih (by omega) (by omega); omega
theorem headNums_facts {b : List UInt8} {size N : Nat} {ns : List Nat} (h : headNums b size N = some ns) : ns.length ≤ min size 100 ∧ ns.Pairwise (fun a b => a < b) ∧ ∀ n ∈ ns, n < N := by
  unfold headNums at h
  split at h
  · cases h; simp
  · split at h
    · cases h
    · split at h
      · rename_i h1 h2
        cases h
        refine ⟨by rw [length_numsL]; omega, rises_sorted h2.1, fun n hn => ?_⟩
        obtain ⟨i, hi, rfl⟩ := List.mem_iff_getElem.1 hn
        rw [numsL_at]
        rw [length_numsL] at hi
        exact (h2.1 i hi).1
      · cases h
/-- The disk behind Open. -/
def openS (S : DiskS) (size : Nat) (ns : List Nat) : DiskS := if ns = [] then S else homeS S size (logL S ns ns.length) (natsZ ns)
def OpenedTo (S : DiskS) (size K : Nat) (w' : World) (e : Ending) : Prop :=
  (headNums (secL S 0) size (pagesS S size) = none ∧ e = .returned (.tuple #[.pointer none, .int .i64 9])) ∨
  ∃ ns p d', headNums (secL S 0) size (pagesS S size) = some ns ∧ e = .returned (.tuple #[.pointer (some ⟨p, 0, none⟩), .int .i64 0]) ∧ K ≤ p ∧ LogIn w' p d' (openS S size ns) size ns.length (fun i => K ≤ i ∧ i < p)
set_option maxRecDepth 100000 in
set_option maxHeartbeats 4000000 in
theorem open_any (d : DL) (S : DiskS) (F : Nat → Prop) (size : Nat) (w : World) (h : AnyAt w d S F) (hB : S.ops.length ≤ 4096) (h1 : 1 ≤ size) (h2 : size + 2 ≤ S.safe.length) (h5 : ∀ n, n < S.safe.length → (secL S n).length = 512) :
    Calls Tryz.prog 42 #[.pointer (some ⟨d.p, 0, none⟩), .int .i64 size] w fun e w' => Below w.heap.size w w' ∧ OpenedTo S size w.heap.size w' e := by
  have hm := h.rd.plates.most
  have HSe := hid (sectors_disk_rd d S w h.rd)
  have HFk := hid (fork_at d S F w h hB)
  have H5 := hid h5
  have hs1 : (1 : Int) ≤ (size : Int) := by omega
  have hs2 : (size : Int) ≤ (S.safe.length : Int) - 2 := by omega
  clear h h5
  go_enter Tryz.func42, Tryz.ntmps42
  go_wp2_with fail
  refine HSe.out.mono ?_
  clear HSe
  rintro e w1 ⟨rfl, hw1⟩
  obtain rfl := hw1.symm
  go_wp2_with fail
  refine HFk.out.mono ?_
  clear HFk
  rintro e w2 ⟨hb2, d2, rfl, hC, hf⟩
  have HC := hid hC
  have HF := hid hf
  have HB2 := hid hb2
  have HFl : Hid (∀ i, d2.cutFoot S.waits i → i < w2.heap.size) := fun i hi => hi.elim (fun e => by rw [e]; exact lt_of_heap hC.rd.heap) (fun e => hC.rd.plates.foot_lt e)
  have HNu := hid (fun W hW => numbers_any d2 S size (secL S 0) W (hC.rd.below (w' := W) hW) h2 rfl (H5.out 0 (by omega)))
  unfold layV at HNu
  clear hC hf hb2
  have HA := hid ((Below.refl w2.heap.size w2).alloc (Nat.le_refl _) (.cells #[.pointer (some ⟨d2.p, 0, none⟩), .int .i64 size] 98))
  have Hb := hid (block_new w2 (.cells #[.pointer (some ⟨d2.p, 0, none⟩), .int .i64 size] 98))
  go_wp2_with fail
  generalize w2.alloc (.cells #[.pointer (some ⟨d2.p, 0, none⟩), .int .i64 size] 98) = wA at *
  refine (HNu.out _ HA.out).mono ?_
  clear HNu
  rintro e w3 ⟨hb3, hnum⟩
  have hs3 := hb3.size
  have hsA := HA.out.size
  have hs22 := HB2.out.size
  have hbA := lt_of_heap Hb.out
  have HB23 := hid (HA.out.trans (hb3.mono HA.out.size))
  have HB3 := hid (HB2.out.trans (HB23.out.mono HB2.out.size))
  have Hb3 := hid (below_block hb3 Hb.out (lt_of_heap Hb.out))
  rcases hnum with ⟨v, rfl, hno⟩ | ⟨ns, a, c, rfl, hso, hin, hna⟩
  · have HNo := hid hno
    clear hb3 hno HA
    go_wp2
    go_returns
    exact ⟨HB3.out, .inl ⟨HNo.out, rfl⟩⟩
  have HSo := hid hso
  obtain ⟨hnl, hns, hnN⟩ := headNums_facts hso
  have HC3 := hid (HC.out.below HB23.out)
  have c0 : w3.cell? ⟨w2.heap.size, 0, none⟩ = some (.pointer (some ⟨d2.p, 0, none⟩)) := cell_of_block Hb3.out 0
  have c1 : w3.cell? ⟨w2.heap.size, 1, none⟩ = some (.int .i64 size) := cell_of_block Hb3.out 1
  have HLg := hid (fun W (hW : Below w3.heap.size w3 W) => logged_any d2 S size (pagesS S size) ns a c W (HC3.out.below hW).rd (hin.below hW) (by omega) (by omega) hnN (by unfold pagesS; omega) H5.out)
  have HNs := hid hns
  have HNN := hid hnN
  clear hb3 hso hin hna hns hnN HA HC
  by_cases hz : ns = []
  · subst hz
    go_wp2
    go_returns
    have hal := (Below.refl w3.heap.size w3).alloc (Nat.le_refl _) (.cells #[.pointer (some ⟨d2.p, 0, none⟩), .int .i64 size, .int .i64 0] 100)
    refine ⟨HB3.out.trans (hal.mono HB3.out.size), .inr ⟨[], w3.heap.size, d2, HSo.out, rfl, HB3.out.size, block_new _ _, .inl ⟨HC3.out.below hal, fun i hi => ⟨HF.out i hi, ?_⟩⟩, fun h => by omega⟩⟩
    have := HFl.out i hi
    omega
  · have hn0 : (0 : Int) < (ns.length : Int) := by
      have : ns.length ≠ 0 := fun e => hz (List.length_eq_zero_iff.1 e)
      omega
    have HZ := hid hz
    clear hz
    unfold layV at HLg
    go_wp2_with fail
    refine wp_region_noPanic ?_
    refine wp_region_held_drew (S := fun W => W.cell? ⟨w2.heap.size, 0, none⟩ = some (.pointer (some ⟨d2.p, 0, none⟩)) ∧ W.cell? ⟨w2.heap.size, 1, none⟩ = some (.int .i64 size)) (by kernel_rfl) ⟨c0, c1⟩ (fun hHeld => ?_)
    refine wpAnyH_take (i := 0) (v := ?_) rfl (by kernel_rfl) (by kernel_rfl) (by kernel_rfl) (fun _ _ _ h => h) (Or.inl ⟨by rfl, ?_⟩) (by assumption) ?_
    rotate_left
    · (intro W hSw; (try dsimp only at hSw); obtain ⟨s0, s1⟩ := hSw; go_simp; try with_reducible rfl)
    try simp only [List.getElem_toArray, List.getElem_cons_zero, Act.put, List.setIfInBounds_toArray, List.set_cons_zero, List.set_cons_succ]
    refine wpAnyH_take (i := 1) (v := ?_) rfl (by kernel_rfl) (by kernel_rfl) (by kernel_rfl) (fun _ _ _ h => h) (Or.inl ⟨by rfl, ?_⟩) (by assumption) ?_
    rotate_left
    · (intro W hSw; (try dsimp only at hSw); obtain ⟨s0, s1⟩ := hSw; go_simp; try with_reducible rfl)
    try simp only [List.getElem_toArray, List.getElem_cons_succ, List.getElem_cons_zero, Act.put, List.setIfInBounds_toArray, List.set_cons_zero, List.set_cons_succ]
    refine wpAnyH_take (i := 2) (v := ?_) rfl (by kernel_rfl) (by kernel_rfl) (by kernel_rfl) (fun _ _ _ h => h) (Or.inl ⟨by rfl, ?_⟩) (by assumption) ?_
    rotate_left
    · (intro W hSw; (try dsimp only at hSw); obtain ⟨s0, s1⟩ := hSw; go_simp; try with_reducible rfl)
    try simp only [List.getElem_toArray, List.getElem_cons_succ, List.getElem_cons_zero, Act.put, List.setIfInBounds_toArray, List.set_cons_zero, List.set_cons_succ]
    refine wpAnyH_ready (rs := [3]) (by kernel_rfl) (by simp) (AllReadyH.cons rfl (fun K hKK => ?_) AllReadyH.nil)
    rw [if_pos (by rfl)]
    go_simp
    refine (HLg.out w3.drew (Below.refl _ _).drew).mono ?_
    clear HLg
    rintro e w4 ⟨hb4, m, D, vs, rfl, hm4, hG4, hv4⟩
    have hb4' := below_undrew hb4
    have hs4 := hb4'.size
    have hC4 := HC3.out.below hb4'
    have hGB : GrpBytes w4 (logVal ns vs ns.length) (logL S ns ns.length) (fun i => d2.cutFoot S.waits i) := fun n v hnv => by
      obtain ⟨j, hj1, hj2, hj3, hj4⟩ := logVal_some ns vs n v ns.length hnv
      obtain ⟨b, cp, e1, hbK, hby⟩ := hv4 j hj2
      have hl := logL_at S ns HNs.out j hj2 ns.length hj1 (Nat.le_refl _)
      rw [hj3] at hl
      rw [hl]
      refine ⟨⟨b, 0, none⟩, cp, by rw [hj4, e1], hby, H5.out (1 + j) (by omega), fun hfo => ?_⟩
      have h9 := HFl.out b hfo
      have h10 : w3.heap.size ≤ b := hbK
      omega
    have hbr := bring_home d2 S (fun i => d2.cutFoot S.waits i) size m 100 D (pagesS S size) (logVal ns vs ns.length) (logL S ns ns.length) w4 (.inl ⟨hC4, fun _ h => h⟩) (fun i hi => by have := HFl.out i hi; omega) hG4 (fun hfo => by have h9 := HFl.out m hfo; have h10 : w3.heap.size ≤ m := hm4; omega) (by decide) hGB (by unfold pagesS; omega) (by rw [logKeys ns vs _ HNs.out HNN.out]; simp; omega) (by omega)
    rw [logKeys ns vs _ HNs.out HNN.out] at hbr
    unfold layV at hbr
    have HBr := hid hbr
    have d0 := (hb4'.cell (p := ⟨w2.heap.size, 0, none⟩) (by show w2.heap.size < w3.heap.size; omega)).trans c0
    have d1 := (hb4'.cell (p := ⟨w2.heap.size, 1, none⟩) (by show w2.heap.size < w3.heap.size; omega)).trans c1
    have HB4 := hid hb4'
    have Hb4 := hid (below_block hb4' Hb3.out (lt_of_heap Hb3.out))
    clear hb4 hb4' hG4 hv4 hC4 hGB hbr HC3
    go_wp2_with fail
    refine hKK.out _ _ ⟨d0, d1⟩ (fun hHeld => ?_)
    clear hKK K
    try simp only [List.getElem_toArray, List.getElem_cons_succ, List.getElem_cons_zero, Act.put, List.setIfInBounds_toArray, List.set_cons_zero, List.set_cons_succ]
    refine wpAnyH_ready (rs := [4]) (by kernel_rfl) (by simp) (AllReadyH.cons rfl (fun K hKK => ?_) AllReadyH.nil)
    rw [if_pos (by rfl)]
    go_simp
    refine HBr.out.mono ?_
    clear HBr
    rintro e w5 ⟨rfl, d5, e5, hA5, hK5⟩
    have hs5 := hK5.size
    have Hb5 := hid (hK5.heap Hb4.out (fun hfo => by have := HFl.out _ hfo; omega))
    have HA5 := hid hA5
    have HB5 := hid ((HB3.out.trans (HB4.out.mono HB3.out.size)).trans (hK5.below (Nat.le_trans HB3.out.size HB4.out.size) (fun i hi => HF.out i hi)))
    have f0 : w5.cell? ⟨w2.heap.size, 0, none⟩ = some (.pointer (some ⟨d2.p, 0, none⟩)) := cell_of_block Hb5.out 0
    have f1 : w5.cell? ⟨w2.heap.size, 1, none⟩ = some (.int .i64 size) := cell_of_block Hb5.out 1
    have He5 := hid e5
    clear hA5 hK5 d0 d1 e5
    go_wp2_with fail
    refine hKK.out _ _ ⟨f0, f1⟩ (fun hHeld => ?_)
    clear hKK K
    try simp only [List.getElem_toArray, List.getElem_cons_succ, List.getElem_cons_zero, Act.put, List.setIfInBounds_toArray, List.set_cons_zero, List.set_cons_succ]
    refine wpAnyH_done (by kernel_rfl) ?_ _
    refine NoPanic.normal ?_
    go_wp2
    go_returns
    have hal := (Below.refl w5.heap.size w5).alloc (Nat.le_refl _) (.cells #[.pointer (some ⟨d2.p, 0, none⟩), .int .i64 size, .int .i64 ns.length] 100)
    refine ⟨HB5.out.trans (hal.mono HB5.out.size), .inr ⟨ns, w5.heap.size, d5, HSo.out, rfl, HB5.out.size, ?_, ?_, fun h => by omega⟩⟩
    · rw [He5.out.1]; exact block_new _ _
    · rw [openS, if_neg HZ.out]
      refine (HA5.out.below hal).mono (fun i hi => ?_)
      rcases hi with hi | hi
      · have := HFl.out i hi
        exact ⟨HF.out i hi, by omega⟩
      · exact ⟨by omega, hi.2⟩
end Go.Proofs.YtkkmbgjlmdddoabGreat
