/- Free; Page. -/
import Derived.Laws.Cover3
import Derived.Test.YtkkmbgjlmdddoabGreatBaseG
import Derived.Test.YtkkmbgjlmdddoabGreatAlCount
namespace Go.Proofs.YtkkmbgjlmdddoabGreat
open Go.RowKit
section
variable {w : World} {m c ino : Nat} {F : Nat → Prop} {size N : Nat} {Pg Cm : Nat → List UInt8} {D : Int → Bool} {o u : Nat}
set_option maxRecDepth 100000 in
set_option maxHeartbeats 2000000 in
theorem aFree_any (h : mapB w m c ino) (hmF : ¬ F m) (hN : N ≤ 519) (hN2 : 3 ≤ N) (hi : ino ≤ 512) (hu : u < 999999) (hp : Pc w c F size N Pg Cm D o u) :
    Calls Tryz.prog 10 #[.pointer (some ⟨m, 0, none⟩)] w fun e w' => e = .returned (.tuple #[.int .i64 (freeTo (Pg 2) (3 + ino / 8) N 4096).length, .int .i64 (freeTo (Pg 1) 1 ino 4096).length]) ∧ Keeps F w w' ∧ Pc w' c F size N Pg Cm D o (u + 2) := by
  have HO := hid (amofPages_any h hi hp)
  have HM := hid h
  have HP := hid hp
  have HFl := hid hp.lt
  obtain ⟨p1, hq1⟩ : ∃ p1, p1 = (freeTo (Pg 2) (3 + ino / 8) N 4096).length := ⟨_, rfl⟩
  obtain ⟨p2, hq2⟩ : ∃ p2, p2 = (freeTo (Pg 1) 1 ino 4096).length := ⟨_, rfl⟩
  have hl1 : p1 < 520 := by rw [hq1]; exact Nat.lt_succ_of_le (freeTo_few _ _ _ hN)
  have hl2 : p2 < 520 := by rw [hq2]; exact Nat.lt_succ_of_le (freeTo_few _ _ _ (by omega))
  have HCt := hid (fun (W : World) (hW : Below w.heap.size w W) (kb : Nat) (hkb : W.heap[kb]? = some (.cells #[.int .i64 2, .int .i64 (3 + ino / 8 : Nat), .int .i64 N, .complex .f64 4607182418800017408 0, .int .i64 1, .int .i64 1, .int .i64 ino, .complex .f64 0 4607182418800017408] 68 (0, 0))) (hkF : ¬ F kb) => acount_any (h.below hW) hmF kb (3 + ino / 8) hkb hkF hN hN2 hi hu (hp.below hW))
  rw [← hq1, ← hq2] at HCt ⊢
  obtain ⟨f, hf⟩ : ∃ f, f = 3 + ino / 8 := ⟨_, rfl⟩
  rw [← hf] at HO HCt
  have e1 := fN_int p1 hl1
  have e2 := fN_int p2 hl2
  clear h hp hq1 hq2 hf hl1 hl2
  unfold numV oneF at HO
  go_enter Tryz.func10, Tryz.ntmps10
  go_wp2_with fail
  refine HO.out.mono ?_
  clear HO
  rintro e w1 ⟨rfl, hb1⟩
  have HB1 := hid hb1
  have hoi := amofInodes_any (HM.out.below hb1)
  unfold numV oneF at hoi
  have HOi := hid hoi
  clear hb1 hoi
  go_wp2_with fail
  refine HOi.out.mono ?_
  clear HOi
  rintro e w2 ⟨rfl, hb2⟩
  have HB2 := hid (HB1.out.trans (hb2.mono HB1.out.size))
  clear hb2
  have hb3 : Below w2.heap.size w2 (w2.alloc (.cells #[.int .i64 2, .int .i64 f, .int .i64 N, .complex .f64 4607182418800017408 0, .int .i64 1, .int .i64 1, .int .i64 ino, .complex .f64 0 4607182418800017408] 68)) := (Below.refl _ w2).alloc (Nat.le_refl _) _
  have hb03 := HB2.out.trans (hb3.mono HB2.out.size)
  have HCc := hid (HCt.out _ hb03 w2.heap.size (block_new w2 _) (fun hf => by have := HFl.out _ hf; have := HB2.out.size; omega))
  have HK3 : Hid (Keeps F w (w2.alloc (.cells #[.int .i64 2, .int .i64 f, .int .i64 N, .complex .f64 4607182418800017408 0, .int .i64 1, .int .i64 1, .int .i64 ino, .complex .f64 0 4607182418800017408] 68))) := Keeps.of_below hb03
  clear hb3 hb03 HCt
  go_wp2_with fail
  refine HCc.out.mono ?_
  clear HCc
  rintro e w4 ⟨rfl, hk4, hp4⟩
  have HK4 := hid (HK3.out.trans hk4 (fun i e => .inl e))
  have HP4 := hid hp4
  have g1 : ∀ W, (convert 75 3 (.float .f64 (fN p1))).run Tryz.prog W = .ok (.int .i64 p1) W := fun W => run_convert_float_int W 75 3 .f64 .i64 (fN p1) p1 (by rw [Tryz.underlying75]; rfl) Tryz.underlying3 e1
  have g2 : ∀ W, (convert 75 3 (.float .f64 (fN p2))).run Tryz.prog W = .ok (.int .i64 p2) W := fun W => run_convert_float_int W 75 3 .f64 .i64 (fN p2) p2 (by rw [Tryz.underlying75]; rfl) Tryz.underlying3 e2
  clear hk4 hp4 e1 e2
  go_wp2
  go_returns
  exact ⟨rfl, HK4.out, HP4.out⟩
theorem freeTo_first {L : List UInt8} {a z q : Nat} {rest : List Nat} (h : freeTo L a z 4096 = q :: rest) : a ≤ q ∧ q < z ∧ bitL L q = false := by
  have hm : q ∈ freeTo L a z 4096 := by rw [h]; exact List.mem_cons_self
  unfold freeTo at hm
  have h2 := (List.mem_filter.1 hm).2
  unfold isFree at h2
  simp only [Bool.and_eq_true, decide_eq_true_eq, Bool.not_eq_true'] at h2
  exact ⟨h2.1.1, h2.1.2, h2.2⟩
theorem length_zN5 : (zN 512).length = 512 := length_zN 512
/-- What Page tells. -/
def PageTo (w : World) (c : Nat) (F : Nat → Prop) (size N : Nat) (Pg Cm : Nat → List UInt8) (D : Int → Bool) (o u a : Nat) (e : Ending) (w' : World) : Prop :=
  Keeps F w w' ∧ ((freeTo (Pg 2) a N 4096 = [] ∧ e = .returned (.tuple #[.int .i64 0, .int .i64 7]) ∧ Pc w' c F size N Pg Cm D o (u + 1)) ∨
    ∃ (q : Nat) (rest : List Nat), freeTo (Pg 2) a N 4096 = q :: rest ∧ ((min size 100 < (dkD N D).length + ((if D 2 then 0 else 1) + (if D q then 0 else 1)) ∧ e = .returned (.tuple #[.int .i64 0, .int .i64 7]) ∧ Pc w' c F size N Pg Cm D o (u + 1)) ∨
      ((dkD N D).length + ((if D 2 then 0 else 1) + (if D q then 0 else 1)) ≤ min size 100 ∧ e = .returned (.tuple #[.int .i64 q, .int .i64 0]) ∧ Pc w' c F size N (updP (updP Pg 2 (flipL (Pg 2) q)) q (zN 512)) Cm (updT (updT D 2) q) o (u + 1))))
set_option maxRecDepth 100000 in
set_option maxHeartbeats 4000000 in
theorem aPage_any (h : mapB w m c ino) (hmF : ¬ F m) (hi : ino ≤ 512) (hN : 3 ≤ N) (hu : u < 1000000) (hp : Pc w c F size N Pg Cm D o u) :
    Calls Tryz.prog 7 #[.pointer (some ⟨m, 0, none⟩)] w (PageTo w c F size N Pg Cm D o u (3 + ino / 8)) := by
  have hN4 := hp.four
  have HO := hid (amofPages_any h hi hp)
  have HFl := hid hp.lt
  have HLen := hid (hp.len 2 (by omega))
  have HNx := hid (fun W (hW : Below w.heap.size w W) => anext_any (h.below hW) hmF 2 (3 + ino / 8) N oneF 0 (by omega) hN4 hu (hp.below hW))
  have HM := hid h
  obtain ⟨f, hf⟩ : ∃ f, f = 3 + ino / 8 := ⟨_, rfl⟩
  rw [← hf] at HO HNx ⊢
  clear h hp hf
  go_enter Tryz.func7, Tryz.ntmps7
  go_wp2_with fail
  refine HO.out.mono ?_
  clear HO
  rintro e w1 ⟨rfl, hb1⟩
  have HB1 := hid hb1
  have HN1 := hid (HNx.out w1 hb1)
  clear HNx hb1
  go_wp2_with fail
  refine HN1.out.mono ?_
  clear HN1
  rintro e w2 ⟨hk2, hp2, hx⟩
  have HK2 := hid ((Keeps.of_below HB1.out : Keeps F w w1).trans hk2 (fun i e => .inl e))
  have HP2 := hid hp2
  have HM2 : Hid (mapB w2 m c ino) := (HM.out.below HB1.out).keep hk2 hmF
  have Hs := hid hk2.size
  clear hk2 hp2
  rcases hx with ⟨h0, rfl⟩ | ⟨q, rest, g, cap, h0, hq4, rfl, hg, hby⟩
  · have H0 := hid h0
    have hb3 : Below w2.heap.size w2 (w2.alloc (.cells #[.int .i64 0, .slice none 0 0] 63)) := (Below.refl _ w2).alloc (Nat.le_refl _) _
    have HB3 := hid hb3
    clear h0 hb3
    go_wp2
    go_returns
    exact ⟨HK2.out.trans (Keeps.of_below HB3.out : Keeps (fun _ => False) w2 _) (fun i e => e.elim), .inl ⟨H0.out, rfl, HP2.out.below HB3.out⟩⟩
  · have H0 := hid h0
    have hff := freeTo_first h0
    obtain ⟨wa, hwa⟩ : ∃ wa, wa = w2.alloc (.cells #[.int .i64 2, .slice (some ⟨g, 0, none⟩) 512 cap] 63) := ⟨_, rfl⟩
    have hb3 : Below w2.heap.size w2 wa := by rw [hwa]; exact (Below.refl _ w2).alloc (Nat.le_refl _) _
    have hbx : wa.heap[w2.heap.size]? = some (.cells #[.int .i64 2, .slice (some ⟨g, 0, none⟩) 512 cap] 63 (0, 0)) := by rw [hwa]; exact block_new w2 _
    have HBx := hid hbx
    have HB3 := hid hb3
    have HK3 : Hid (Keeps F w wa) := HK2.out.trans (Keeps.of_below hb3 : Keeps (fun _ => False) w2 _) (fun i e => e.elim)
    have Hby : Hid (bytesAt wa ⟨g, 0, none⟩ (flipL (Pg 2) q)) := fun j hj => (hb3.cell (World.block_lt_of_cell? w2 _ (hby j hj))).trans (hby j hj)
    have Hg : Hid (w.heap.size ≤ g) := Nat.le_trans HB1.out.size hg
    have hCx : ∀ W, Below wa.heap.size wa W → W.cell? ⟨w2.heap.size, 0, none⟩ = some (.int .i64 2) ∧ W.cell? ⟨w2.heap.size, 1, none⟩ = some (.slice (some ⟨g, 0, none⟩) 512 cap) := fun W hW => by
      have hw := below_block hW hbx (lt_of_heap hbx)
      exact ⟨cell_of_block hw 0, cell_of_block hw 1⟩
    have HCx := hid hCx
    have hS0 := hCx wa (Below.refl _ _)
    have Hff := hid hff
    clear h0 hff hb3 hbx hby hg hCx
    obtain ⟨nb, hnb⟩ : ∃ nb, nb = w2.heap.size := ⟨_, rfl⟩
    rw [← hnb] at HCx hS0 HBx
    go_wp2
    rw [← hwa, ← hnb]
    have HNb : Hid (w.heap.size ≤ nb) := by rw [hnb]; exact HK2.out.size
    clear hwa hnb
    refine wp_region_noPanic ?_
    refine wp_region_held_drew (S := fun W => W.cell? ⟨nb, 0, none⟩ = some (.int .i64 2) ∧ W.cell? ⟨nb, 1, none⟩ = some (.slice (some ⟨g, 0, none⟩) 512 cap)) (by kernel_rfl) hS0 (fun hHeld => ?_)
    refine wpAnyH_take (i := 0) (v := ?_) rfl (by kernel_rfl) (by kernel_rfl) (by kernel_rfl) (fun _ _ _ h => h) (Or.inl ⟨by rfl, ?_⟩) (by assumption) ?_
    rotate_left
    · (intro W hSw; (try dsimp only at hSw); obtain ⟨s0, s1⟩ := hSw; go_simp; try with_reducible rfl)
    try simp only [List.getElem_toArray, List.getElem_cons_zero, Act.put, List.setIfInBounds_toArray, List.set_cons_zero, List.set_cons_succ]
    refine wpAnyH_take (i := 1) (v := ?_) rfl (by kernel_rfl) (by kernel_rfl) (by kernel_rfl) (fun _ _ _ h => h) (Or.inl ⟨by rfl, ?_⟩) (by assumption) ?_
    rotate_left
    · (intro W hSw; (try dsimp only at hSw); obtain ⟨s0, s1⟩ := hSw; go_simp; try with_reducible rfl)
    try simp only [List.getElem_toArray, List.getElem_cons_succ, List.getElem_cons_zero, Act.put, List.setIfInBounds_toArray, List.set_cons_zero, List.set_cons_succ]
    refine wpAnyH_take (i := 2) (v := ?_) rfl (by kernel_rfl) (by kernel_rfl) (by kernel_rfl) (fun _ _ _ h => h) (Or.inl ⟨by rfl, ?_⟩) (by assumption) ?_
    rotate_left
    · (intro W hSw; (try dsimp only at hSw); obtain ⟨s0, s1⟩ := hSw; go_simp; try with_reducible rfl)
    try simp only [List.getElem_toArray, List.getElem_cons_succ, List.getElem_cons_zero, Act.put, List.setIfInBounds_toArray, List.set_cons_zero, List.set_cons_succ]
    refine wpAnyH_take (i := 3) (v := ?_) rfl (by kernel_rfl) (by kernel_rfl) (by kernel_rfl) (fun _ _ _ h => h) (Or.inl ⟨by rfl, ?_⟩) (by assumption) ?_
    rotate_left
    · (intro W hSw; (try dsimp only at hSw); obtain ⟨s0, s1⟩ := hSw; go_simp; try with_reducible rfl)
    try simp only [List.getElem_toArray, List.getElem_cons_succ, List.getElem_cons_zero, Act.put, List.setIfInBounds_toArray, List.set_cons_zero, List.set_cons_succ]
    refine wpAnyH_ready (rs := [4]) (by kernel_rfl) (by simp) (AllReadyH.cons rfl (fun K hK => ?_) AllReadyH.nil)
    rw [if_pos (by rfl)]
    go_simp
    refine (noughts_any wa.drew).mono ?_
    rintro e w4 ⟨rfl, hz4, hb4⟩
    have hb04 : Below wa.heap.size wa w4 := (Below.refl _ wa).drew.trans (hb4.mono (Nat.le_refl _))
    have HZ4 := hid hz4
    have HB4 := hid hb04
    have hz := HCx.out w4 hb04
    clear hz4 hb4 hb04 hS0
    obtain ⟨zb, hzb⟩ : ∃ zb, zb = wa.drew.heap.size := ⟨_, rfl⟩
    rw [← hzb] at HZ4 ⊢
    have HZb : Hid (zb = wa.heap.size) := hzb
    clear hzb
    go_wp2_with fail
    refine hK.out _ _ hz (fun hHeld => ?_)
    clear hK K
    try simp only [List.getElem_toArray, List.getElem_cons_succ, List.getElem_cons_zero, Act.put, List.setIfInBounds_toArray, List.set_cons_zero, List.set_cons_succ]
    refine wpAnyH_take (i := 5) (v := ?_) rfl (by kernel_rfl) (by kernel_rfl) (by kernel_rfl) (fun _ _ _ h => h) (Or.inl ⟨by rfl, ?_⟩) (by assumption) ?_
    rotate_left
    · (intro W hSw; (try dsimp only at hSw); obtain ⟨s0, s1⟩ := hSw; go_simp; try with_reducible rfl)
    try simp only [List.getElem_toArray, List.getElem_cons_succ, List.getElem_cons_zero, Act.put, List.setIfInBounds_toArray, List.set_cons_zero, List.set_cons_succ]
    refine wpAnyH_ready (rs := [6]) (by kernel_rfl) (by simp) (AllReadyH.cons rfl (fun K hK => ?_) AllReadyH.nil)
    rw [if_pos (by rfl)]
    go_simp
    have hb5 : Below w4.heap.size w4 (w4.alloc (.cells #[.int .i64 2, .slice (some ⟨g, 0, none⟩) 512 cap, .int .i64 q, .slice (some ⟨zb, 0, none⟩) 512 512] 63)) := (Below.refl _ w4).alloc (Nat.le_refl _) _
    have hb05 := HB4.out.trans (hb5.mono HB4.out.size)
    have hz5 := HCx.out _ hb05
    have hK5 : Keeps F w (w4.alloc (.cells #[.int .i64 2, .slice (some ⟨g, 0, none⟩) 512 cap, .int .i64 q, .slice (some ⟨zb, 0, none⟩) 512 512] 63)) := HK3.out.trans (Keeps.of_below hb05 : Keeps (fun _ => False) wa _) (fun i e => e.elim)
    have hbl5 := block_new w4 (.cells #[.int .i64 2, .slice (some ⟨g, 0, none⟩) 512 cap, .int .i64 q, .slice (some ⟨zb, 0, none⟩) 512 512] 63)
    have hws : WPgs (w4.alloc (.cells #[.int .i64 2, .slice (some ⟨g, 0, none⟩) 512 cap, .int .i64 q, .slice (some ⟨zb, 0, none⟩) 512 512] 63)) w4.heap.size [⟨2, g, cap, flipL (Pg 2) q⟩, ⟨q, zb, 512, zN 512⟩] F N := by
      refine ⟨fun i hi => ?_, fun _ hf => ?_, fun p hp => ?_⟩
      · have hi2 : i = 0 ∨ i = 1 := by simp at hi; omega
        rcases hi2 with rfl | rfl
        · exact ⟨cell_of_block hbl5 0, cell_of_block hbl5 1⟩
        · exact ⟨cell_of_block hbl5 2, cell_of_block hbl5 3⟩
      · have h1 := HFl.out _ hf
        have h2 := HK3.out.size
        have h3 := HB4.out.size
        omega
      · simp only [List.mem_cons, List.mem_nil_iff, or_false] at hp
        rcases hp with rfl | rfl
        · refine ⟨by show 2 < N; omega, by show (flipL (Pg 2) q).length = 512; rw [length_flipL]; exact HLen.out, fun j hj => (hb05.cell (World.block_lt_of_cell? wa _ (Hby.out j hj))).trans (Hby.out j hj), fun hf => ?_⟩
          have h1 := HFl.out _ hf
          have h2 := Hg.out
          have h3 : g < w.heap.size := h1
          omega
        · refine ⟨Hff.out.2.1, length_zN5, (HZ4.out.below hb5).at, fun hf => ?_⟩
          have h1 : zb < w.heap.size := HFl.out _ hf
          have h2 := HK3.out.size
          have h3 := HZb.out
          omega
    have HWr := hid (awrite_any (((HM2.out.below HB3.out).below hb05)) hmF w4.heap.size _ hws 2 (by simp) (by simp) ((HP2.out.below HB3.out).below hb05))
    have HK5 := hid hK5
    clear hb5 hb05 hK5 hbl5 hws hz
    generalize w4.alloc (.cells #[.int .i64 2, .slice (some ⟨g, 0, none⟩) 512 cap, .int .i64 q, .slice (some ⟨zb, 0, none⟩) 512 512] 63) = w5 at *
    generalize w4.heap.size = pb at *
    refine hK.out _ _ hz5 (fun hHeld => ?_)
    clear hK K
    try simp only [List.getElem_toArray, List.getElem_cons_succ, List.getElem_cons_zero, Act.put, List.setIfInBounds_toArray, List.set_cons_zero, List.set_cons_succ]
    have HCz : Hid (∀ W, Keeps F w5 W → W.cell? ⟨nb, 0, none⟩ = some (.int .i64 2) ∧ W.cell? ⟨nb, 1, none⟩ = some (.slice (some ⟨g, 0, none⟩) 512 cap)) := fun W hW => by
      have hF : ¬ F nb := fun hf => by
        have h1 := HFl.out _ hf
        have h2 := HNb.out
        omega
      exact ⟨hW.cell hz5.1 hF, hW.cell hz5.2 hF⟩
    refine wpAnyH_ready (rs := [7]) (by kernel_rfl) (by simp) (AllReadyH.cons rfl (fun K hK => ?_) AllReadyH.nil)
    rw [if_pos (by rfl)]
    go_simp
    refine HWr.out.mono ?_
    clear HWr
    rintro e w6 ⟨hk6, hw6⟩
    have HK6 := hid (HK5.out.trans hk6 (fun i e => .inl e))
    have hz6 := HCz.out w6 hk6
    rw [newC_cons, newC_one] at hw6
    clear hk6 hz5
    rcases hw6 with ⟨hf, rfl, hp6⟩ | ⟨hf, rfl, hp6⟩
    · have HP6 := hid hp6
      have Hf := hid hf
      clear hp6 hf
      go_wp2_with fail
      refine hK.out _ _ hz6 (fun hHeld => ?_)
      clear hK K
      try simp only [List.getElem_toArray, List.getElem_cons_succ, List.getElem_cons_zero, Act.put, List.setIfInBounds_toArray, List.set_cons_zero, List.set_cons_succ]
      refine wpAnyH_ready (rs := [8]) (by kernel_rfl) (by simp) (AllReadyH.cons rfl (fun K hK => ?_) AllReadyH.nil)
      rw [if_pos (by rfl)]
      go_simp
      refine (aanswer_any (q : Int) 7 w6).mono ?_
      rintro e w7 ⟨rfl, h7⟩
      obtain rfl := h7.symm
      clear h7
      go_wp2_with fail
      refine hK.out _ _ hz6 (fun hHeld => ?_)
      clear hK K
      try simp only [List.getElem_toArray, List.getElem_cons_succ, List.getElem_cons_zero, Act.put, List.setIfInBounds_toArray, List.set_cons_zero, List.set_cons_succ]
      refine wpAnyH_take (i := 9) (v := ?_) rfl (by kernel_rfl) (by kernel_rfl) (by kernel_rfl) (fun _ _ _ h => h) (Or.inl ⟨by rfl, ?_⟩) (by assumption) ?_
      rotate_left
      · (intro W hSw; (try dsimp only at hSw); obtain ⟨s0, s1⟩ := hSw; go_simp; try with_reducible rfl)
      try simp only [List.getElem_toArray, List.getElem_cons_succ, List.getElem_cons_zero, Act.put, List.setIfInBounds_toArray, List.set_cons_zero, List.set_cons_succ]
      refine wpAnyH_take (i := 10) (v := ?_) rfl (by kernel_rfl) (by kernel_rfl) (by kernel_rfl) (fun _ _ _ h => h) (Or.inl ⟨by rfl, ?_⟩) (by assumption) ?_
      rotate_left
      · (intro W hSw; (try dsimp only at hSw); obtain ⟨s0, s1⟩ := hSw; go_simp; try with_reducible rfl)
      try simp only [List.getElem_toArray, List.getElem_cons_succ, List.getElem_cons_zero, Act.put, List.setIfInBounds_toArray, List.set_cons_zero, List.set_cons_succ]
      refine wpAnyH_take (i := 11) (v := ?_) rfl (by kernel_rfl) (by kernel_rfl) (by kernel_rfl) (fun _ _ _ h => h) (Or.inl ⟨by rfl, ?_⟩) (by assumption) ?_
      rotate_left
      · (intro W hSw; (try dsimp only at hSw); obtain ⟨s0, s1⟩ := hSw; go_simp; try with_reducible rfl)
      try simp only [List.getElem_toArray, List.getElem_cons_succ, List.getElem_cons_zero, Act.put, List.setIfInBounds_toArray, List.set_cons_zero, List.set_cons_succ]
      refine wpAnyH_take (i := 12) (v := ?_) rfl (by kernel_rfl) (by kernel_rfl) (by kernel_rfl) (fun _ _ _ h => h) (Or.inl ⟨by rfl, ?_⟩) (by assumption) ?_
      rotate_left
      · (intro W hSw; (try dsimp only at hSw); obtain ⟨s0, s1⟩ := hSw; go_simp; try with_reducible rfl)
      try simp only [List.getElem_toArray, List.getElem_cons_succ, List.getElem_cons_zero, Act.put, List.setIfInBounds_toArray, List.set_cons_zero, List.set_cons_succ]
      refine wpAnyH_done (by kernel_rfl) ?_ _
      refine NoPanic.normal ?_
      clear hHeld hz6
      go_wp2
      go_returns
      exact ⟨HK6.out, .inr ⟨q, rest, H0.out, .inl ⟨Hf.out, rfl, HP6.out⟩⟩⟩
    · have HP6 := hid hp6
      have Hf := hid hf
      clear hp6 hf
      go_wp2_with fail
      refine hK.out _ _ hz6 (fun hHeld => ?_)
      clear hK K
      try simp only [List.getElem_toArray, List.getElem_cons_succ, List.getElem_cons_zero, Act.put, List.setIfInBounds_toArray, List.set_cons_zero, List.set_cons_succ]
      refine wpAnyH_ready (rs := [8]) (by kernel_rfl) (by simp) (AllReadyH.cons rfl (fun K hK => ?_) AllReadyH.nil)
      rw [if_pos (by rfl)]
      go_simp
      refine (aanswer_any (q : Int) 0 w6).mono ?_
      rintro e w7 ⟨rfl, h7⟩
      obtain rfl := h7.symm
      clear h7
      rw [if_pos rfl]
      go_wp2_with fail
      refine hK.out _ _ hz6 (fun hHeld => ?_)
      clear hK K
      try simp only [List.getElem_toArray, List.getElem_cons_succ, List.getElem_cons_zero, Act.put, List.setIfInBounds_toArray, List.set_cons_zero, List.set_cons_succ]
      refine wpAnyH_take (i := 9) (v := ?_) rfl (by kernel_rfl) (by kernel_rfl) (by kernel_rfl) (fun _ _ _ h => h) (Or.inl ⟨by rfl, ?_⟩) (by assumption) ?_
      rotate_left
      · (intro W hSw; (try dsimp only at hSw); obtain ⟨s0, s1⟩ := hSw; go_simp; try with_reducible rfl)
      try simp only [List.getElem_toArray, List.getElem_cons_succ, List.getElem_cons_zero, Act.put, List.setIfInBounds_toArray, List.set_cons_zero, List.set_cons_succ]
      refine wpAnyH_take (i := 10) (v := ?_) rfl (by kernel_rfl) (by kernel_rfl) (by kernel_rfl) (fun _ _ _ h => h) (Or.inl ⟨by rfl, ?_⟩) (by assumption) ?_
      rotate_left
      · (intro W hSw; (try dsimp only at hSw); obtain ⟨s0, s1⟩ := hSw; go_simp; try with_reducible rfl)
      try simp only [List.getElem_toArray, List.getElem_cons_succ, List.getElem_cons_zero, Act.put, List.setIfInBounds_toArray, List.set_cons_zero, List.set_cons_succ]
      refine wpAnyH_take (i := 11) (v := ?_) rfl (by kernel_rfl) (by kernel_rfl) (by kernel_rfl) (fun _ _ _ h => h) (Or.inl ⟨by rfl, ?_⟩) (by assumption) ?_
      rotate_left
      · (intro W hSw; (try dsimp only at hSw); obtain ⟨s0, s1⟩ := hSw; go_simp; try with_reducible rfl)
      try simp only [List.getElem_toArray, List.getElem_cons_succ, List.getElem_cons_zero, Act.put, List.setIfInBounds_toArray, List.set_cons_zero, List.set_cons_succ]
      refine wpAnyH_take (i := 12) (v := ?_) rfl (by kernel_rfl) (by kernel_rfl) (by kernel_rfl) (fun _ _ _ h => h) (Or.inl ⟨by rfl, ?_⟩) (by assumption) ?_
      rotate_left
      · (intro W hSw; (try dsimp only at hSw); obtain ⟨s0, s1⟩ := hSw; go_simp; try with_reducible rfl)
      try simp only [List.getElem_toArray, List.getElem_cons_succ, List.getElem_cons_zero, Act.put, List.setIfInBounds_toArray, List.set_cons_zero, List.set_cons_succ]
      refine wpAnyH_done (by kernel_rfl) ?_ _
      refine NoPanic.normal ?_
      clear hHeld hz6
      go_wp2
      go_returns
      exact ⟨HK6.out, .inr ⟨q, rest, H0.out, .inr ⟨Hf.out, rfl, HP6.out⟩⟩⟩
end
end Go.Proofs.YtkkmbgjlmdddoabGreat
