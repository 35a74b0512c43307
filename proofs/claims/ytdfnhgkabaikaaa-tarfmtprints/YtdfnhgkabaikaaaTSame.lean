/- dunnageref01.SameBytes, the reference's Same and SameAll: of what is the same. -/
import Derived.Test.YtdfnhgkabaikaaaTLive
namespace Go.Proofs.Ytdfnhgkabaikaaa
open Go.RowKit
theorem Rd.at {w : World} {ao : Option Addr} {n cap : Nat} {bs : List UInt8} (h : Rd w (.slice ao n cap) bs) {k : Nat} (hk : k < bs.length) : ∃ b o, ao = some ⟨b, o, none⟩ ∧ b < w.heap.size ∧ w.cell? ⟨b, o + k, none⟩ = some (B (bs.getD k 0)) := by
  obtain ⟨ao', cap', e, h1, h2, h3, h4⟩ := h
  simp only [Value.slice.injEq] at e
  obtain ⟨rfl, rfl, rfl⟩ := e
  cases ao with
  | none => have := h3 rfl; omega
  | some ad => exact let ⟨b, o, e, hb, hc⟩ := h4 ad rfl k _ (get_some (d := 0) hk); ⟨b, o, by rw [e], hb, hc⟩
set_option maxHeartbeats 1000000 in
theorem same_rd (bs : List UInt8) (u v : Value) (w : World) (ha : Rd w u bs) (hb : Rd w v bs) :
    Calls Try.prog 14 #[u, v] w fun e w' => e = .returned (.bool true) ∧ Below w.heap.size w w' := by
  have HA := hid ha
  have HB := hid hb
  obtain ⟨pa, ca, rfl, q1, q2, -⟩ := ha
  obtain ⟨pb, cb, rfl, -⟩ := hb
  have hne : ((bs.length : Int) != (bs.length : Int)) = false := by rw [bne_eq_false_iff_eq]
  have hmx : (bs.length : Int) ≤ 9223372036854775807 := by omega
  clear q1 q2
  go_enter Try.func14, Try.ntmps14
  go_wp2
  go_loopw [5] (fun i wr => ∃ k : Nat, k ≤ bs.length ∧ i = .int .i64 k ∧ Below w.heap.size w wr) (fun i _ => bs.length - (intOf i).toNat)
  case atStart => exact ⟨0, by omega, rfl, Below.refl _ _⟩
  case round =>
    obtain ⟨k, hk, rfl, hB⟩ := hrel
    by_cases hlt : k < bs.length
    · obtain ⟨b0, o0, rfl, -, d0⟩ := (HA.out.up hB).at hlt
      obtain ⟨b1, o1, rfl, -, d1⟩ := (HB.out.up hB).at hlt
      have hi0 : (0 : Int) ≤ (k : Int) := by omega
      have hi1 : (k : Int) < (bs.length : Int) := by omega
      generalize bs.getD k 0 = x at *
      have hq : (V x != V x) = false := by simp
      go_wp2
      go_quiet (fail)
      go_wp2
      go_roundw
      case rel => exact ⟨k + 1, by omega, by go_num, by first | exact hB.drew | exact below_drewN hB _⟩
      case measure => simp [intOf]; omega
    · have hge : ¬ ((k : Int) < (bs.length : Int)) := by omega
      go_wp2
      go_ret
      exact ⟨rfl, hB⟩
set_option maxHeartbeats 1000000 in
set_option maxRecDepth 100000 in
theorem fsame_true (x : EN) (d1 d2 : Value) (w : World) (ha : Rd w d1 x.data) (hb : Rd w d2 x.data) :
    Calls Try.prog 29 #[.agg #[str x.name, .int .i64 x.kind, .int .i64 x.mode, str x.link, d1], .agg #[str x.name, .int .i64 x.kind, .int .i64 x.mode, str x.link, d2]] w fun e w' => e = .returned (.bool true) ∧ Below w.heap.size w w' := by
  go_enter Try.func29, Try.ntmps29
  go_wp2_with fail
  have hB := ((Below.refl w.heap.size w).alloc (Nat.le_refl _) (.cells #[str x.name, .int .i64 x.kind, .int .i64 x.mode, str x.link, d1] 31)).alloc (by simp) (.cells #[str x.name, .int .i64 x.kind, .int .i64 x.mode, str x.link, d2] 31)
  generalize World.alloc (World.alloc w _) _ = w1 at *
  refine (same_rd x.data d1 d2 w1 (ha.up hB) (hb.up hB)).mono ?_
  rintro e w2 ⟨rfl, hB2⟩
  have HB : Hid (Below w.heap.size w w2) := hB.trans (hB2.mono hB.size)
  clear hB hB2 ha hb
  go_wp2
  go_ret
  exact ⟨rfl, HB.out⟩
theorem below_undrew {K : Nat} {w w' : World} (h : Below K w.drew w') : Below K w w' := ⟨h.os, h.tape, h.output, h.size, h.block⟩
theorem infoE : (Try.prog.info? 31).map (·.size) = some 5 := by kernel_rfl
set_option maxHeartbeats 1000000 in
set_option maxRecDepth 100000 in
theorem fsameAll_true (l1 l2 : List (EN × Value)) (a1 a2 : Option Addr) (c1 c2 : Nat) (w : World) (h1 : entsAt w a1 l1) (h2 : entsAt w a2 l2) (hm : l1.map Prod.fst = l2.map Prod.fst) (hmx : (l1.length : Int) ≤ 9223372036854775807) :
    Calls Try.prog 18 #[.slice a1 l1.length c1, .slice a2 l2.length c2] w fun e w' => e = .returned (.bool true) ∧ Below w.heap.size w w' := by
  have hl : l1.length = l2.length := by have := congrArg List.length hm; simpa using this
  have H1 := hid h1
  have H2 := hid h2
  have HM := hid hm
  have HL := hid hl
  have hne : ((l1.length : Int) != (l2.length : Int)) = false := by rw [bne_eq_false_iff_eq]; omega
  clear h1 h2 hm hl
  go_enter Try.func18, Try.ntmps18
  go_wp2
  go_loopw [5] (fun i wr => ∃ k : Nat, k ≤ l1.length ∧ i = .int .i64 k ∧ Below w.heap.size w wr) (fun i _ => l1.length - (intOf i).toNat)
  case atStart => exact ⟨0, by omega, rfl, Below.refl _ _⟩
  case round =>
    obtain ⟨k, hk, rfl, hB⟩ := hrel
    by_cases hlt : k < l1.length
    · have hlt2 : k < l2.length := by have := HL.out; omega
      have hi0 : (0 : Int) ≤ (k : Int) := by omega
      have hi1 : (k : Int) < (l1.length : Int) := by omega
      have hi2 : (k : Int) < (l2.length : Int) := by omega
      obtain ⟨b1, o1, rfl, hb1, r1, d1⟩ := H1.out.up hB k hlt
      obtain ⟨b2, o2, rfl, hb2, r2, d2⟩ := H2.out.up hB k hlt2
      have hE : l1[k].1 = l2[k].1 := by
        have h0 := congrArg (fun (l : List EN) => l[k]?) HM.out
        simp only [List.getElem?_map, List.getElem?_eq_getElem hlt, List.getElem?_eq_getElem hlt2, Option.map_some, Option.some.injEq] at h0
        exact h0
      rw [← hE] at r2 d2
      generalize l1[k].1 = x at *
      generalize l1[k].2 = v1 at *
      generalize l2[k].2 = v2 at *
      clear hE
      go_wp2
      refine wp_region_noPanic ?_
      refine wp_region_held_drew (S := fun W => W.rangeAt b1 (o1 + k * 5) [str x.name, .int .i64 x.kind, .int .i64 x.mode, str x.link, v1] ∧ W.rangeAt b2 (o2 + k * 5) [str x.name, .int .i64 x.kind, .int .i64 x.mode, str x.link, v2]) (by kernel_rfl) ⟨r1, r2⟩ (fun hHeld => ?_)
      refine wpAnyH_take (i := 0) (v := ?_) rfl (by kernel_rfl) (by kernel_rfl) (by kernel_rfl) (fun _ _ _ h => h) (Or.inl ⟨by rfl, ?_⟩) (by assumption) ?_
      rotate_left
      · (intro W hSw; (try dsimp only at hSw); obtain ⟨s1, s2⟩ := hSw; go_simp; try with_reducible rfl)
      try simp only [List.getElem_toArray, List.getElem_cons_zero, Act.put, List.setIfInBounds_toArray, List.set_cons_zero, List.set_cons_succ]
      refine wpAnyH_take (i := 1) (v := ?_) rfl (by kernel_rfl) (by kernel_rfl) (by kernel_rfl) (fun _ _ _ h => h) (Or.inl ⟨by rfl, ?_⟩) (by assumption) ?_
      rotate_left
      · (intro W hSw; (try dsimp only at hSw); obtain ⟨s1, s2⟩ := hSw; go_simp; try with_reducible rfl)
      try simp only [List.getElem_toArray, List.getElem_cons_succ, List.getElem_cons_zero, Act.put, List.setIfInBounds_toArray, List.set_cons_zero, List.set_cons_succ]
      refine wpAnyH_take (i := 2) (v := ?_) rfl (by kernel_rfl) (by kernel_rfl) (by kernel_rfl) (fun _ _ _ h => h) (Or.inl ⟨by rfl, ?_⟩) (by assumption) ?_
      rotate_left
      · (intro W hSw; (try dsimp only at hSw); obtain ⟨s1, s2⟩ := hSw; go_simp; try with_reducible rfl)
      try simp only [List.getElem_toArray, List.getElem_cons_succ, List.getElem_cons_zero, Act.put, List.setIfInBounds_toArray, List.set_cons_zero, List.set_cons_succ]
      refine wpAnyH_take (i := 3) (v := .agg #[str x.name, .int .i64 x.kind, .int .i64 x.mode, str x.link, v1]) rfl (by kernel_rfl) (by kernel_rfl) (by kernel_rfl) (fun _ _ _ h => h) (yieldsIf_load_mid (by rfl) 31 (.tmp 19) rfl b1 (o1 + k * 5) rfl [str x.name, .int .i64 x.kind, .int .i64 x.mode, str x.link, v1] _ (fun _ h => h.1) Try.underlying31 rfl infoE) (by assumption) ?_
      try simp only [List.getElem_toArray, List.getElem_cons_succ, List.getElem_cons_zero, Act.put, List.setIfInBounds_toArray, List.set_cons_zero, List.set_cons_succ]
      refine wpAnyH_take (i := 4) (v := ?_) rfl (by kernel_rfl) (by kernel_rfl) (by kernel_rfl) (fun _ _ _ h => h) (Or.inl ⟨by rfl, ?_⟩) (by assumption) ?_
      rotate_left
      · (intro W hSw; (try dsimp only at hSw); obtain ⟨s1, s2⟩ := hSw; go_simp; try with_reducible rfl)
      try simp only [List.getElem_toArray, List.getElem_cons_succ, List.getElem_cons_zero, Act.put, List.setIfInBounds_toArray, List.set_cons_zero, List.set_cons_succ]
      refine wpAnyH_take (i := 5) (v := ?_) rfl (by kernel_rfl) (by kernel_rfl) (by kernel_rfl) (fun _ _ _ h => h) (Or.inl ⟨by rfl, ?_⟩) (by assumption) ?_
      rotate_left
      · (intro W hSw; (try dsimp only at hSw); obtain ⟨s1, s2⟩ := hSw; go_simp; try with_reducible rfl)
      try simp only [List.getElem_toArray, List.getElem_cons_succ, List.getElem_cons_zero, Act.put, List.setIfInBounds_toArray, List.set_cons_zero, List.set_cons_succ]
      refine wpAnyH_take (i := 6) (v := ?_) rfl (by kernel_rfl) (by kernel_rfl) (by kernel_rfl) (fun _ _ _ h => h) (Or.inl ⟨by rfl, ?_⟩) (by assumption) ?_
      rotate_left
      · (intro W hSw; (try dsimp only at hSw); obtain ⟨s1, s2⟩ := hSw; go_simp; try with_reducible rfl)
      try simp only [List.getElem_toArray, List.getElem_cons_succ, List.getElem_cons_zero, Act.put, List.setIfInBounds_toArray, List.set_cons_zero, List.set_cons_succ]
      refine wpAnyH_take (i := 7) (v := .agg #[str x.name, .int .i64 x.kind, .int .i64 x.mode, str x.link, v2]) rfl (by kernel_rfl) (by kernel_rfl) (by kernel_rfl) (fun _ _ _ h => h) (yieldsIf_load_mid (by rfl) 31 (.tmp 23) rfl b2 (o2 + k * 5) rfl [str x.name, .int .i64 x.kind, .int .i64 x.mode, str x.link, v2] _ (fun _ h => h.2) Try.underlying31 rfl infoE) (by assumption) ?_
      try simp only [List.getElem_toArray, List.getElem_cons_succ, List.getElem_cons_zero, Act.put, List.setIfInBounds_toArray, List.set_cons_zero, List.set_cons_succ]
      refine wpAnyH_ready (rs := [8]) (by kernel_rfl) (by simp) (AllReadyH.cons rfl (fun K hK => ?_) AllReadyH.nil)
      rw [if_pos (by rfl)]
      go_simp
      refine (fsame_true x v1 v2 wr.drew (d1.up (Below.refl _ _).drew) (d2.up (Below.refl _ _).drew)).mono ?_
      rintro e w1 ⟨rfl, hB1⟩
      have hB2 := below_undrew hB1
      have HB : Hid (Below w.heap.size w w1) := hB.trans (hB2.mono hB.size)
      have HR : Hid (w1.rangeAt b1 (o1 + k * 5) [str x.name, .int .i64 x.kind, .int .i64 x.mode, str x.link, v1] ∧ w1.rangeAt b2 (o2 + k * 5) [str x.name, .int .i64 x.kind, .int .i64 x.mode, str x.link, v2]) := ⟨fun j v hj => (World.cell?_of_block (w := wr) (hB2.block b1 hb1)).trans (r1 j v hj), fun j v hj => (World.cell?_of_block (w := wr) (hB2.block b2 hb2)).trans (r2 j v hj)⟩
      clear hB1 hB2 hB r1 r2 d1 d2
      go_wp2_with fail
      refine hK.out _ _ HR.out (fun hHeld => ?_)
      clear hK K HR
      refine wpAnyH_take (i := 9) (v := ?_) rfl (by kernel_rfl) (by kernel_rfl) (by kernel_rfl) (fun _ _ _ h => h) (Or.inl ⟨by rfl, ?_⟩) (by assumption) ?_
      rotate_left
      · (intro W hSw; (try dsimp only at hSw); obtain ⟨s1, s2⟩ := hSw; go_simp; try with_reducible rfl)
      try simp only [List.getElem_toArray, List.getElem_cons_succ, List.getElem_cons_zero, Act.put, List.setIfInBounds_toArray, List.set_cons_zero, List.set_cons_succ]
      refine wpAnyH_done (by kernel_rfl) ?_ _
      refine NoPanic.normal ?_
      clear hHeld
      go_wp2
      exact ⟨⟨k + 1, by omega, by go_num, HB.out⟩, by simp [intOf]; omega⟩
    · have hge : ¬ ((k : Int) < (l1.length : Int)) := by omega
      go_wp2
      go_ret
      exact ⟨rfl, hB⟩
end Go.Proofs.Ytdfnhgkabaikaaa
